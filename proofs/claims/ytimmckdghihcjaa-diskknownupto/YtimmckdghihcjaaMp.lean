/- A disk's map of slots to pages: what is looked up, stored, deleted, how many keys it has; no condition but that the slots' number is at most 1024. -/
import Derived.Test.YtimmckdghihcjaaBa
import Derived.Lib.SlKeysI
namespace Go.Proofs.Ytimmckdghihcjaa
open Go.ChangeShapes Go.WideShapes Go.ChangeAt Go.RowKit
set_option linter.unusedVariables false

/-- How a slot's page reads: as itself. -/
def Rv (v : Value) : Option (DataW Value × List MemPlace) := some (.held v, [])
/-- A page as a value. -/
def pv (h : Nat → Int) : Value := .agg (vals 256 h).toArray
/-- Slot j has the page h now. -/
def pt (m : Nat → Option (Nat → Int)) (j : Nat) (h : Option (Nat → Int)) : Nat → Option (Nat → Int) := fun i => if i = j then h else m i
/-- What a map's data say of the slots. -/
structure Vw (D : DataW Value) (N : Nat) (m : Nat → Option (Nat → Int)) : Prop where
  has : ∀ k : Int, Maps.has D (.int .i64 k) = true ↔ ∃ (j : Nat) (h : Nat → Int), k = j ∧ m j = some h
  at' : ∀ (j : Nat) h, m j = some h → ∀ z, D.atKey (.int .i64 j) z = .held (pv h)
  lt : ∀ j h, m j = some h → j < N ∧ okB 256 h
/-- Block b is the map of N slots whose pages are m. -/
def Mp (w : World) (b N : Nat) (m : Nat → Option (Nat → Int)) : Prop := ∃ D, w.ownsMap Try.prog 3 Rv b N D ∧ Vw D N m
theorem keyed : Maps.Keyed Try.prog 3 := Maps.int_keyed Try.underlying3
theorem key_at (j : Nat) (h : j ≤ 1024) : keyOf Try.prog 3 (.int .i64 j) = some (.int .i64 j) :=
  Maps.keyOf_int_mk Try.underlying3 (by simp [Lit.wf, IntKind.min, IntKind.max, IntKind.bits, IntKind.signed]; omega)
theorem Mp.lt {w : World} {b N : Nat} {m : Nat → Option (Nat → Int)} (h : Mp w b N m) : b < w.heap.size := by
  obtain ⟨D, ho, _⟩ := h
  exact ho.lt
theorem Mp.kept {w w' : World} {b N : Nat} {m : Nat → Option (Nat → Int)} {row : Option Nat} (h : Mp w b N m) (g : w.grownBy w' row) (hne : some b ≠ row) : Mp w' b N m := by
  obtain ⟨D, ho, hv⟩ := h
  exact ⟨D, ho.kept g hne, hv⟩
theorem Mp.ok {w : World} {b N : Nat} {m : Nat → Option (Nat → Int)} (h : Mp w b N m) {j : Nat} {u : Nat → Int} (e : m j = some u) : j < N ∧ okB 256 u := by
  obtain ⟨D, ho, hv⟩ := h
  exact hv.lt j u e
theorem mp_new (w : World) (N : Nat) : Mp (w.alloc (.map #[] 0)) w.heap.size N (fun _ => none) :=
  ⟨_, (World.ownsMap_made w Try.prog 3 Rv).mono (Nat.zero_le _), ⟨fun k => by simp [Maps.has], fun j h e => by simp at e, fun j h e => by simp at e⟩⟩
/-- The slots that have a page, rising. -/
def us (N : Nat) (m : Nat → Option (Nat → Int)) : List Nat := (List.range N).filter fun j => (m j).isSome
def usI (N : Nat) (m : Nat → Option (Nat → Int)) : List Int := (us N m).map (fun j : Nat => (j : Int))
theorem mem_usI {D : DataW Value} {N : Nat} {m : Nat → Option (Nat → Int)} (v : Vw D N m) (x : Int) : x ∈ usI N m ↔ Maps.has D (.int .i64 x) = true := by
  rw [v.has x]
  simp only [usI, us, List.mem_map, List.mem_filter, List.mem_range]
  constructor
  · rintro ⟨j, ⟨h1, h2⟩, rfl⟩
    obtain ⟨h, e⟩ := Option.isSome_iff_exists.1 h2
    exact ⟨j, h, rfl, e⟩
  · rintro ⟨j, h, rfl, e⟩
    exact ⟨j, ⟨(v.lt j h e).1, by rw [e]; rfl⟩, rfl⟩
theorem usI_lt (N : Nat) (m : Nat → Option (Nat → Int)) : (usI N m).Pairwise (· < ·) := by
  unfold usI us
  rw [List.pairwise_map]
  refine List.Pairwise.imp ?_ (List.Pairwise.filter _ (List.pairwise_lt_range))
  intro a b h
  omega
theorem usI_nodup (N : Nat) (m : Nat → Option (Nat → Int)) : (usI N m).Nodup := (usI_lt N m).imp (fun h => by omega)
theorem us_len (N : Nat) (m : Nat → Option (Nat → Int)) : (usI N m).length ≤ N := by
  unfold usI us
  rw [List.length_map]
  exact Nat.le_trans (List.length_filter_le _ _) (by simp)
theorem keys_perm {w : World} {b n N : Nat} {D : DataW Value} {m : Nat → Option (Nat → Int)} (ho : w.ownsMap Try.prog 3 Rv b n D) (v : Vw D N m) : (usI N m).Perm (intKeys D) := by
  obtain ⟨es, hD, hpw, _⟩ := ho.entries keyed
  obtain ⟨es', hD', hko⟩ := ho.keysOf
  obtain rfl : es = es' := by rw [hD] at hD'; simpa using hD'
  subst hD
  exact perm_intKeys hpw (fun p hp => by obtain ⟨k, hk⟩ := hko p hp; obtain ⟨x, _, hx, _⟩ := Maps.keyOf_i64 Try.underlying3 hk; exact ⟨x, hx⟩) (usI_nodup N m) (mem_usI v)
theorem keys_size {w : World} {b n : Nat} {D : DataW Value} (ho : w.ownsMap Try.prog 3 Rv b n D) : (intKeys D).length = Maps.size D := by
  obtain ⟨es, rfl⟩ := ho.isMap
  simp [intKeys, Maps.size]
/-- Behind a store or a delete the slots' number bounds the entries as before. -/
theorem Mp.mk' {w : World} {b n N : Nat} {D : DataW Value} {m : Nat → Option (Nat → Int)} (ho : w.ownsMap Try.prog 3 Rv b n D) (v : Vw D N m) : Mp w b N m := by
  have h1 := keys_size ho
  have h2 := (keys_perm ho v).length_eq
  have h3 := us_len N m
  have h4 : Maps.size D ≤ N := by omega
  obtain ⟨es, clock, hb, F, hs, hD⟩ := ho
  refine ⟨D, ⟨es, clock, hb, F, ?_, hD⟩, v⟩
  have e : Maps.size D = es.size := by rw [hD]; simp [Maps.size, length_sorted]
  omega
theorem sorted_us {ss : List Int} {D : DataW Value} {w : World} {b n N : Nat} {m : Nat → Option (Nat → Int)} (ho : w.ownsMap Try.prog 3 Rv b n D) (v : Vw D N m) (hp : ss.Perm (intKeys D)) : ss.mergeSort (fun x y => decide (x ≤ y)) = usI N m := by
  rw [show (fun x y : Int => decide (x ≤ y)) = leI from rfl, mergeSort_of_perm_i (hp.trans (keys_perm ho v).symm)]
  apply List.mergeSort_of_pairwise
  refine (usI_lt N m).imp ?_
  intro a b h
  simp [leI]
  omega
theorem Vw.put {D : DataW Value} {N : Nat} {m : Nat → Option (Nat → Int)} (v : Vw D N m) (hD : Maps.IsMap D) (j : Nat) (hj : j < N) (h : Nat → Int) (hh : okB 256 h) : Vw (D.put (.int .i64 j) (.held (pv h))) N (pt m j (some h)) := by
  have hk : WideAt.IsKeyLit (.int .i64 (j : Int)) := by simp [WideAt.IsKeyLit]
  refine ⟨fun k => ?_, fun i u e z => ?_, fun i u e => ?_⟩
  · by_cases hkj : k = j
    · subst hkj
      rw [Maps.has_put_same hD hk]
      simp only [true_iff]
      exact ⟨j, h, rfl, by simp [pt]⟩
    · rw [Maps.has_put_other (by intro e; injection e with _ e2; exact hkj e2), v.has k]
      constructor
      · rintro ⟨i, u, rfl, e⟩
        exact ⟨i, u, rfl, by unfold pt; rw [if_neg (by omega)]; exact e⟩
      · rintro ⟨i, u, rfl, e⟩
        unfold pt at e
        rw [if_neg (by omega)] at e
        exact ⟨i, u, rfl, e⟩
  · unfold pt at e
    by_cases hij : i = j
    · subst hij
      rw [if_pos rfl] at e
      cases e
      exact Maps.atKey_put_same hD hk _ _
    · rw [if_neg hij] at e
      rw [Maps.atKey_put_other (by intro e; injection e with _ e2; omega)]
      exact v.at' i u e z
  · unfold pt at e
    by_cases hij : i = j
    · subst hij
      rw [if_pos rfl] at e
      cases e
      exact ⟨hj, hh⟩
    · rw [if_neg hij] at e
      exact v.lt i u e
theorem Vw.del {D : DataW Value} {N : Nat} {m : Nat → Option (Nat → Int)} (v : Vw D N m) (j : Nat) : Vw (D.del (.int .i64 j)) N (pt m j none) := by
  refine ⟨fun k => ?_, fun i u e z => ?_, fun i u e => ?_⟩
  · by_cases hkj : k = j
    · subst hkj
      rw [Maps.has_del_same]
      simp only [Bool.false_eq_true, false_iff]
      rintro ⟨i, u, e1, e2⟩
      obtain rfl : j = i := by omega
      simp [pt] at e2
    · rw [Maps.has_del_other (by intro e; injection e with _ e2; exact hkj e2), v.has k]
      constructor
      · rintro ⟨i, u, rfl, e⟩
        exact ⟨i, u, rfl, by unfold pt; rw [if_neg (by omega)]; exact e⟩
      · rintro ⟨i, u, rfl, e⟩
        unfold pt at e
        rw [if_neg (by omega)] at e
        exact ⟨i, u, rfl, e⟩
  · unfold pt at e
    by_cases hij : i = j
    · rw [if_pos hij] at e
      cases e
    · rw [if_neg hij] at e
      rw [Maps.atKey_del_other (by intro e; injection e with _ e2; omega)]
      exact v.at' i u e z
  · unfold pt at e
    by_cases hij : i = j
    · rw [if_pos hij] at e
      cases e
    · rw [if_neg hij] at e
      exact v.lt i u e
theorem Try.infoP : (Try.prog.info? 61).map (fun i => (i.zero, i.size)) = some (some (.agg (Array.replicate 256 (.int .u8 0))), 256) := by kernel_rfl
theorem Mp.look_some {w : World} {b N : Nat} {m : Nat → Option (Nat → Int)} (h : Mp w b N m) (hN : N ≤ 1024) {j : Nat} {u : Nat → Int} (e : m j = some u) :
    (Instr.lookup 49 (.map (some b)) (.int .i64 j) true).run Try.prog w = .ok (.tuple #[pv u, .bool true]) w := by
  obtain ⟨D, ho, v⟩ := h
  have hj := (v.lt j u e).1
  obtain ⟨x, ps, hr, hx⟩ := ho.look_ok keyed Try.underlying49 (z := .agg (Array.replicate 256 (.int .u8 0))) ((zero_of_info Try.infoP).1 w) (zd := .held (.agg (Array.replicate 256 (.int .u8 0)))) (zp := []) rfl (key_at j (by omega))
  rw [(v.has j).2 ⟨j, u, rfl, e⟩] at hr
  rw [v.at' j u e] at hx
  simp [Rv] at hx
  rw [hr, hx.1]
theorem Mp.look_none {w : World} {b N : Nat} {m : Nat → Option (Nat → Int)} (h : Mp w b N m) {j : Nat} (hj : j ≤ 1024) (e : m j = none) :
    (Instr.lookup 49 (.map (some b)) (.int .i64 j) true).run Try.prog w = .ok (.tuple #[.agg (Array.replicate 256 (.int .u8 0)), .bool false]) w := by
  obtain ⟨D, ho, v⟩ := h
  obtain ⟨x, ps, hr, hx⟩ := ho.look_ok keyed Try.underlying49 (z := .agg (Array.replicate 256 (.int .u8 0))) ((zero_of_info Try.infoP).1 w) (zd := .held (.agg (Array.replicate 256 (.int .u8 0)))) (zp := []) rfl (key_at j hj)
  have hf : Maps.has D (.int .i64 j) = false := by
    rw [Bool.eq_false_iff]
    intro ht
    obtain ⟨i, u, e1, e2⟩ := (v.has j).1 ht
    obtain rfl : j = i := by omega
    rw [e] at e2
    cases e2
  rw [hf] at hr
  rw [Maps.atKey_of_not_has hf] at hx
  simp [Rv] at hx
  rw [hr, hx.1]
theorem Mp.store {w : World} {b N : Nat} {m : Nat → Option (Nat → Int)} (h : Mp w b N m) (hN : N ≤ 1024) (j : Nat) (hj : j < N) (u : Nat → Int) (hu : okB 256 u) :
    ∃ w', (Instr.mapUpdate 49 (.map (some b)) (.int .i64 j) (pv u)).run Try.prog w = .ok () w' ∧ Mp w' b N (pt m j (some u)) ∧ w.grownBy w' (some b) := by
  obtain ⟨D, ho, v⟩ := h
  obtain ⟨w', hr, ho', g⟩ := ho.update keyed Try.underlying49 (by unfold maxLen; omega) (key_at j (by omega)) (val := pv u) (d := .held (pv u)) (ps := []) rfl
  exact ⟨w', hr, Mp.mk' ho' (v.put ho.isMap j hj u hu), g⟩
theorem Mp.drop {w : World} {b N : Nat} {m : Nat → Option (Nat → Int)} (h : Mp w b N m) (j : Nat) (hj : j ≤ 1024) (ty : TypeId) :
    ∃ w', (Builtin.delete_ #[49, 3] ty #[.map (some b), .int .i64 j]).run Try.prog w = .ok (.tuple #[]) w' ∧ Mp w' b N (pt m j none) ∧ w.grownBy w' (some b) := by
  obtain ⟨D, ho, v⟩ := h
  obtain ⟨w', hr, ho', g⟩ := ho.drop keyed Try.underlying49 (key_at j hj) ty
  exact ⟨w', hr, Mp.mk' ho' (v.del j), g.grown⟩
end Go.Proofs.Ytimmckdghihcjaa
