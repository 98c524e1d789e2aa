/- Bytes that are read and written, lists that came in, and the statements' small functions kind and EqBytes; no condition but the ranges that each theorem names. -/
import Derived.Test.YtokaohlgncmoaaaGreatRows
import Derived.WalkKit
import Derived.ProofKit
import Derived.OpenShut
import Derived.WalkSpells
import Derived.WalkLawsBesides
import Derived.Laws.BitsAllLaws
import Derived.Laws.IdiomCopy
import Derived.Lib.SliceRun
import Derived.Deep.AppendLies
import Derived.Deep.WholeRow
import Derived.Deep.QuietTactic
import Derived.BigQuiet
import Derived.Maps.OwnSet
import Derived.Lib.SlKeysI
import Derived.Deep.RegionHeld3
import Derived.Deep.MidRow
namespace Go.Proofs.YtokaohlgncmoaaaGreat.D
open Go.ChangeShapes Go.WideShapes Go.ChangeAt Go.RowKit
set_option linter.unusedVariables false
set_option maxRecDepth 8192

theorem ret_bool {a b : Bool} (h : a = b) : Ending.returned (.bool a) = .returned (.bool b) := by rw [h]
def inB (n a b : Int) : Bool := decide (a ≤ n) && decide (n ≤ b)
theorem inB_t {n a b : Int} (h : a ≤ n) (h' : n ≤ b) : inB n a b = true := by simp [inB, h, h']
theorem inB_f {n a b : Int} (h : n < a ∨ b < n) : inB n a b = false := by simp [inB]; omega
theorem some_ne {a b : Nat} (h : a ≠ b) : some a ≠ some b := fun e => h (by injection e)
def iv : Value → Int
  | .int _ a => a
  | _ => 0
def Blk (w : World) (g : Nat) (ty : TypeId) (L : List Value) : Prop := w.heap[g]? = some (.cells L.toArray ty (0, 0))
theorem Blk.lt {w : World} {g : Nat} {ty : TypeId} {L : List Value} (h : Blk w g ty L) : g < w.heap.size := (Array.getElem?_eq_some_iff.1 h).1
theorem Blk.cell {w : World} {g : Nat} {ty : TypeId} {L : List Value} (h : Blk w g ty L) (i : Nat) : w.cell? ⟨g, i, none⟩ = L[i]? := by
  rw [cell_of_row w g i _ ty (0, 0) h]; simp
theorem Blk.of_eq {w w' : World} {g : Nat} {ty : TypeId} {L : List Value} (h : Blk w g ty L) (e : w'.heap[g]? = w.heap[g]?) : Blk w' g ty L := by unfold Blk at *; rw [e, h]
theorem Blk.kept {w w' : World} {g : Nat} {ty : TypeId} {L : List Value} {row : Option Nat} (h : Blk w g ty L) (k : w.grownBy w' row) (hne : some g ≠ row) : Blk w' g ty L := h.of_eq (k.block g h.lt hne)
theorem blk_new (w : World) (L : List Value) (ty : TypeId) : Blk (w.alloc (.cells L.toArray ty)) w.heap.size ty L := heap_alloc_last w _
def Rd (w : World) (g off n : Nat) (f : Nat → Int) : Prop := g < w.heap.size ∧ ∀ i, i < n → w.cell? ⟨g, off + i, none⟩ = some (.int .u8 (f i))
def By (w : World) (g n : Nat) (f : Nat → Int) : Prop := g < w.heap.size ∧ ∀ i, i < n → w.cell? ⟨g, i, none⟩ = some (.int .u8 (f i)) ∧ w.frozen? ⟨g, i, none⟩ = false
def okB (n : Nat) (f : Nat → Int) : Prop := ∀ i, i < n → 0 ≤ f i ∧ f i < 256
theorem By.kept {w w' : World} {g n : Nat} {f : Nat → Int} {row : Option Nat} (b : By w g n f) (h : w.grownBy w' row) (hne : some g ≠ row) : By w' g n f :=
  ⟨Nat.lt_of_lt_of_le b.1 h.size, fun i hi => ⟨(h.cell_far _ b.1 hne).trans (b.2 i hi).1, (h.frozen_far _ b.1 hne).trans (b.2 i hi).2⟩⟩
theorem By.rd {w : World} {g n : Nat} {f : Nat → Int} (b : By w g n f) : Rd w g 0 n f := ⟨b.1, fun i hi => by rw [Nat.zero_add]; exact (b.2 i hi).1⟩
theorem grown_setCell' (w : World) (g k : Nat) (v : Value) : w.grownBy (w.setCell ⟨g, k, none⟩ v) (some g) :=
  ⟨rfl, rfl, rfl, by simp [World.setCell], fun i hi hne => Below.heap_setCell _ _ _ _ (by intro h; exact hne (by rw [h]))⟩
def vals (m : Nat) (h : Nat → Int) : List Value := (List.range m).map fun i => .int .u8 (h i)
theorem vals_len (m : Nat) (h : Nat → Int) : (vals m h).length = m := by simp [vals]
theorem vals_get (m : Nat) (h : Nat → Int) (i : Nat) (hi : i < m) : (vals m h)[i]? = some (.int .u8 (h i)) := by simp [vals, hi]
theorem vals_one (m : Nat) (h : Nat → Int) : ∀ v ∈ vals m h, v.oneCell' = true := by
  intro v hv
  simp only [vals, List.mem_map] at hv
  obtain ⟨i, _, rfl⟩ := hv
  rfl
theorem wpList_store_at {P : Program} {w w' : World} {ops : Array Oper} {rest : List Oper} {o : Oper} {a : Act} {Q : Exit → Act → World → Prop} (hgd : o.guard = none) (t : TypeId) (x y : Operand)
    (ho : o.op = .store t x y) (u v : Value) (hx : a.eval x = u) (hy : a.eval y = v) (hrun : (Instr.storeAt t u v).run P w = .ok () w') (h : wpList P ops Q rest (a.put o.dst undef) w') : wpList P ops Q (o :: rest) a w := by
  refine wpList_plain hgd fun K hK => ?_
  unfold Oper.wp
  simp [execOp, ho, hx, hy, hrun, Result.andThen]
  exact hK _ _ h
theorem run_arrayAt_at {P : Program} (w : World) (t : TypeId) (ao : Option Addr) (n c : Nat) (e : TypeId) (hu : P.underlying t = some (.array n e)) : (Instr.arrayAt t (.slice ao n c)).run P w = .ok (.pointer ao) w := by
  simp [Instr.arrayAt, run_underlying hu]
theorem new_By {w : World} {m : Nat} {h : Nat → Int} {t : TypeId} : By (w.alloc (.cells (vals m h).toArray t)) w.heap.size m h := by
  refine ⟨by simp, fun i hi => ⟨?_, ?_⟩⟩
  · rw [cell_of_row _ _ i _ t (0, 0) (heap_alloc_last w _)]
    simpa using vals_get m h i hi
  · simp only [World.frozen?, heap_alloc_last]
    simp
theorem all_vals (m : Nat) (h : Nat → Int) : (vals m h).toArray.all (·.oneCell') = true := by
  rw [Array.all_eq_true_iff_forall_mem]
  intro v hv
  exact vals_one m h v (by simpa using hv)
def Arg (w : World) (ao : Option Addr) (l : Nat) (f : Nat → Int) : Prop := l = 0 ∨ ∃ b off, ao = some ⟨b, off, none⟩ ∧ Rd w b off l f
theorem Arg.lt {w : World} {ao : Option Addr} {l : Nat} {f : Nat → Int} (h : Arg w ao l f) (h0 : l ≠ 0) : ∃ b off, ao = some ⟨b, off, none⟩ ∧ b < w.heap.size ∧ ∀ i, i < l → w.cell? ⟨b, off + i, none⟩ = some (.int .u8 (f i)) := by
  rcases h with h | ⟨b, off, e, hr⟩
  · exact absurd h h0
  · exact ⟨b, off, e, hr.1, hr.2⟩
theorem same_any {w : World} {a1 a2 : Option Addr} {l c1 c2 : Nat} {f : Nat → Int} (hl : l ≤ maxLen) (h1 : Arg w a1 l f) (h2 : Arg w a2 l f) :
    Calls Tryz.prog 44 #[.slice a1 l c1, .slice a2 l c2] w fun e w' => e = .returned (.bool true) ∧ w.grownBy w' none := by
  have H1 : Hid (Arg w a1 l f) := h1
  have H2 : Hid (Arg w a2 l f) := h2
  clear h1 h2
  unfold maxLen at hl
  go_enter Tryz.func44, Tryz.ntmps44
  go_wp2
  go_loopw [5] (fun i wr => ∃ k : Nat, k ≤ l ∧ i = .int .i64 k ∧ w.grownBy wr none) (fun i _ => l - (iv i).toNat)
  case atStart => exact ⟨0, by omega, rfl, World.grownBy.refl _ _⟩
  case round =>
    obtain ⟨k, hk, rfl, hb⟩ := hrel
    by_cases hlt : k < l
    · obtain ⟨b, o, rfl, hbs, hc⟩ := H1.out.lt (by omega)
      obtain ⟨b', o', rfl, hbs', hc'⟩ := H2.out.lt (by omega)
      have d1 := (hb.cell_far ⟨b, o + k, none⟩ hbs (by simp)).trans (hc k hlt)
      have d2 := (hb.cell_far ⟨b', o' + k, none⟩ hbs' (by simp)).trans (hc' k hlt)
      clear hc hc'
      generalize f k = v at *
      go_wp2
      go_quiet (fail)
      go_wp2
      go_roundw
      case rel => exact ⟨k + 1, by omega, by go_num, ⟨hb.os, hb.tape, hb.output, hb.size, hb.block⟩⟩
      case measure => simp [iv]; omega
    · obtain rfl : k = l := by omega
      go_wp2
      go_ret
      exact ⟨rfl, hb⟩
end Go.Proofs.YtokaohlgncmoaaaGreat.D
namespace Go.Proofs.YtokaohlgncmoaaaGreat.D
open Go.ChangeShapes Go.WideShapes Go.ChangeAt Go.RowKit
set_option linter.unusedVariables false
set_option maxRecDepth 8192

def Rv (v : Value) : Option (DataW Value × List MemPlace) := some (.held v, [])
def pv (h : Nat → Int) : Value := .agg (vals 256 h).toArray
def pt (m : Nat → Option (Nat → Int)) (j : Nat) (h : Option (Nat → Int)) : Nat → Option (Nat → Int) := fun i => if i = j then h else m i
structure Vw (D : DataW Value) (N : Nat) (m : Nat → Option (Nat → Int)) : Prop where
  has : ∀ k : Int, Maps.has D (.int .i64 k) = true ↔ ∃ (j : Nat) (h : Nat → Int), k = j ∧ m j = some h
  at' : ∀ (j : Nat) h, m j = some h → ∀ z, D.atKey (.int .i64 j) z = .held (pv h)
  lt : ∀ j h, m j = some h → j < N ∧ okB 256 h
def Mp (w : World) (b N : Nat) (m : Nat → Option (Nat → Int)) : Prop := ∃ D, w.ownsMap Tryz.prog 3 Rv b N D ∧ Vw D N m
theorem keyed : Maps.Keyed Tryz.prog 3 := Maps.int_keyed Tryz.underlying3
theorem key_at (j : Nat) (h : j ≤ 1024) : keyOf Tryz.prog 3 (.int .i64 j) = some (.int .i64 j) :=
  Maps.keyOf_int_mk Tryz.underlying3 (by simp [Lit.wf, IntKind.min, IntKind.max, IntKind.bits, IntKind.signed]; omega)
theorem Mp.lt {w : World} {b N : Nat} {m : Nat → Option (Nat → Int)} (h : Mp w b N m) : b < w.heap.size := by
  obtain ⟨D, ho, _⟩ := h
  exact ho.lt
theorem Mp.kept {w w' : World} {b N : Nat} {m : Nat → Option (Nat → Int)} {row : Option Nat} (h : Mp w b N m) (g : w.grownBy w' row) (hne : some b ≠ row) : Mp w' b N m := by
  obtain ⟨D, ho, hv⟩ := h
  exact ⟨D, ho.kept g hne, hv⟩
theorem Mp.ok {w : World} {b N : Nat} {m : Nat → Option (Nat → Int)} (h : Mp w b N m) {j : Nat} {u : Nat → Int} (e : m j = some u) : j < N ∧ okB 256 u := by
  obtain ⟨D, ho, hv⟩ := h
  exact hv.lt j u e
theorem mp_new (w : World) (N : Nat) : Mp (w.alloc (.map #[] 0)) w.heap.size N (fun _ => none) :=
  ⟨_, (World.ownsMap_made w Tryz.prog 3 Rv).mono (Nat.zero_le _), ⟨fun k => by simp [Maps.has], fun j h e => by simp at e, fun j h e => by simp at e⟩⟩
def us (N : Nat) (m : Nat → Option (Nat → Int)) : List Nat := (List.range N).filter fun j => (m j).isSome
def usI (N : Nat) (m : Nat → Option (Nat → Int)) : List Int := (us N m).map (fun j : Nat => (j : Int))
theorem mem_usI {D : DataW Value} {N : Nat} {m : Nat → Option (Nat → Int)} (v : Vw D N m) (x : Int) : x ∈ usI N m ↔ Maps.has D (.int .i64 x) = true := by
  rw [v.has x]
  simp only [usI, us, List.mem_map, List.mem_filter, List.mem_range]
  constructor
  · rintro ⟨j, ⟨h1, h2⟩, rfl⟩
    obtain ⟨h, e⟩ := Option.isSome_iff_exists.1 h2
    exact ⟨j, h, rfl, e⟩
  · rintro ⟨j, h, rfl, e⟩
    exact ⟨j, ⟨(v.lt j h e).1, by rw [e]; rfl⟩, rfl⟩
theorem usI_lt (N : Nat) (m : Nat → Option (Nat → Int)) : (usI N m).Pairwise (· < ·) := by
  unfold usI us
  rw [List.pairwise_map]
  refine List.Pairwise.imp ?_ (List.Pairwise.filter _ (List.pairwise_lt_range))
  intro a b h
  omega
theorem usI_nodup (N : Nat) (m : Nat → Option (Nat → Int)) : (usI N m).Nodup := (usI_lt N m).imp (fun h => by omega)
theorem us_len (N : Nat) (m : Nat → Option (Nat → Int)) : (usI N m).length ≤ N := by
  unfold usI us
  rw [List.length_map]
  exact Nat.le_trans (List.length_filter_le _ _) (by simp)
theorem keys_perm {w : World} {b n N : Nat} {D : DataW Value} {m : Nat → Option (Nat → Int)} (ho : w.ownsMap Tryz.prog 3 Rv b n D) (v : Vw D N m) : (usI N m).Perm (intKeys D) := by
  obtain ⟨es, hD, hpw, _⟩ := ho.entries keyed
  obtain ⟨es', hD', hko⟩ := ho.keysOf
  obtain rfl : es = es' := by rw [hD] at hD'; simpa using hD'
  subst hD
  exact perm_intKeys hpw (fun p hp => by obtain ⟨k, hk⟩ := hko p hp; obtain ⟨x, _, hx, _⟩ := Maps.keyOf_i64 Tryz.underlying3 hk; exact ⟨x, hx⟩) (usI_nodup N m) (mem_usI v)
theorem keys_size {w : World} {b n : Nat} {D : DataW Value} (ho : w.ownsMap Tryz.prog 3 Rv b n D) : (intKeys D).length = Maps.size D := by
  obtain ⟨es, rfl⟩ := ho.isMap
  simp [intKeys, Maps.size]
theorem Mp.mk' {w : World} {b n N : Nat} {D : DataW Value} {m : Nat → Option (Nat → Int)} (ho : w.ownsMap Tryz.prog 3 Rv b n D) (v : Vw D N m) : Mp w b N m := by
  have h1 := keys_size ho
  have h2 := (keys_perm ho v).length_eq
  have h3 := us_len N m
  have h4 : Maps.size D ≤ N := by omega
  obtain ⟨es, clock, hb, F, hs, hD⟩ := ho
  refine ⟨D, ⟨es, clock, hb, F, ?_, hD⟩, v⟩
  have e : Maps.size D = es.size := by rw [hD]; simp [Maps.size, length_sorted]
  omega
theorem Vw.put {D : DataW Value} {N : Nat} {m : Nat → Option (Nat → Int)} (v : Vw D N m) (hD : Maps.IsMap D) (j : Nat) (hj : j < N) (h : Nat → Int) (hh : okB 256 h) : Vw (D.put (.int .i64 j) (.held (pv h))) N (pt m j (some h)) := by
  have hk : WideAt.IsKeyLit (.int .i64 (j : Int)) := by simp [WideAt.IsKeyLit]
  refine ⟨fun k => ?_, fun i u e z => ?_, fun i u e => ?_⟩
  · by_cases hkj : k = j
    · subst hkj
      rw [Maps.has_put_same hD hk]
      simp only [true_iff]
      exact ⟨j, h, rfl, by simp [pt]⟩
    · rw [Maps.has_put_other (by intro e; injection e with _ e2; exact hkj e2), v.has k]
      constructor
      · rintro ⟨i, u, rfl, e⟩
        exact ⟨i, u, rfl, by unfold pt; rw [if_neg (by omega)]; exact e⟩
      · rintro ⟨i, u, rfl, e⟩
        unfold pt at e
        rw [if_neg (by omega)] at e
        exact ⟨i, u, rfl, e⟩
  · unfold pt at e
    by_cases hij : i = j
    · subst hij
      rw [if_pos rfl] at e
      cases e
      exact Maps.atKey_put_same hD hk _ _
    · rw [if_neg hij] at e
      rw [Maps.atKey_put_other (by intro e; injection e with _ e2; omega)]
      exact v.at' i u e z
  · unfold pt at e
    by_cases hij : i = j
    · subst hij
      rw [if_pos rfl] at e
      cases e
      exact ⟨hj, hh⟩
    · rw [if_neg hij] at e
      exact v.lt i u e
theorem Vw.del {D : DataW Value} {N : Nat} {m : Nat → Option (Nat → Int)} (v : Vw D N m) (j : Nat) : Vw (D.del (.int .i64 j)) N (pt m j none) := by
  refine ⟨fun k => ?_, fun i u e z => ?_, fun i u e => ?_⟩
  · by_cases hkj : k = j
    · subst hkj
      rw [Maps.has_del_same]
      simp only [Bool.false_eq_true, false_iff]
      rintro ⟨i, u, e1, e2⟩
      obtain rfl : j = i := by omega
      simp [pt] at e2
    · rw [Maps.has_del_other (by intro e; injection e with _ e2; exact hkj e2), v.has k]
      constructor
      · rintro ⟨i, u, rfl, e⟩
        exact ⟨i, u, rfl, by unfold pt; rw [if_neg (by omega)]; exact e⟩
      · rintro ⟨i, u, rfl, e⟩
        unfold pt at e
        rw [if_neg (by omega)] at e
        exact ⟨i, u, rfl, e⟩
  · unfold pt at e
    by_cases hij : i = j
    · rw [if_pos hij] at e
      cases e
    · rw [if_neg hij] at e
      rw [Maps.atKey_del_other (by intro e; injection e with _ e2; omega)]
      exact v.at' i u e z
  · unfold pt at e
    by_cases hij : i = j
    · rw [if_pos hij] at e
      cases e
    · rw [if_neg hij] at e
      exact v.lt i u e
theorem Tryz.infoP : (Tryz.prog.info? 120).map (fun i => (i.zero, i.size)) = some (some (.agg (Array.replicate 256 (.int .u8 0))), 256) := by kernel_rfl
theorem Mp.look_some {w : World} {b N : Nat} {m : Nat → Option (Nat → Int)} (h : Mp w b N m) (hN : N ≤ 1024) {j : Nat} {u : Nat → Int} (e : m j = some u) :
    (Instr.lookup 122 (.map (some b)) (.int .i64 j) true).run Tryz.prog w = .ok (.tuple #[pv u, .bool true]) w := by
  obtain ⟨D, ho, v⟩ := h
  have hj := (v.lt j u e).1
  obtain ⟨x, ps, hr, hx⟩ := ho.look_ok keyed Tryz.underlying122 (z := .agg (Array.replicate 256 (.int .u8 0))) ((zero_of_info Tryz.infoP).1 w) (zd := .held (.agg (Array.replicate 256 (.int .u8 0)))) (zp := []) rfl (key_at j (by omega))
  rw [(v.has j).2 ⟨j, u, rfl, e⟩] at hr
  rw [v.at' j u e] at hx
  simp [Rv] at hx
  rw [hr, hx.1]
theorem Mp.look_none {w : World} {b N : Nat} {m : Nat → Option (Nat → Int)} (h : Mp w b N m) {j : Nat} (hj : j ≤ 1024) (e : m j = none) :
    (Instr.lookup 122 (.map (some b)) (.int .i64 j) true).run Tryz.prog w = .ok (.tuple #[.agg (Array.replicate 256 (.int .u8 0)), .bool false]) w := by
  obtain ⟨D, ho, v⟩ := h
  obtain ⟨x, ps, hr, hx⟩ := ho.look_ok keyed Tryz.underlying122 (z := .agg (Array.replicate 256 (.int .u8 0))) ((zero_of_info Tryz.infoP).1 w) (zd := .held (.agg (Array.replicate 256 (.int .u8 0)))) (zp := []) rfl (key_at j hj)
  have hf : Maps.has D (.int .i64 j) = false := by
    rw [Bool.eq_false_iff]
    intro ht
    obtain ⟨i, u, e1, e2⟩ := (v.has j).1 ht
    obtain rfl : j = i := by omega
    rw [e] at e2
    cases e2
  rw [hf] at hr
  rw [Maps.atKey_of_not_has hf] at hx
  simp [Rv] at hx
  rw [hr, hx.1]
theorem Mp.store {w : World} {b N : Nat} {m : Nat → Option (Nat → Int)} (h : Mp w b N m) (hN : N ≤ 1024) (j : Nat) (hj : j < N) (u : Nat → Int) (hu : okB 256 u) :
    ∃ w', (Instr.mapUpdate 122 (.map (some b)) (.int .i64 j) (pv u)).run Tryz.prog w = .ok () w' ∧ Mp w' b N (pt m j (some u)) ∧ w.grownBy w' (some b) := by
  obtain ⟨D, ho, v⟩ := h
  obtain ⟨w', hr, ho', g⟩ := ho.update keyed Tryz.underlying122 (by unfold maxLen; omega) (key_at j (by omega)) (val := pv u) (d := .held (pv u)) (ps := []) rfl
  exact ⟨w', hr, Mp.mk' ho' (v.put ho.isMap j hj u hu), g⟩
end Go.Proofs.YtokaohlgncmoaaaGreat.D
namespace Go.Proofs.YtokaohlgncmoaaaGreat.D
open Go.ChangeShapes Go.WideShapes Go.ChangeAt Go.RowKit
set_option linter.unusedVariables false
set_option maxRecDepth 8192

theorem grown_drewN (w : World) (n : Nat) (row : Option Nat) : w.grownBy (w.drewN n) row := ⟨rfl, rfl, rfl, Nat.le_refl _, fun _ _ _ => rfl⟩
structure Dk (w : World) (p b N : Nat) (m : Nat → Option (Nat → Int)) : Prop where
  st : Blk w p 124 [.int .i64 N, .map (some b)]
  mp : Mp w b N m
  ne : p ≠ b
  n : N ≤ 1024
theorem Dk.c0 {w : World} {p b N : Nat} {m : Nat → Option (Nat → Int)} (h : Dk w p b N m) : w.cell? ⟨p, 0, none⟩ = some (.int .i64 N) := h.st.cell 0
theorem Dk.c1 {w : World} {p b N : Nat} {m : Nat → Option (Nat → Int)} (h : Dk w p b N m) : w.cell? ⟨p, 1, none⟩ = some (.map (some b)) := h.st.cell 1
theorem Dk.turn {w w' : World} {p b N : Nat} {m m' : Nat → Option (Nat → Int)} (h : Dk w p b N m) (g : w.grownBy w' (some b)) (hm : Mp w' b N m') : Dk w' p b N m' :=
  ⟨h.st.kept g (some_ne h.ne), hm, h.ne, h.n⟩
def NoD (w : World) (q : Option Addr) : Prop := q = none ∨ ∃ p, q = some ⟨p, 0, none⟩ ∧ w.cell? ⟨p, 1, none⟩ = some (.map none)
theorem map_nil (r : Option Nat) : ∀ w : World, (binOp .neq 122 (.map r) (.map none)).run Tryz.prog w = .ok (.bool r.isSome) w := fun w => by rw [run_neq_map_nil w _ _ _ r Tryz.underlying122]; cases r <;> rfl
theorem made_any {w : World} {p b N : Nat} {m : Nat → Option (Nat → Int)} (h : Dk w p b N m) : Calls Tryz.prog 112 #[.pointer (some ⟨p, 0, none⟩)] w fun e w' => e = .returned (.bool true) ∧ w' = w := by
  have hc := h.c1
  have hq := map_nil (some b)
  clear h
  go_enter Tryz.func112, Tryz.ntmps112
  go_wp2
  go_ret
  exact ⟨rfl, rfl⟩
theorem made_nil {w : World} {q : Option Addr} (hN : NoD w q) : Calls Tryz.prog 112 #[.pointer q] w fun e w' => e = .returned (.bool false) ∧ w' = w := by
  rcases hN with rfl | ⟨p, rfl, hc⟩
  · go_enter Tryz.func112, Tryz.ntmps112
    go_wp2
    go_ret
    exact ⟨rfl, rfl⟩
  · have hq := map_nil none
    go_enter Tryz.func112, Tryz.ntmps112
    go_wp2
    go_ret
    exact ⟨rfl, rfl⟩
theorem New_no (n : Int) (h : n < 0 ∨ 1024 < n) (w : World) : Calls Tryz.prog 29 #[.int .i64 n] w fun e w' => e = .returned (.tuple #[.pointer none, .int .i64 2]) ∧ w' = w := by
  go_enter Tryz.func29, Tryz.ntmps29
  go_wp2
  all_goals (go_ret2; exact ⟨rfl, rfl⟩)
theorem New_ok (n : Nat) (h : n ≤ 1024) (w : World) : Calls Tryz.prog 29 #[.int .i64 n] w fun e w' => ∃ p b, e = .returned (.tuple #[.pointer (some ⟨p, 0, none⟩), .int .i64 0]) ∧ Dk w' p b n (fun _ => none) ∧ w.grownBy w' none ∧ w.heap.size ≤ p ∧ w.heap.size ≤ b := by
  have hmm := @run_makeMap Tryz.prog
  go_enter Tryz.func29, Tryz.ntmps29
  go_wp2
  go_ret2
  refine ⟨w.heap.size + 1, w.heap.size, by simp, ⟨?_, (mp_new w n).kept (World.grownBy_alloc _ _ none) (by simp), by omega, h⟩, (World.grownBy_alloc _ _ none).trans (World.grownBy_alloc _ _ none), by omega, by omega⟩
  have := blk_new (w.alloc (.map #[] 0)) [.int .i64 n, .map (some w.heap.size)] 124
  simpa using this
theorem asked_ok {w : World} {p b N : Nat} {m : Nat → Option (Nat → Int)} (h : Dk w p b N m) (k : Nat) (hk : k < N) : Calls Tryz.prog 74 #[.pointer (some ⟨p, 0, none⟩), .int .i64 k] w fun e w' => e = .returned (.int .i64 0) ∧ w' = w := by
  have hc := h.c0
  have C1 : Hid (Calls _ _ _ _ _) := made_any h
  clear h
  go_enter Tryz.func74, Tryz.ntmps74
  go_wp2_with (go_at_call 112; refine C1.out.mono ?_; rintro e w' ⟨rfl, rfl⟩)
  go_ret
  exact ⟨rfl, rfl⟩
theorem asked_no {w : World} {p b N : Nat} {m : Nat → Option (Nat → Int)} (h : Dk w p b N m) (k : Int) (hk : ¬ (0 ≤ k ∧ k < N)) : Calls Tryz.prog 74 #[.pointer (some ⟨p, 0, none⟩), .int .i64 k] w fun e w' => e = .returned (.int .i64 2) ∧ w' = w := by
  have hc := h.c0
  have C1 : Hid (Calls _ _ _ _ _) := made_any h
  clear h
  rcases (show k < 0 ∨ (¬ k < 0 ∧ (N : Int) ≤ k) by omega) with a | ⟨a1, a2⟩
  · go_enter Tryz.func74, Tryz.ntmps74
    go_wp2_with (go_at_call 112; refine C1.out.mono ?_; rintro e w' ⟨rfl, rfl⟩)
    go_ret
    exact ⟨rfl, rfl⟩
  · go_enter Tryz.func74, Tryz.ntmps74
    go_wp2_with (go_at_call 112; refine C1.out.mono ?_; rintro e w' ⟨rfl, rfl⟩)
    go_ret
    exact ⟨rfl, rfl⟩
theorem asked_nil {w : World} {q : Option Addr} (hN : NoD w q) (k : Int) : Calls Tryz.prog 74 #[.pointer q, .int .i64 k] w fun e w' => e = .returned (.int .i64 1) ∧ w' = w := by
  have C1 : Hid (Calls _ _ _ _ _) := made_nil hN
  clear hN
  go_enter Tryz.func74, Tryz.ntmps74
  go_wp2_with (go_at_call 112; refine C1.out.mono ?_; rintro e w' ⟨rfl, rfl⟩)
  go_ret
  exact ⟨rfl, rfl⟩
theorem Write_no {w : World} {p b N : Nat} {m : Nat → Option (Nat → Int)} (h : Dk w p b N m) (k : Int) (hk : ¬ (0 ≤ k ∧ k < N)) (v : Value) : Calls Tryz.prog 53 #[.pointer (some ⟨p, 0, none⟩), .int .i64 k, v] w fun e w' => e = .returned (.int .i64 2) ∧ w' = w := by
  have C1 : Hid (Calls _ _ _ _ _) := asked_no h k hk
  clear h hk
  go_enter Tryz.func53, Tryz.ntmps53
  go_wp2_with (go_at_call 74; refine C1.out.mono ?_; rintro e w' ⟨rfl, rfl⟩)
  go_ret
  exact ⟨rfl, rfl⟩
theorem Write_len {w : World} {p b N : Nat} {m : Nat → Option (Nat → Int)} (h : Dk w p b N m) (k : Nat) (hk : k < N) (ao : Option Addr) (l c : Nat) (hl : l ≠ 256) (hm : l ≤ maxLen) : Calls Tryz.prog 53 #[.pointer (some ⟨p, 0, none⟩), .int .i64 k, .slice ao l c] w fun e w' => e = .returned (.int .i64 2) ∧ w' = w := by
  have C1 : Hid (Calls _ _ _ _ _) := asked_ok h k hk
  have hb : ((l : Int) != 256) = true := by rw [bne_iff_ne]; omega
  unfold maxLen at hm
  clear h hk
  go_enter Tryz.func53, Tryz.ntmps53
  go_wp2_with (go_at_call 74; refine C1.out.mono ?_; rintro e w' ⟨rfl, rfl⟩)
  go_ret
  exact ⟨rfl, rfl⟩
set_option maxRecDepth 100000 in
set_option maxHeartbeats 1000000 in
theorem Write_ok {w : World} {p b N : Nat} {m : Nat → Option (Nat → Int)} (h : Dk w p b N m) (k : Nat) (hk : k < N) (bb off cap : Nat) (u : Nat → Int) (hr : Rd w bb off 256 u) (hu : okB 256 u) (hbb : bb ≠ b) :
    Calls Tryz.prog 53 #[.pointer (some ⟨p, 0, none⟩), .int .i64 k, .slice (some ⟨bb, off, none⟩) 256 cap] w fun e w' => e = .returned (.int .i64 0) ∧ Dk w' p b N (pt m k (some u)) ∧ w.grownBy w' (some b) := by
  have HD : Hid (Dk w p b N m) := h
  have C1 : Hid (Calls _ _ _ _ _) := asked_ok h k hk
  have hc := h.c1
  have hra : w.rangeAt bb off (vals 256 u) := fun i v hv => by
    have hi : i < 256 := by have := (List.getElem?_eq_some_iff.1 hv).1; rwa [vals_len] at this
    rw [vals_get _ _ _ hi] at hv
    rw [← hv]
    exact hr.2 _ hi
  have hu61 := Tryz.underlying120
  have hsz : (Tryz.prog.info? 120).map (·.size) = some (vals 256 u).length := by rw [vals_len]; exact (zero_of_info Tryz.infoP).2
  have har : ∀ W, (Instr.arrayAt 120 (.slice (some ⟨bb, off, none⟩) 256 cap)).run Tryz.prog W = .ok (.pointer (some ⟨bb, off, none⟩)) W := fun W => run_arrayAt_at W 120 (some ⟨bb, off, none⟩) 256 cap 5 Tryz.underlying120
  obtain ⟨wz, hst, hM, hG⟩ := Mp.store (w := w.drew) (h.mp) h.n k hk u hu
  have HM : Hid (Mp wz b N (pt m k (some u))) := hM
  have HG : Hid (w.grownBy wz (some b)) := (grown_drewN w 1 _).trans hG
  have HS2 : Hid (wz.cell? ⟨p, 1, none⟩ = some (.map (some b)) ∧ wz.rangeAt bb off (vals 256 u)) := ⟨(HG.out.cell_far _ h.st.lt (some_ne h.ne)).trans hc, fun i v hv => (HG.out.cell_far _ hr.1 (some_ne hbb)).trans (hra i v hv)⟩
  unfold pv at hst
  generalize vals 256 u = C at *
  clear h hM hG hr hu
  go_enter Tryz.func53, Tryz.ntmps53
  go_wp2_with (go_at_call 74; refine C1.out.mono ?_; rintro e w' ⟨rfl, rfl⟩)
  go_region_held3 (fun W => W.cell? ⟨p, 1, none⟩ = some (.map (some b)) ∧ W.rangeAt bb off C) (first | exact ⟨hc, hra⟩ | exact HS2.out) (fail)
  go_wp2
  go_ret
  exact ⟨rfl, HD.out.turn HG.out HM.out, HG.out⟩
theorem Read_no {w : World} {p b N : Nat} {m : Nat → Option (Nat → Int)} (h : Dk w p b N m) (k : Int) (hk : ¬ (0 ≤ k ∧ k < N)) : Calls Tryz.prog 55 #[.pointer (some ⟨p, 0, none⟩), .int .i64 k] w fun e w' => e = .returned (.tuple #[.slice none 0 0, .int .i64 2]) ∧ w' = w := by
  have C1 : Hid (Calls _ _ _ _ _) := asked_no h k hk
  clear h hk
  go_enter Tryz.func55, Tryz.ntmps55
  go_wp2_with (go_at_call 74; refine C1.out.mono ?_; rintro e w' ⟨rfl, rfl⟩)
  go_ret2
  exact ⟨rfl, rfl⟩
theorem stored (w : World) (C : Array Value) (h : C.size = 256) (ha : C.all (·.oneCell') = true) : ∀ z : Array Value, z.size = 256 → (Instr.storeAt 120 (.pointer (some ⟨w.heap.size, 0, none⟩)) (.agg C)).run Tryz.prog (w.alloc (.cells z 120)) = .ok () (w.alloc (.cells C 120)) :=
  fun z hz => run_storeAt_new w 120 z _ (by rw [h]; exact (zero_of_info Tryz.infoP).2) (by rw [h, hz]) ha
set_option maxRecDepth 100000 in
set_option maxHeartbeats 1000000 in
theorem Read_none {w : World} {p b N : Nat} {m : Nat → Option (Nat → Int)} (h : Dk w p b N m) (k : Nat) (hk : k < N) (e0 : m k = none) :
    Calls Tryz.prog 55 #[.pointer (some ⟨p, 0, none⟩), .int .i64 k] w fun e w' => e = .returned (.tuple #[.slice none 0 0, .int .i64 60]) ∧ w.grownBy w' none := by
  have C1 : Hid (Calls _ _ _ _ _) := asked_ok h k hk
  have hc := h.c1
  have hlk := h.mp.look_none (by have := h.n; omega) e0
  have hst := stored w (Array.replicate 256 (.int .u8 0)) (by simp) (by kernel_rfl) (Array.replicate 256 (.int .u8 0)) (by simp)
  have hzv := (zero_of_info Tryz.infoP).1
  clear h hk
  generalize (Array.replicate 256 (Value.int .u8 0)) = Z at *
  have HL : Hid _ := hlk
  have HS : Hid _ := hst
  clear hst
  go_enter Tryz.func55, Tryz.ntmps55
  go_wp2_with (first | (go_at_call 74; refine C1.out.mono ?_; rintro e w' ⟨rfl, rfl⟩) | (refine wpList_store_at rfl 120 (.tmp 7) (.tmp 22) rfl _ _ rfl rfl HS.out ?_))
  go_ret2
  exact ⟨rfl, World.grownBy_alloc _ _ none⟩
set_option maxRecDepth 100000 in
set_option maxHeartbeats 1000000 in
theorem Read_ok {w : World} {p b N : Nat} {m : Nat → Option (Nat → Int)} (h : Dk w p b N m) (k : Nat) (u : Nat → Int) (e0 : m k = some u) :
    Calls Tryz.prog 55 #[.pointer (some ⟨p, 0, none⟩), .int .i64 k] w fun e w' => e = .returned (.tuple #[.slice (some ⟨w.heap.size, 0, none⟩) 256 256, .int .i64 0]) ∧ By w' w.heap.size 256 u ∧ w.grownBy w' none := by
  have C1 : Hid (Calls _ _ _ _ _) := asked_ok h k (h.mp.ok e0).1
  have hc := h.c1
  have hlk := h.mp.look_some h.n e0
  unfold pv at hlk
  have hst := stored w (vals 256 u).toArray (by rw [List.size_toArray, vals_len]) (all_vals 256 u) (Array.replicate 256 (.int .u8 0)) (by simp)
  have hzv := (zero_of_info Tryz.infoP).1
  have HB : Hid (By (w.alloc (.cells (vals 256 u).toArray 120)) w.heap.size 256 u) := new_By
  clear h
  generalize (Array.replicate 256 (Value.int .u8 0)) = Z at *
  generalize (vals 256 u).toArray = C at *
  have HS : Hid _ := hst
  clear hst
  go_enter Tryz.func55, Tryz.ntmps55
  go_wp2_with (first | (go_at_call 74; refine C1.out.mono ?_; rintro e w' ⟨rfl, rfl⟩) | (refine wpList_store_at rfl 120 (.tmp 7) (.tmp 22) rfl _ _ rfl rfl HS.out ?_))
  go_ret2
  exact ⟨rfl, HB.out, World.grownBy_alloc _ _ none⟩
theorem Erase_nil {w : World} {q : Option Addr} (hN : NoD w q) (k : Int) : Calls Tryz.prog 24 #[.pointer q, .int .i64 k] w fun e w' => e = .returned (.int .i64 1) ∧ w' = w := by
  have C1 : Hid (Calls _ _ _ _ _) := asked_nil hN k
  clear hN
  go_enter Tryz.func24, Tryz.ntmps24
  go_wp2_with (go_at_call 74; refine C1.out.mono ?_; rintro e w' ⟨rfl, rfl⟩)
  go_ret
  exact ⟨rfl, rfl⟩
end Go.Proofs.YtokaohlgncmoaaaGreat.D
