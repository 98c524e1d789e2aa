/- The map of frames to masks: what lies in memory, what is read, stored and struck; no condition but the ranges that each theorem names. -/
import Derived.Test.YtkbpnkjjmipjfaaGreatVMa
import Derived.Test.YtkbpnkjjmipjfaaGreatRows
import Derived.Maps.RangeWalk
import Derived.WalkKit
import Derived.ProofKit
import Derived.OpenShut
import Derived.WalkSpells
import Derived.WalkLawsBesides
import Derived.Laws.BitsAllLaws
namespace Go.Proofs.YtkbpnkjjmipjfaaGreat.P
open B Go.ChangeShapes Go.WideShapes Go.ChangeAt Go.RowKit
set_option linter.unusedVariables false

def wv (h : Nat) : Value := .int .u16 h
theorem Tryz.zeroW : (Tryz.prog.info? 217).map (fun i => (i.zero, i.size)) = some (some (.int .u16 0), 1) := by kernel_rfl
structure Vw (D : DataW Value) (N : Nat) (m : Nat → Option Nat) : Prop where
  has : ∀ k : Int, Maps.has D (.int .i64 k) = true ↔ ∃ (j : Nat) (h : Nat), k = j ∧ m j = some h
  at' : ∀ (j : Nat) h, m j = some h → ∀ z, D.atKey (.int .i64 j) z = .held (wv h)
  lt : ∀ j h, m j = some h → j < N ∧ h < 65536
def Mw (w : World) (b N : Nat) (m : Nat → Option Nat) : Prop := ∃ D, w.ownsMap Tryz.prog 3 Rv b N D ∧ Vw D N m
theorem Mw.lt {w : World} {b N : Nat} {m : Nat → Option Nat} (h : Mw w b N m) : b < w.heap.size := by
  obtain ⟨D, ho, _⟩ := h
  exact ho.lt
theorem Mw.kept {w w' : World} {b N : Nat} {m : Nat → Option Nat} {row : Option Nat} (h : Mw w b N m) (g : w.grownBy w' row) (hne : some b ≠ row) : Mw w' b N m := by
  obtain ⟨D, ho, hv⟩ := h
  exact ⟨D, ho.kept g hne, hv⟩
theorem Mw.ok {w : World} {b N : Nat} {m : Nat → Option Nat} (h : Mw w b N m) {j : Nat} {u : Nat} (e : m j = some u) : j < N ∧ u < 65536 := by
  obtain ⟨D, ho, hv⟩ := h
  exact hv.lt j u e
theorem mw_new (w : World) (N : Nat) : Mw (w.alloc (.map #[] 0)) w.heap.size N (fun _ => none) :=
  ⟨_, (World.ownsMap_made w Tryz.prog 3 Rv).mono (Nat.zero_le _), ⟨fun k => by simp [Maps.has], fun j h e => by simp at e, fun j h e => by simp at e⟩⟩
theorem mem_mw {D : DataW Value} {N : Nat} {m : Nat → Option Nat} (v : Vw D N m) (x : Int) : x ∈ usI N m ↔ Maps.has D (.int .i64 x) = true := by
  rw [v.has x]
  simp only [usI, us, List.mem_map, List.mem_filter, List.mem_range]
  constructor
  · rintro ⟨j, ⟨h1, h2⟩, rfl⟩
    obtain ⟨h, e⟩ := Option.isSome_iff_exists.1 h2
    exact ⟨j, h, rfl, e⟩
  · rintro ⟨j, h, rfl, e⟩
    exact ⟨j, ⟨(v.lt j h e).1, by rw [e]; rfl⟩, rfl⟩
theorem keys_mw {w : World} {b n N : Nat} {D : DataW Value} {m : Nat → Option Nat} (ho : w.ownsMap Tryz.prog 3 Rv b n D) (v : Vw D N m) : (usI N m).Perm (intKeys D) := by
  obtain ⟨es, hD, hpw, _⟩ := ho.entries keyed
  obtain ⟨es', hD', hko⟩ := ho.keysOf
  obtain rfl : es = es' := by rw [hD] at hD'; simpa using hD'
  subst hD
  exact perm_intKeys hpw (fun p hp => by obtain ⟨k, hk⟩ := hko p hp; obtain ⟨x, _, hx, _⟩ := Maps.keyOf_i64 Tryz.underlying3 hk; exact ⟨x, hx⟩) (usI_nodup N m) (mem_mw v)
theorem Mw.mk' {w : World} {b n N : Nat} {D : DataW Value} {m : Nat → Option Nat} (ho : w.ownsMap Tryz.prog 3 Rv b n D) (v : Vw D N m) : Mw w b N m := by
  have h1 := keys_size ho
  have h2 := (keys_mw ho v).length_eq
  have h3 := us_len N m
  have h4 : Maps.size D ≤ N := by omega
  obtain ⟨es, clock, hb, F, hs, hD⟩ := ho
  refine ⟨D, ⟨es, clock, hb, F, ?_, hD⟩, v⟩
  have e : Maps.size D = es.size := by rw [hD]; simp [Maps.size, length_sorted]
  omega
theorem Vw.put {D : DataW Value} {N : Nat} {m : Nat → Option Nat} (v : Vw D N m) (hD : Maps.IsMap D) (j : Nat) (hj : j < N) (h : Nat) (hh : h < 65536) : Vw (D.put (.int .i64 j) (.held (wv h))) N (pt m j (some h)) := by
  have hk : WideAt.IsKeyLit (.int .i64 (j : Int)) := by simp [WideAt.IsKeyLit]
  refine ⟨fun k => ?_, fun i u e z => ?_, fun i u e => ?_⟩
  · by_cases hkj : k = j
    · subst hkj
      rw [Maps.has_put_same hD hk]
      simp only [true_iff]
      exact ⟨j, h, rfl, by simp [pt]⟩
    · rw [Maps.has_put_other (by intro e; injection e with _ e2; exact hkj e2), v.has k]
      constructor
      · rintro ⟨i, u, rfl, e⟩
        exact ⟨i, u, rfl, by unfold pt; rw [if_neg (by omega)]; exact e⟩
      · rintro ⟨i, u, rfl, e⟩
        unfold pt at e
        rw [if_neg (by omega)] at e
        exact ⟨i, u, rfl, e⟩
  · unfold pt at e
    by_cases hij : i = j
    · subst hij
      rw [if_pos rfl] at e
      cases e
      exact Maps.atKey_put_same hD hk _ _
    · rw [if_neg hij] at e
      rw [Maps.atKey_put_other (by intro e; injection e with _ e2; omega)]
      exact v.at' i u e z
  · unfold pt at e
    by_cases hij : i = j
    · subst hij
      rw [if_pos rfl] at e
      cases e
      exact ⟨hj, hh⟩
    · rw [if_neg hij] at e
      exact v.lt i u e
theorem Vw.del {D : DataW Value} {N : Nat} {m : Nat → Option Nat} (v : Vw D N m) (j : Nat) : Vw (D.del (.int .i64 j)) N (pt m j none) := by
  refine ⟨fun k => ?_, fun i u e z => ?_, fun i u e => ?_⟩
  · by_cases hkj : k = j
    · subst hkj
      rw [Maps.has_del_same]
      simp only [Bool.false_eq_true, false_iff]
      rintro ⟨i, u, e1, e2⟩
      obtain rfl : j = i := by omega
      simp [pt] at e2
    · rw [Maps.has_del_other (by intro e; injection e with _ e2; exact hkj e2), v.has k]
      constructor
      · rintro ⟨i, u, rfl, e⟩
        exact ⟨i, u, rfl, by unfold pt; rw [if_neg (by omega)]; exact e⟩
      · rintro ⟨i, u, rfl, e⟩
        unfold pt at e
        rw [if_neg (by omega)] at e
        exact ⟨i, u, rfl, e⟩
  · unfold pt at e
    by_cases hij : i = j
    · rw [if_pos hij] at e
      cases e
    · rw [if_neg hij] at e
      rw [Maps.atKey_del_other (by intro e; injection e with _ e2; omega)]
      exact v.at' i u e z
  · unfold pt at e
    by_cases hij : i = j
    · rw [if_pos hij] at e
      cases e
    · rw [if_neg hij] at e
      exact v.lt i u e
theorem Mw.store {w : World} {b N : Nat} {m : Nat → Option Nat} (h : Mw w b N m) (hN : N ≤ 4096) (j : Nat) (hj : j < N) (u : Nat) (hu : u < 65536) :
    ∃ w', (Instr.mapUpdate 122 (.map (some b)) (.int .i64 j) (.int .u16 u)).run Tryz.prog w = .ok () w' ∧ Mw w' b N (pt m j (some u)) ∧ w.grownBy w' (some b) := by
  obtain ⟨D, ho, v⟩ := h
  obtain ⟨w', hr, ho', g⟩ := ho.update keyed Tryz.underlying122 (by unfold maxLen; omega) (key_at j (by omega)) (val := wv u) (d := .held (wv u)) (ps := []) rfl
  exact ⟨w', hr, Mw.mk' ho' (v.put ho.isMap j hj u hu), g⟩
theorem Mw.drop {w : World} {b N : Nat} {m : Nat → Option Nat} (h : Mw w b N m) (j : Nat) (hj : j ≤ 4096) (ty : TypeId) :
    ∃ w', (Builtin.delete_ #[122, 3] ty #[.map (some b), .int .i64 j]).run Tryz.prog w = .ok (.tuple #[]) w' ∧ Mw w' b N (pt m j none) ∧ w.grownBy w' (some b) := by
  obtain ⟨D, ho, v⟩ := h
  obtain ⟨w', hr, ho', g⟩ := ho.drop keyed Tryz.underlying122 (key_at j hj) ty
  exact ⟨w', hr, Mw.mk' ho' (v.del j), g.grown⟩
theorem Mw.of_eq {w w' : World} {b N : Nat} {m : Nat → Option Nat} (h : Mw w b N m) (e : w'.heap[b]? = w.heap[b]?) (hs : w.heap.size ≤ w'.heap.size) : Mw w' b N m := by
  obtain ⟨D, ho, v⟩ := h
  obtain ⟨es, clock, hb, F⟩ := ho
  exact ⟨D, ⟨es, clock, e.trans hb, F⟩, v⟩
end Go.Proofs.YtkbpnkjjmipjfaaGreat.P
namespace Go.Proofs.YtkbpnkjjmipjfaaGreat.A
open Go.ChangeShapes Go.WideShapes Go.ChangeAt Go.RowKit
set_option linter.unusedVariables false

theorem low8_u64 (a : Int) (h0 : 0 ≤ a) (h1 : a < 18446744073709551616) : bits .and .u64 a 255 = a % 256 := by
  rw [u64_and a 255 h0 h1 (by decide) (by decide)]
  have e : (255 : Int).toNat = 255 := rfl
  rw [e, nat_mask8]; omega
theorem join_u64 (a b : Int) (h0 : 0 ≤ a) (h1 : a < 1048576) (h2 : 0 ≤ b) (h3 : b < 256) : bits .or .u64 (a * 256) b = a * 256 + b := by
  rw [u64_or (a * 256) b (by omega) (by omega) h2 (by omega), nat_join 8 _ _ (by omega) (by omega)]; omega
theorem ret_bool {a b : Bool} (h : a = b) : Ending.returned (.bool a) = .returned (.bool b) := by rw [h]
theorem cut_any (a : Int) (h0 : 0 ≤ a) (h1 : a < 18446744073709551616) (w : World) :
    Calls Tryz.prog 160 #[.int .u64 a] w fun e w' => e = .returned (.tuple #[.int .i64 (a / 256), .int .i64 (a % 256)]) ∧ w' = w := by
  have hl := low8_u64 a h0 h1
  go_enter Tryz.func160, Tryz.ntmps160
  go_wp2
  go_ret2
  exact ⟨rfl, rfl⟩
def inB (n a b : Int) : Bool := decide (a ≤ n) && decide (n ≤ b)
theorem inB_t {n a b : Int} (h : a ≤ n) (h' : n ≤ b) : inB n a b = true := by simp [inB, h, h']
theorem offMayBe_any (a : Int) (w : World) :
    Calls Tryz.prog 190 #[.int .i64 a] w fun e w' => e = .returned (.bool (inB a 0 255)) ∧ w' = w := by
  go_enter Tryz.func190, Tryz.ntmps190
  go_wp2
  all_goals (go_ret; exact ⟨ret_bool (by rw [Bool.eq_iff_iff]; simp [inB]; omega), rfl⟩)
theorem frameMayBe_any (a : Int) (w : World) :
    Calls Tryz.prog 189 #[.int .i64 a] w fun e w' => e = .returned (.bool (inB a 0 4095)) ∧ w' = w := by
  go_enter Tryz.func189, Tryz.ntmps189
  go_wp2
  all_goals (go_ret; exact ⟨ret_bool (by rw [Bool.eq_iff_iff]; simp [inB]; omega), rfl⟩)
theorem put_any (a b : Int) (h0 : 0 ≤ a) (h1 : a < 1048576) (h2 : 0 ≤ b) (h3 : b < 256) (w : World) :
    Calls Tryz.prog 191 #[.int .i64 a, .int .i64 b] w fun e w' => e = .returned (.int .u64 (a * 256 + b)) ∧ w' = w := by
  have hj := join_u64 a b h0 h1 h2 h3
  go_enter Tryz.func191, Tryz.ntmps191
  go_wp2
  go_ret
  exact ⟨rfl, rfl⟩
theorem Frame_ok (a : Int) (h0 : 0 ≤ a) (h1 : a < 1048576) (w : World) :
    Calls Tryz.prog 119 #[.int .u64 a] w fun e w' => e = .returned (.tuple #[.int .i64 (a / 256), .int .i64 (a % 256), .int .i64 0]) ∧ w' = w := by
  have hz : (a / 1048576 != 0) = false := by simp; omega
  go_enter Tryz.func119, Tryz.ntmps119
  go_wp2_with (go_at_call 160; refine (cut_any _ h0 (by omega) _).mono ?_; rintro e w' ⟨rfl, rfl⟩)
  go_ret3
  exact ⟨rfl, rfl⟩
theorem Frame_no (a : Int) (h0 : 1048576 ≤ a) (h1 : a < 18446744073709551616) (w : World) :
    Calls Tryz.prog 119 #[.int .u64 a] w fun e w' => e = .returned (.tuple #[.int .i64 0, .int .i64 0, .int .i64 10]) ∧ w' = w := by
  have hz : (a / 1048576 != 0) = true := by rw [bne_iff_ne]; omega
  go_enter Tryz.func119, Tryz.ntmps119
  go_wp2_with fail
  go_ret3
  exact ⟨rfl, rfl⟩
theorem Place_ok (a b : Int) (h0 : 0 ≤ a) (h1 : a < 4096) (h2 : 0 ≤ b) (h3 : b < 256) (w : World) :
    Calls Tryz.prog 148 #[.int .i64 a, .int .i64 b] w fun e w' => e = .returned (.tuple #[.int .u64 (a * 256 + b), .int .i64 0]) ∧ w' = w := by
  have ha := inB_t h0 (show a ≤ 4095 by omega)
  have hb := inB_t h2 (show b ≤ 255 by omega)
  go_enter Tryz.func148, Tryz.ntmps148
  go_wp2_with (first | (go_at_call 189; refine (frameMayBe_any _ _).mono ?_; rintro e w' ⟨rfl, rfl⟩) | (go_at_call 190; refine (offMayBe_any _ _).mono ?_; rintro e w' ⟨rfl, rfl⟩) | (go_at_call 191; refine (put_any _ _ h0 (by omega) h2 h3 _).mono ?_; rintro e w' ⟨rfl, rfl⟩))
  go_ret2
  exact ⟨rfl, rfl⟩
end Go.Proofs.YtkbpnkjjmipjfaaGreat.A
