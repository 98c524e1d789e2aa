/- An area in memory; which are none; made, taken; no condition but those that each theorem names. -/
import Derived.Test.YtncelpphbhcogaaDoorSd
namespace Go.Proofs.YtncelpphbhcogaaDoor.Z
open Go.ChangeShapes Go.WideShapes Go.ChangeAt Go.RowKit
set_option linter.unusedVariables false
set_option maxRecDepth 8192

/-- Words as values. -/
def wv (W : List Nat) : List Value := W.map fun (x : Nat) => .int .u64 (x : Int)
theorem wv_len (W : List Nat) : (wv W).length = W.length := List.length_map _
theorem wv_at {W : List Nat} {j : Nat} (h : j < W.length) : (wv W)[j]? = some (.int .u64 (W.getD j 0 : Nat)) := by
  unfold wv
  rw [List.getElem?_map, List.getElem?_eq_getElem h, getD_lt h]
  rfl
theorem wv_set (W : List Nat) (j x : Nat) : (wv W).set j (.int .u64 (x : Int)) = wv (W.set j x) := by
  unfold wv
  rw [List.map_set]
/-- An area: the struct, its words. -/
structure Sl (w : World) (s g : Nat) (T : List Bool) (W : List Nat) : Prop where
  st : Blk w s 46 [.int .i64 T.length, .slice (some ⟨g, 0, none⟩) W.length W.length]
  wd : Blk w g 47 (wv W)
  ne : s ≠ g
  ws : Wd W T
  n : T.length ≤ 1024
  m : W.length ≤ 16
theorem Sl.of_eq {w w' : World} {s g : Nat} {T : List Bool} {W : List Nat} (h : Sl w s g T W) (e1 : w'.heap[s]? = w.heap[s]?) (e2 : w'.heap[g]? = w.heap[g]?) : Sl w' s g T W := ⟨h.st.of_eq e1, h.wd.of_eq e2, h.ne, h.ws, h.n, h.m⟩
theorem Sl.below {w w' : World} {s g : Nat} {T : List Bool} {W : List Nat} (h : Sl w s g T W) (k : Below w.heap.size w w') : Sl w' s g T W := h.of_eq (k.block s h.st.lt) (k.block g h.wd.lt)
theorem Sl.kept {w w' : World} {s g x : Nat} {T : List Bool} {W : List Nat} (h : Sl w s g T W) (k : w.grownBy w' (some x)) (h1 : s ≠ x) (h2 : g ≠ x) : Sl w' s g T W := h.of_eq (k.block s h.st.lt (some_ne h1)) (k.block g h.wd.lt (some_ne h2))
theorem Sl.c0 {w : World} {s g : Nat} {T : List Bool} {W : List Nat} (h : Sl w s g T W) : w.cell? ⟨s, 0, none⟩ = some (.int .i64 T.length) := h.st.cell 0
theorem Sl.c1 {w : World} {s g : Nat} {T : List Bool} {W : List Nat} (h : Sl w s g T W) : w.cell? ⟨s, 1, none⟩ = some (.slice (some ⟨g, 0, none⟩) W.length W.length) := h.st.cell 1
theorem Sl.cw {w : World} {s g : Nat} {T : List Bool} {W : List Nat} (h : Sl w s g T W) {j : Nat} (hj : j < W.length) : w.cell? ⟨g, j, none⟩ = some (.int .u64 (W.getD j 0 : Nat)) := (h.wd.cell j).trans (wv_at hj)
/-- One word turned. -/
theorem Sl.set {w : World} {s g : Nat} {T : List Bool} {W : List Nat} (h : Sl w s g T W) {j x : Nat} {T' : List Bool} (hw : Wd (W.set j x) T') (hl : T'.length = T.length) : Sl (w.setCell ⟨g, j, none⟩ (.int .u64 (x : Int))) s g T' (W.set j x) ∧ w.grownBy (w.setCell ⟨g, j, none⟩ (.int .u64 (x : Int))) (some g) := by
  have hg := grown_setCell' w g j (.int .u64 (x : Int))
  refine ⟨⟨?_, ?_, h.ne, hw, by rw [hl]; exact h.n, by rw [List.length_set]; exact h.m⟩, hg⟩
  · rw [hl, List.length_set]
    exact h.st.kept hg (some_ne h.ne)
  · have := h.wd.set j (.int .u64 (x : Int))
    rwa [wv_set] at this
/-- An area that is none. -/
def NoS (w : World) (q : Option Addr) : Prop := q = none ∨ ∃ s, q = some ⟨s, 0, none⟩ ∧ Blk w s 46 [.int .i64 0, .slice none 0 0]
theorem made_any {w : World} {s g : Nat} {T : List Bool} {W : List Nat} (h : Sl w s g T W) : Calls Tryd.prog 21 #[.pointer (some ⟨s, 0, none⟩)] w fun e w' => e = .returned (.bool true) ∧ w' = w := by
  have c1 := h.c1
  clear h
  go_enter Tryd.func21, Tryd.ntmps21
  go_wp2
  go_ret
  exact ⟨rfl, rfl⟩
theorem made_no {w : World} {q : Option Addr} (h : NoS w q) : Calls Tryd.prog 21 #[.pointer q] w fun e w' => e = .returned (.bool false) ∧ w' = w := by
  rcases h with rfl | ⟨s, rfl, h⟩
  · go_enter Tryd.func21, Tryd.ntmps21
    go_wp2
    go_ret
    exact ⟨rfl, rfl⟩
  · have c1 : w.cell? ⟨s, 1, none⟩ = some (.slice none 0 0) := h.cell 1
    clear h
    go_enter Tryd.func21, Tryd.ntmps21
    go_wp2
    go_ret
    exact ⟨rfl, rfl⟩
/-- Is there such a slot, and is it taken? -/
def tk (T : List Bool) (x : Int) : Bool := decide (0 ≤ x ∧ x < T.length ∧ T.getD x.toNat false = true)
theorem tk_neg {T : List Bool} {x : Int} (h : x < 0) : tk T x = false := by
  unfold tk
  simp
  omega
theorem tk_high {T : List Bool} {x : Int} (h : (T.length : Int) ≤ x) : tk T x = false := by
  unfold tk
  simp
  omega
theorem tk_in {T : List Bool} {k : Nat} (h : k < T.length) : tk T k = T.getD k false := by
  unfold tk
  cases e : T.getD k false <;> simp_all
theorem and_bit {x i : Nat} (hx : x < 18446744073709551616) (hi : i < 64) : (bits .and .u64 (x : Int) ((2 ^ i : Nat) : Int) == 0) = !(x.testBit i) := by
  have hp : 2 ^ i < 18446744073709551616 := Nat.lt_of_lt_of_le (Nat.pow_lt_pow_right (by omega) hi) (by decide)
  rw [bits_and_u64_nat x (2 ^ i) hx hp]
  have e : x &&& 2 ^ i = if x.testBit i then 2 ^ i else 0 := by
    apply Nat.eq_of_testBit_eq
    intro j
    rw [Nat.testBit_and, Nat.testBit_two_pow]
    by_cases e : i = j
    · subst e
      cases x.testBit i <;> simp
    · cases x.testBit i <;> simp [e]
  have hp0 : 2 ^ i ≠ 0 := Nat.ne_of_gt (Nat.two_pow_pos i)
  rw [e]
  cases x.testBit i
  · rfl
  · simp only [if_true, Bool.not_true, beq_eq_false_iff_ne, ne_eq]
    omega
theorem taken_any {w : World} {s g : Nat} {T : List Bool} {W : List Nat} (h : Sl w s g T W) (x : Int) : Calls Tryd.prog 23 #[.pointer (some ⟨s, 0, none⟩), .int .i64 x] w fun e w' => e = .returned (.bool (tk T x)) ∧ ∃ m, w' = w.drewN m := by
  have c0 := h.c0
  have c1 := h.c1
  by_cases h0 : x < 0
  · rw [tk_neg h0]
    have d0 : decide (0 ≤ x) = false := by simp; omega
    clear h
    go_enter Tryd.func23, Tryd.ntmps23
    go_wp2
    go_quiet (fail)
    go_wp2
    go_ret
    exact ⟨rfl, _, rfl⟩
  · by_cases h1 : (T.length : Int) ≤ x
    · rw [tk_high h1]
      have hl := h.n
      have d0 : decide (0 ≤ x) = true := by simp; omega
      have d1 : decide (x < (T.length : Int)) = false := by simp; omega
      generalize T.length = n at *
      clear h
      go_enter Tryd.func23, Tryd.ntmps23
      go_wp2
      go_quiet (fail)
      go_wp2
      go_ret
      exact ⟨rfl, _, rfl⟩
    · obtain ⟨k, rfl⟩ := Int.eq_ofNat_of_zero_le (show 0 ≤ x by omega)
      have hk : k < T.length := by omega
      have hn := h.n
      have hm := h.m
      have hkw := h.ws.word hk
      have cw := h.cw hkw
      have hb := h.ws.bit' hk
      have hab := and_bit (x := W.getD (k / 64) 0) (i := k % 64) h.ws.lt (by omega)
      rw [hb, Bool.not_not] at hab
      rw [tk_in hk]
      have d0 : decide (0 ≤ (k : Int)) = true := by simp
      have d1 : decide ((k : Int) < (T.length : Int)) = true := by simp; omega
      have hdv : (k : Int) / 64 = ((k / 64 : Nat) : Int) := by omega
      have HB : Hid (∀ w, Calls Tryd.prog 19 #[.int .i64 (k : Int)] w fun e w' => e = .returned (.int .u64 ((2 ^ (k % 64) : Nat) : Int)) ∧ w' = w) := fun w => bit_any k (by omega) w
      generalize T.getD k false = b at *
      generalize 2 ^ (k % 64) = pw at *
      generalize W.getD (k / 64) 0 = wd at *
      generalize W.length = m at *
      generalize T.length = n at *
      generalize k / 64 = j at *
      clear h hb
      go_enter Tryd.func23, Tryd.ntmps23
      go_wp2
      go_quiet ((go_at_call 19; refine Calls.quiet_of_same (HB.out _)))
      go_wp2
      go_ret
      exact ⟨rfl, _, rfl⟩
end Go.Proofs.YtncelpphbhcogaaDoor.Z
