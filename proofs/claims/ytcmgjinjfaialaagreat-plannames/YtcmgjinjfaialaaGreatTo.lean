/- What Touch and Switch of both sides give back; costs and shapes as cells; no condition but the ranges that each theorem names. -/
import Derived.Test.YtcmgjinjfaialaaGreatFn
namespace Go.Proofs.YtcmgjinjfaialaaGreat
open Go.ChangeShapes Go.WideShapes Go.ChangeAt Go.RowKit
set_option linter.unusedVariables false

/-- The six cells of costs. -/
structure Six (w : World) (g : Nat) (c : Co) : Prop where
  lt : g < w.heap.size
  c0 : w.cell? ⟨g, 0, none⟩ = some (.int .u64 c.l1)
  c1 : w.cell? ⟨g, 1, none⟩ = some (.int .u64 c.llc)
  c2 : w.cell? ⟨g, 2, none⟩ = some (.int .u64 c.mi)
  c3 : w.cell? ⟨g, 3, none⟩ = some (.int .u64 c.fa)
  c4 : w.cell? ⟨g, 4, none⟩ = some (.int .u64 c.st)
  c5 : w.cell? ⟨g, 5, none⟩ = some (.int .u64 c.di)
/-- The four cells of a shape. -/
structure Fou (w : World) (g : Nat) (s : Sh) : Prop where
  lt : g < w.heap.size
  c0 : w.cell? ⟨g, 0, none⟩ = some (.int .i64 s.im)
  c1 : w.cell? ⟨g, 1, none⟩ = some (.int .i64 s.us)
  c2 : w.cell? ⟨g, 2, none⟩ = some (.int .i64 s.li)
  c3 : w.cell? ⟨g, 3, none⟩ = some (.int .i64 s.no)
theorem cell_new (w : World) (L : List Value) (ty : TypeId) (i : Nat) : (w.alloc (.cells L.toArray ty)).cell? ⟨w.heap.size, i, none⟩ = L[i]? := by
  rw [cell_of_row (w.alloc (.cells L.toArray ty)) w.heap.size i _ ty (0, 0) (heap_alloc_last w _)]; simp
theorem six_new (w : World) (c : Co) : Six (w.alloc (.cells #[.int .u64 c.l1, .int .u64 c.llc, .int .u64 c.mi, .int .u64 c.fa, .int .u64 c.st, .int .u64 c.di] 25)) w.heap.size c :=
  ⟨by simp, cell_new w _ 25 0, cell_new w _ 25 1, cell_new w _ 25 2, cell_new w _ 25 3, cell_new w _ 25 4, cell_new w _ 25 5⟩
theorem fou_new (w : World) (s : Sh) : Fou (w.alloc (.cells #[.int .i64 s.im, .int .i64 s.us, .int .i64 s.li, .int .i64 s.no] 53)) w.heap.size s :=
  ⟨by simp, cell_new w _ 53 0, cell_new w _ 53 1, cell_new w _ 53 2, cell_new w _ 53 3⟩
theorem Six.below {w w' : World} {g : Nat} {c : Co} (h : Six w g c) (k : Below w.heap.size w w') : Six w' g c :=
  ⟨Nat.lt_of_lt_of_le h.lt k.size, (k.cell h.lt).trans h.c0, (k.cell h.lt).trans h.c1, (k.cell h.lt).trans h.c2, (k.cell h.lt).trans h.c3, (k.cell h.lt).trans h.c4, (k.cell h.lt).trans h.c5⟩
theorem Fou.below {w w' : World} {g : Nat} {s : Sh} (h : Fou w g s) (k : Below w.heap.size w w') : Fou w' g s :=
  ⟨Nat.lt_of_lt_of_le h.lt k.size, (k.cell h.lt).trans h.c0, (k.cell h.lt).trans h.c1, (k.cell h.lt).trans h.c2, (k.cell h.lt).trans h.c3⟩
/-- What a touch costs. -/
def tc (c : Co) (a b : Bool) : Int := bif a then c.l1 else bif b then c.llc else c.mi
/-- Whether so many lines and translations may be. -/
def okL (l t : Int) : Bool := inB l 0 65536 && inB t 0 64
theorem Switch_cost (c : Co) (h : okC c = false) (l t : Int) (w : World) : Calls Tryz.prog 68 #[.agg #[.int .u64 c.l1, .int .u64 c.llc, .int .u64 c.mi, .int .u64 c.fa, .int .u64 c.st, .int .u64 c.di], .int .i64 l, .int .i64 t] w (Two 0 100 w) := by
  have hb := below_new w (.cells #[.int .u64 c.l1, .int .u64 c.llc, .int .u64 c.mi, .int .u64 c.fa, .int .u64 c.st, .int .u64 c.di] 25)
  have C := Check_any c (w.alloc (.cells #[.int .u64 c.l1, .int .u64 c.llc, .int .u64 c.mi, .int .u64 c.fa, .int .u64 c.st, .int .u64 c.di] 25))
  rw [er_f h] at C
  clear h
  go_enter Tryz.func68, Tryz.ntmps68
  go_wp2_with fail
  refine C.mono ?_
  rintro e w1 ⟨rfl, k⟩
  clear C
  go_wp2
  go_ret2
  exact ⟨rfl, hb.trans (k.mono (by simp))⟩
theorem Switch_arg (c : Co) (h : okC c = true) (l t : Int) (hl : okL l t = false) (w : World) : Calls Tryz.prog 68 #[.agg #[.int .u64 c.l1, .int .u64 c.llc, .int .u64 c.mi, .int .u64 c.fa, .int .u64 c.st, .int .u64 c.di], .int .i64 l, .int .i64 t] w (Two 0 2 w) := by
  have hb := below_new w (.cells #[.int .u64 c.l1, .int .u64 c.llc, .int .u64 c.mi, .int .u64 c.fa, .int .u64 c.st, .int .u64 c.di] 25)
  have C := Check_any c (w.alloc (.cells #[.int .u64 c.l1, .int .u64 c.llc, .int .u64 c.mi, .int .u64 c.fa, .int .u64 c.st, .int .u64 c.di] 25))
  rw [er_t h] at C
  clear h
  have hw : l < 0 ∨ (¬ l < 0 ∧ 65536 < l) ∨ (¬ l < 0 ∧ ¬ 65536 < l ∧ t < 0) ∨ (¬ l < 0 ∧ ¬ 65536 < l ∧ ¬ t < 0 ∧ 64 < t) := by simp [okL, inB] at hl; omega
  clear hl
  rcases hw with h | ⟨h1, h⟩ | ⟨h1, h2, h⟩ | ⟨h1, h2, h3, h⟩
  all_goals
    go_enter Tryz.func68, Tryz.ntmps68
    go_wp2_with fail
    refine C.mono ?_
    rintro e w1 ⟨rfl, k⟩
    clear C
    go_wp2
    go_ret2
    exact ⟨rfl, hb.trans (k.mono (by simp))⟩
theorem prod_le (a b A B : Int) (h0 : 0 ≤ a) (h1 : a ≤ A) (h2 : 0 ≤ b) (h3 : b ≤ B) : 0 ≤ a * b ∧ a * b ≤ A * B := ⟨Int.mul_nonneg h0 h2, Int.mul_le_mul h1 h3 h2 (Int.le_trans h0 h1)⟩
theorem Switch_ok (c : Co) (h : okC c = true) (l t : Int) (hl : okL l t = true) (w : World) : Calls Tryz.prog 68 #[.agg #[.int .u64 c.l1, .int .u64 c.llc, .int .u64 c.mi, .int .u64 c.fa, .int .u64 c.st, .int .u64 c.di], .int .i64 l, .int .i64 t] w (Two ((l + t) * c.st) 0 w) := by
  have hb := below_new w (.cells #[.int .u64 c.l1, .int .u64 c.llc, .int .u64 c.mi, .int .u64 c.fa, .int .u64 c.st, .int .u64 c.di] 25)
  have S := six_new w c
  have C := Check_any c (w.alloc (.cells #[.int .u64 c.l1, .int .u64 c.llc, .int .u64 c.mi, .int .u64 c.fa, .int .u64 c.st, .int .u64 c.di] 25))
  have k := okC_iff.1 h
  rw [er_t h] at C
  simp [okL, inB] at hl
  obtain ⟨⟨l0, l1⟩, t0, t1⟩ := hl
  have l0 : ¬ l < 0 := by omega
  have l1 : ¬ 65536 < l := by omega
  have t0 : ¬ t < 0 := by omega
  have t1 : ¬ 64 < t := by omega
  have hp := prod_le (l + t) c.st 65600 65536 (by omega) (by omega) (by have := k.d1; omega) k.d2
  clear h k
  go_enter Tryz.func68, Tryz.ntmps68
  go_wp2_with fail
  refine C.mono ?_
  rintro e w1 ⟨rfl, k⟩
  have FIN : Hid (Below w.heap.size w w1) := hb.trans (k.mono (by simp))
  obtain ⟨_, c0, c1, c2, c3, c4, c5⟩ := S.below k
  clear C k S hb
  go_wp2
  go_ret2
  exact ⟨ret_two (by go_num) rfl, FIN.out⟩
theorem rSwitch_cost (c : Co) (h : okC c = false) (l t : Int) (w : World) : Calls Tryz.prog 71 #[.agg #[.int .u64 c.l1, .int .u64 c.llc, .int .u64 c.mi, .int .u64 c.fa, .int .u64 c.st, .int .u64 c.di], .int .i64 l, .int .i64 t] w (Two 0 100 w) := by
  have hb := below_new w (.cells #[.int .u64 c.l1, .int .u64 c.llc, .int .u64 c.mi, .int .u64 c.fa, .int .u64 c.st, .int .u64 c.di] 25)
  have C := rCheck_any c (w.alloc (.cells #[.int .u64 c.l1, .int .u64 c.llc, .int .u64 c.mi, .int .u64 c.fa, .int .u64 c.st, .int .u64 c.di] 25))
  rw [er_f h] at C
  clear h
  go_enter Tryz.func71, Tryz.ntmps71
  go_wp2_with fail
  refine C.mono ?_
  rintro e w1 ⟨rfl, k⟩
  clear C
  go_wp2
  go_ret2
  exact ⟨rfl, hb.trans (k.mono (by simp))⟩
theorem rSwitch_arg (c : Co) (h : okC c = true) (l t : Int) (hl : okL l t = false) (w : World) : Calls Tryz.prog 71 #[.agg #[.int .u64 c.l1, .int .u64 c.llc, .int .u64 c.mi, .int .u64 c.fa, .int .u64 c.st, .int .u64 c.di], .int .i64 l, .int .i64 t] w (Two 0 2 w) := by
  have hb := below_new w (.cells #[.int .u64 c.l1, .int .u64 c.llc, .int .u64 c.mi, .int .u64 c.fa, .int .u64 c.st, .int .u64 c.di] 25)
  have C := rCheck_any c (w.alloc (.cells #[.int .u64 c.l1, .int .u64 c.llc, .int .u64 c.mi, .int .u64 c.fa, .int .u64 c.st, .int .u64 c.di] 25))
  rw [er_t h] at C
  clear h
  have hw : inB l 0 65536 = false ∨ (inB l 0 65536 = true ∧ inB t 0 64 = false) := by
    unfold okL at hl
    cases e : inB l 0 65536
    · exact Or.inl rfl
    · rw [e] at hl
      exact Or.inr ⟨rfl, hl⟩
  clear hl
  rcases hw with h | ⟨h1, h⟩
  all_goals
    go_enter Tryz.func71, Tryz.ntmps71
    go_wp2_with fail
    refine C.mono ?_
    rintro e w1 ⟨rfl, k⟩
    clear C
    go_wp2_with (go_at_call 93; refine (Within_any _ _ _ _).mono ?_; rintro e w' ⟨rfl, rfl⟩)
    go_ret2
    exact ⟨rfl, hb.trans (k.mono (by simp))⟩
theorem rSwitch_ok (c : Co) (h : okC c = true) (l t : Int) (hl : okL l t = true) (w : World) : Calls Tryz.prog 71 #[.agg #[.int .u64 c.l1, .int .u64 c.llc, .int .u64 c.mi, .int .u64 c.fa, .int .u64 c.st, .int .u64 c.di], .int .i64 l, .int .i64 t] w (Two ((l + t) * c.st) 0 w) := by
  have hb := below_new w (.cells #[.int .u64 c.l1, .int .u64 c.llc, .int .u64 c.mi, .int .u64 c.fa, .int .u64 c.st, .int .u64 c.di] 25)
  have S := six_new w c
  have C := rCheck_any c (w.alloc (.cells #[.int .u64 c.l1, .int .u64 c.llc, .int .u64 c.mi, .int .u64 c.fa, .int .u64 c.st, .int .u64 c.di] 25))
  have k := okC_iff.1 h
  rw [er_t h] at C
  obtain ⟨z1, z2⟩ : inB l 0 65536 = true ∧ inB t 0 64 = true := by unfold okL at hl; rwa [Bool.and_eq_true] at hl
  have y1 := inB_iff.1 z1
  have y2 := inB_iff.1 z2
  have hp := prod_le (l + t) c.st 65600 65536 (by omega) (by omega) (by have := k.d1; omega) k.d2
  clear h k hl
  go_enter Tryz.func71, Tryz.ntmps71
  go_wp2_with fail
  refine C.mono ?_
  rintro e w1 ⟨rfl, k⟩
  have FIN : Hid (Below w.heap.size w w1) := hb.trans (k.mono (by simp))
  obtain ⟨_, c0, c1, c2, c3, c4, c5⟩ := S.below k
  clear C k S hb
  go_wp2_with (go_at_call 93; refine (Within_any _ _ _ _).mono ?_; rintro e w' ⟨rfl, rfl⟩)
  go_ret2
  exact ⟨ret_two (by go_num) rfl, FIN.out⟩
end Go.Proofs.YtcmgjinjfaialaaGreat
