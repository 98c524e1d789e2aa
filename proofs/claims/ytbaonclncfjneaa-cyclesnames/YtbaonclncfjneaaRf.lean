/- The counter of the document's answer, New and Begin of both, and each call in one form for program and answer; no condition but the ranges that each theorem names. -/
import Derived.Test.YtbaonclncfjneaaCm
namespace Go.Proofs.Ytbaonclncfjneaa
open Go.ChangeShapes Go.WideShapes Go.ChangeAt Go.RowKit
set_option linter.unusedVariables false

theorem rNow_any {w : World} {p : Nat} {s d n q : Int} (h : Ctr 35 w p s d n q) (o : Ok s d n q) :
    Calls Try.prog 11 #[.pointer (some ⟨p, 0, none⟩)] w fun e w' => e = .returned (.int .u64 (nw s d n q)) ∧ ∃ m, w' = w.drewN m := by
  have hc0 := h.c0
  have hc1 := h.c1
  have hc2 := h.c2
  have hc3 := h.c3
  have hb := o.nw0
  unfold nw at *
  have h1 := o.q1
  have h2 := o.q2
  have h3 := o.s1
  have h4 := o.s2
  have h5 := o.d1
  have h6 := o.d2
  have hp := prod_le n (s + d) o.n1 o.n2 (by omega) (by omega)
  clear o h
  go_enter Try.func11, Try.ntmps11
  go_wp2_with (go_quiet (fail))
  go_ret
  exact ⟨ret_int (by go_num), _, rfl⟩
theorem rLeft_any {w : World} {p : Nat} {s d n q : Int} (h : Ctr 35 w p s d n q) (o : Ok s d n q) :
    Calls Try.prog 14 #[.pointer (some ⟨p, 0, none⟩)] w fun e w' => e = .returned (.int .u64 (lf s n q)) ∧ ∃ m, w' = w.drewN m := by
  have hc0 := h.c0
  have hc2 := h.c2
  have hc3 := h.c3
  have h1 := o.q1
  have h2 := o.q2
  have h3 := o.s2
  clear o h
  unfold lf
  by_cases hn : n = 1099511627776
  · rw [if_pos hn]
    go_enter Try.func14, Try.ntmps14
    go_wp2
    go_ret
    exact ⟨rfl, 0, rfl⟩
  · rw [if_neg hn]
    go_enter Try.func14, Try.ntmps14
    go_wp2_with (go_quiet (fail))
    go_ret
    exact ⟨ret_int (by go_num), _, rfl⟩
theorem rSpend_no {w : World} {p : Nat} {s d n q : Int} (h : Ctr 35 w p s d n q) (o : Ok s d n q) (x : Int) (hx : lf s n q < x) :
    Calls Try.prog 17 #[.pointer (some ⟨p, 0, none⟩), .int .u64 x] w (Trn 35 w p s d n q 50) := by
  have C2 : Hid (Calls _ _ _ _ _) := rLeft_any h o
  have HC : Hid (Ctr 35 w p s d n q) := h
  clear h o
  generalize lf s n q = l at *
  go_enter Try.func17, Try.ntmps17
  go_wp2_with (go_at_call 14; refine C2.out.mono ?_; rintro e w' ⟨rfl, m, rfl⟩)
  go_ret
  exact (Trn.same (HC.out.drew m)).grow (grown_drewN _ _ _)
theorem rSpend_ok {w : World} {p : Nat} {s d n q : Int} (h : Ctr 35 w p s d n q) (o : Ok s d n q) (x : Int) (h0 : 0 ≤ x) (hx : ¬ lf s n q < x) :
    Calls Try.prog 17 #[.pointer (some ⟨p, 0, none⟩), .int .u64 x] w (Trn 35 w p s d n (q + x) 0) := by
  have C2 : Hid (Calls _ _ _ _ _) := rLeft_any h o
  have HC : Hid (Ctr 35 w p s d n q) := h
  have hc3 := h.c3
  have hf3 := h.f3
  have hl := o.lf0
  have h1 := o.q1
  have h2 := o.q2
  have h3 := o.s2
  clear h o
  generalize lf s n q = l at *
  go_enter Try.func17, Try.ntmps17
  go_wp2_with (go_at_call 14; refine C2.out.mono ?_; rintro e w' ⟨rfl, m, rfl⟩)
  go_ret
  exact (Trn.three (HC.out.drew m)).grow (grown_drewN _ _ _)
theorem rSwitch_halt {w : World} {p : Nat} {s d n q : Int} (h : Ctr 35 w p s d n q) (o : Ok s d n q) (x : Int) (hn : n = 1099511627776) :
    Calls Try.prog 19 #[.pointer (some ⟨p, 0, none⟩), .int .u64 x] w (Trn 35 w p s d n q 51) := by
  have HC : Hid (Ctr 35 w p s d n q) := h
  have hc2 := h.c2
  clear h o
  go_enter Try.func19, Try.ntmps19
  go_wp2
  go_ret
  exact Trn.same HC.out
theorem rSwitch_no {w : World} {p : Nat} {s d n q : Int} (h : Ctr 35 w p s d n q) (o : Ok s d n q) (x : Int) (hn : ¬ n = 1099511627776) (hx : d < x) :
    Calls Try.prog 19 #[.pointer (some ⟨p, 0, none⟩), .int .u64 x] w (Trn 35 w p s d n q 50) := by
  have HC : Hid (Ctr 35 w p s d n q) := h
  have hc1 := h.c1
  have hc2 := h.c2
  clear h o
  go_enter Try.func19, Try.ntmps19
  go_wp2
  go_ret
  exact Trn.same HC.out
theorem rSwitch_ok {w : World} {p : Nat} {s d n q : Int} (h : Ctr 35 w p s d n q) (o : Ok s d n q) (x : Int) (hn : ¬ n = 1099511627776) (hx : ¬ d < x) :
    Calls Try.prog 19 #[.pointer (some ⟨p, 0, none⟩), .int .u64 x] w (Trn 35 w p s d (n + 1) 0 0) := by
  have HC : Hid (Ctr 35 w p s d n q) := h
  have hc1 := h.c1
  have hc2 := h.c2
  have hc3 := h.c3
  have hf2 := h.f2
  have hf3 := h.f3
  have hn1 := o.n1
  have hn2 := o.n2
  clear h o
  go_enter Try.func19, Try.ntmps19
  go_wp2
  go_ret
  exact Trn.both HC.out

/-! ### New and Begin -/
/-- The answer of New that makes none. -/
def newE (s d n : Int) : Int := if may s d = false then 2 else if 1099511627776 ≤ n then 51 else 0
theorem New_no (s d n : Int) (h : newE s d n ≠ 0) (w : World) : Calls Try.prog 7 #[.int .u64 s, .int .u64 d, .int .u64 n] w fun e w' => e = .returned (.tuple #[.pointer none, .int .i64 (newE s d n)]) ∧ w' = w := by
  have C1 : Hid (Calls _ _ _ _ _) := areLengths_any s d w
  unfold newE at *
  by_cases a : may s d = false
  · rw [a] at C1
    rw [if_pos a]
    clear h
    go_enter Try.func7, Try.ntmps7
    go_wp2_with (go_at_call 26; refine C1.out.mono ?_; rintro e w' ⟨rfl, rfl⟩)
    go_ret2
    exact ⟨rfl, rfl⟩
  · rw [if_neg a] at h ⊢
    rw [Bool.not_eq_false] at a
    rw [a] at C1
    by_cases b : 1099511627776 ≤ n
    · rw [if_pos b]
      clear h
      go_enter Try.func7, Try.ntmps7
      go_wp2_with (go_at_call 26; refine C1.out.mono ?_; rintro e w' ⟨rfl, rfl⟩)
      go_ret2
      exact ⟨rfl, rfl⟩
    · rw [if_neg b] at h
      exact absurd rfl h
theorem rNew_no (s d n : Int) (h : newE s d n ≠ 0) (w : World) : Calls Try.prog 8 #[.int .u64 s, .int .u64 d, .int .u64 n] w fun e w' => e = .returned (.tuple #[.pointer none, .int .i64 (newE s d n)]) ∧ w' = w := by
  have C1 : Hid (Calls _ _ _ _ _) := May_any s d w
  unfold newE at *
  by_cases a : may s d = false
  · rw [a] at C1
    rw [if_pos a]
    clear h
    go_enter Try.func8, Try.ntmps8
    go_wp2_with (go_at_call 27; refine C1.out.mono ?_; rintro e w' ⟨rfl, rfl⟩)
    go_ret2
    exact ⟨rfl, rfl⟩
  · rw [if_neg a] at h ⊢
    rw [Bool.not_eq_false] at a
    rw [a] at C1
    by_cases b : 1099511627776 ≤ n
    · rw [if_pos b]
      clear h
      go_enter Try.func8, Try.ntmps8
      go_wp2_with (go_at_call 27; refine C1.out.mono ?_; rintro e w' ⟨rfl, rfl⟩)
      go_ret2
      exact ⟨rfl, rfl⟩
    · rw [if_neg b] at h
      exact absurd rfl h
/-- A new counter. -/
def Nw (ty : TypeId) (s d n : Int) (w : World) (e : Ending) (w' : World) : Prop := ∃ p, e = .returned (.tuple #[.pointer (some ⟨p, 0, none⟩), .int .i64 0]) ∧ Ctr ty w' p s d n 0 ∧ w.grownBy w' none ∧ w.heap.size ≤ p
theorem newE_zero {s d n : Int} (h : newE s d n = 0) : may s d = true ∧ n < 1099511627776 := by
  unfold newE at h
  by_cases a : may s d = false
  · rw [if_pos a] at h; cases h
  · rw [if_neg a] at h
    rw [Bool.not_eq_false] at a
    refine ⟨a, ?_⟩
    by_cases b : 1099511627776 ≤ n
    · rw [if_pos b] at h; cases h
    · omega
theorem newE_ok {s d n : Int} (h : newE s d n = 0) (d0 : 0 ≤ d) (n0 : 0 ≤ n) : Ok s d n 0 := by
  obtain ⟨a, b⟩ := newE_zero h
  simp [may] at a
  exact ⟨by omega, by omega, by omega, by omega, by omega, by omega, by omega, by omega, fun _ => rfl⟩
theorem newE_of {s d n : Int} (h1 : 1 ≤ s) (h2 : s ≤ 4194304) (h3 : d ≤ 4194304) (h4 : n < 1099511627776) : newE s d n = 0 := by
  unfold newE
  rw [if_neg (by simp [may]; omega), if_neg (by omega)]
theorem New_ok (s d n : Int) (h : newE s d n = 0) (w : World) : Calls Try.prog 7 #[.int .u64 s, .int .u64 d, .int .u64 n] w (Nw 58 s d n w) := by
  have C1 : Hid (Calls _ _ _ _ _) := areLengths_any s d w
  obtain ⟨a, b⟩ := newE_zero h
  rw [a] at C1
  clear h a
  go_enter Try.func7, Try.ntmps7
  go_wp2_with (go_at_call 26; refine C1.out.mono ?_; rintro e w' ⟨rfl, rfl⟩)
  go_ret2
  exact ⟨_, rfl, blk_new _ [.int .u64 s, .int .u64 d, .int .u64 n, .int .u64 0] 58, World.grownBy_alloc _ _ none, Nat.le_refl _⟩
theorem rNew_ok (s d n : Int) (h : newE s d n = 0) (w : World) : Calls Try.prog 8 #[.int .u64 s, .int .u64 d, .int .u64 n] w (Nw 35 s d n w) := by
  have C1 : Hid (Calls _ _ _ _ _) := May_any s d w
  obtain ⟨a, b⟩ := newE_zero h
  rw [a] at C1
  clear h a
  go_enter Try.func8, Try.ntmps8
  go_wp2_with (go_at_call 27; refine C1.out.mono ?_; rintro e w' ⟨rfl, rfl⟩)
  go_ret2
  exact ⟨_, rfl, blk_new _ [.int .u64 s, .int .u64 d, .int .u64 n, .int .u64 0] 35, World.grownBy_alloc _ _ none, Nat.le_refl _⟩
/-- What Begin answers. -/
def begV (k s d : Int) : Int := if 1099511627776 < k then 0 else if may s d = false then 0 else k * (s + d)
def begE (k s d : Int) : Int := if 1099511627776 < k then 51 else if may s d = false then 2 else 0
theorem Begin_any (k s d : Int) (k0 : 0 ≤ k) (d0 : 0 ≤ d) (w : World) : Calls Try.prog 20 #[.int .u64 k, .int .u64 s, .int .u64 d] w fun e w' => e = .returned (.tuple #[.int .u64 (begV k s d), .int .i64 (begE k s d)]) ∧ w' = w := by
  have C1 : Hid (Calls _ _ _ _ _) := areLengths_any s d w
  unfold begV begE
  by_cases b : 1099511627776 < k
  · rw [if_pos b, if_pos b]
    go_enter Try.func20, Try.ntmps20
    go_wp2
    go_ret2
    exact ⟨rfl, rfl⟩
  · rw [if_neg b, if_neg b]
    by_cases a : may s d = false
    · rw [if_pos a, if_pos a]
      rw [a] at C1
      clear a
      go_enter Try.func20, Try.ntmps20
      go_wp2_with (go_at_call 26; refine C1.out.mono ?_; rintro e w' ⟨rfl, rfl⟩)
      go_ret2
      exact ⟨rfl, rfl⟩
    · rw [if_neg a, if_neg a]
      rw [Bool.not_eq_false] at a
      rw [a] at C1
      simp [may] at a
      have hp := prod_le k (s + d) k0 (by omega) (by omega) (by omega)
      have C2 : Hid (Calls _ _ _ _ _) := begin_any k s d (by omega) (by omega) hp.1 hp.2 w
      clear a hp
      generalize k * (s + d) = t at *
      go_enter Try.func20, Try.ntmps20
      go_wp2_with (first | (go_at_call 26; refine C1.out.mono ?_; rintro e w' ⟨rfl, rfl⟩) | (go_at_call 29; refine C2.out.mono ?_; rintro e w' ⟨rfl, rfl⟩))
      go_ret2
      exact ⟨rfl, rfl⟩
theorem rBegin_any (k s d : Int) (k0 : 0 ≤ k) (d0 : 0 ≤ d) (w : World) : Calls Try.prog 21 #[.int .u64 k, .int .u64 s, .int .u64 d] w fun e w' => e = .returned (.tuple #[.int .u64 (begV k s d), .int .i64 (begE k s d)]) ∧ w' = w := by
  have C1 : Hid (Calls _ _ _ _ _) := May_any s d w
  unfold begV begE
  by_cases b : 1099511627776 < k
  · rw [if_pos b, if_pos b]
    go_enter Try.func21, Try.ntmps21
    go_wp2
    go_ret2
    exact ⟨rfl, rfl⟩
  · rw [if_neg b, if_neg b]
    by_cases a : may s d = false
    · rw [if_pos a, if_pos a]
      rw [a] at C1
      clear a
      go_enter Try.func21, Try.ntmps21
      go_wp2_with (go_at_call 27; refine C1.out.mono ?_; rintro e w' ⟨rfl, rfl⟩)
      go_ret2
      exact ⟨rfl, rfl⟩
    · rw [if_neg a, if_neg a]
      rw [Bool.not_eq_false] at a
      rw [a] at C1
      simp [may] at a
      have hp := prod_le k (s + d) k0 (by omega) (by omega) (by omega)
      go_enter Try.func21, Try.ntmps21
      go_wp2_with (go_at_call 27; refine C1.out.mono ?_; rintro e w' ⟨rfl, rfl⟩)
      go_ret2
      refine ⟨?_, rfl⟩
      go_num

/-! ### Each call, in one form -/
def spE (s n q x : Int) : Int := if lf s n q < x then 50 else 0
def spQ (s n q x : Int) : Int := if lf s n q < x then q else q + x
def swE (d n x : Int) : Int := if n = 1099511627776 then 51 else if d < x then 50 else 0
def swN (d n x : Int) : Int := if n = 1099511627776 then n else if d < x then n else n + 1
def swQ (d n q x : Int) : Int := if n = 1099511627776 then q else if d < x then q else 0
theorem Spend_any {w : World} {p : Nat} {s d n q : Int} (h : Ctr 58 w p s d n q) (o : Ok s d n q) (x : Int) (h0 : 0 ≤ x) :
    Calls Try.prog 16 #[.pointer (some ⟨p, 0, none⟩), .int .u64 x] w (Trn 58 w p s d n (spQ s n q x) (spE s n q x)) := by
  unfold spQ spE
  by_cases a : lf s n q < x
  · rw [if_pos a, if_pos a]; exact Spend_no h o x a
  · rw [if_neg a, if_neg a]; exact Spend_ok h o x h0 a
theorem rSpend_any {w : World} {p : Nat} {s d n q : Int} (h : Ctr 35 w p s d n q) (o : Ok s d n q) (x : Int) (h0 : 0 ≤ x) :
    Calls Try.prog 17 #[.pointer (some ⟨p, 0, none⟩), .int .u64 x] w (Trn 35 w p s d n (spQ s n q x) (spE s n q x)) := by
  unfold spQ spE
  by_cases a : lf s n q < x
  · rw [if_pos a, if_pos a]; exact rSpend_no h o x a
  · rw [if_neg a, if_neg a]; exact rSpend_ok h o x h0 a
theorem Switch_any {w : World} {p : Nat} {s d n q : Int} (h : Ctr 58 w p s d n q) (o : Ok s d n q) (x : Int) :
    Calls Try.prog 18 #[.pointer (some ⟨p, 0, none⟩), .int .u64 x] w (Trn 58 w p s d (swN d n x) (swQ d n q x) (swE d n x)) := by
  unfold swN swQ swE
  by_cases a : n = 1099511627776
  · rw [if_pos a, if_pos a, if_pos a]; exact Switch_halt h o x a
  · rw [if_neg a, if_neg a, if_neg a]
    by_cases b : d < x
    · rw [if_pos b, if_pos b, if_pos b]; exact Switch_no h o x a b
    · rw [if_neg b, if_neg b, if_neg b]; exact Switch_ok h o x a b
theorem rSwitch_any {w : World} {p : Nat} {s d n q : Int} (h : Ctr 35 w p s d n q) (o : Ok s d n q) (x : Int) :
    Calls Try.prog 19 #[.pointer (some ⟨p, 0, none⟩), .int .u64 x] w (Trn 35 w p s d (swN d n x) (swQ d n q x) (swE d n x)) := by
  unfold swN swQ swE
  by_cases a : n = 1099511627776
  · rw [if_pos a, if_pos a, if_pos a]; exact rSwitch_halt h o x a
  · rw [if_neg a, if_neg a, if_neg a]
    by_cases b : d < x
    · rw [if_pos b, if_pos b, if_pos b]; exact rSwitch_no h o x a b
    · rw [if_neg b, if_neg b, if_neg b]; exact rSwitch_ok h o x a b
theorem Ok.spend {s d n q : Int} (o : Ok s d n q) (x : Int) (h0 : 0 ≤ x) : Ok s d n (spQ s n q x) := by
  obtain ⟨a1, a2, a3, a4, a5, a6, a7, a8, a9⟩ := o
  unfold spQ lf
  refine ⟨a1, a2, a3, a4, a5, a6, ?_, ?_, ?_⟩
  · split <;> omega
  · split <;> split at * <;> omega
  · intro e
    have := a9 e
    rw [if_pos e]
    split <;> omega
theorem Ok.switch {s d n q : Int} (o : Ok s d n q) (x : Int) : Ok s d (swN d n x) (swQ d n q x) := by
  obtain ⟨a1, a2, a3, a4, a5, a6, a7, a8, a9⟩ := o
  unfold swN swQ
  by_cases a : n = 1099511627776
  · rw [if_pos a, if_pos a]; exact ⟨a1, a2, a3, a4, a5, a6, a7, a8, a9⟩
  · rw [if_neg a, if_neg a]
    by_cases b : d < x
    · rw [if_pos b, if_pos b]; exact ⟨a1, a2, a3, a4, a5, a6, a7, a8, a9⟩
    · rw [if_neg b, if_neg b]; exact ⟨a1, a2, a3, a4, by omega, by omega, by omega, by omega, fun _ => rfl⟩
end Go.Proofs.Ytbaonclncfjneaa
