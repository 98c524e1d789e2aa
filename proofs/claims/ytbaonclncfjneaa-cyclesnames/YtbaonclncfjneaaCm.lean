/- The methods of a counter, of the program and of the document's answer, over its four numbers; no condition but that the numbers are a counter's. -/
import Derived.Test.YtbaonclncfjneaaCt
namespace Go.Proofs.Ytbaonclncfjneaa
open Go.ChangeShapes Go.WideShapes Go.ChangeAt Go.RowKit
set_option linter.unusedVariables false

/-- The cycle. -/
def nw (s d n q : Int) : Int := n * (s + d) + q
theorem Ok.nw0 {s d n q : Int} (h : Ok s d n q) : 0 ≤ nw s d n q ∧ nw s d n q ≤ 9223372036859000000 := by
  have := h.q2; have := h.q1; have := h.s2; have := h.s1; have := h.d1; have := h.d2
  have := prod_le n (s + d) h.n1 h.n2 (by omega) (by omega)
  unfold nw
  omega
theorem Ctr.drew {ty : TypeId} {w : World} {p : Nat} {s d n q : Int} (h : Ctr ty w p s d n q) (m : Nat) : Ctr ty (w.drewN m) p s d n q := h
theorem grown_drewN (w : World) (n : Nat) (row : Option Nat) : w.grownBy (w.drewN n) row := ⟨rfl, rfl, rfl, Nat.le_refl _, fun _ _ _ => rfl⟩
theorem Now_any {w : World} {p : Nat} {s d n q : Int} (h : Ctr 58 w p s d n q) (o : Ok s d n q) :
    Calls Try.prog 10 #[.pointer (some ⟨p, 0, none⟩)] w fun e w' => e = .returned (.int .u64 (nw s d n q)) ∧ ∃ m, w' = w.drewN m := by
  have hc0 := h.c0
  have hc1 := h.c1
  have hc2 := h.c2
  have hc3 := h.c3
  have C1 : Hid (Calls _ _ _ _ _) := made_any h o.s1
  have hb := o.nw0
  unfold nw at *
  have h1 := o.q1
  have h2 := o.q2
  have h3 := o.s2
  have C2 : Hid (∀ w, Calls Try.prog 29 #[.int .u64 n, .int .u64 s, .int .u64 d] w fun e w' => e = .returned (.int .u64 (n * (s + d))) ∧ w' = w) := fun w => begin_any n s d (by have := o.s1; have := o.d1; omega) (by have := o.d2; omega) (prod_le n (s + d) o.n1 o.n2 (by have := o.s1; have := o.d1; omega) (by have := o.d2; omega)).1 (prod_le n (s + d) o.n1 o.n2 (by have := o.s1; have := o.d1; omega) (by have := o.d2; omega)).2 w
  clear o h
  generalize n * (s + d) = t at *
  go_enter Try.func10, Try.ntmps10
  go_wp2_with (first
    | (go_at_call 28; refine C1.out.mono ?_; rintro e w' ⟨rfl, rfl⟩)
    | (clear C1; go_quiet ((go_at_call 29; refine Calls.quiet_of_same (C2.out _)))))
  go_ret
  exact ⟨ret_int (by go_num), _, rfl⟩
theorem Number_any {w : World} {p : Nat} {s d n q : Int} (h : Ctr 58 w p s d n q) (h1 : 1 ≤ s) :
    Calls Try.prog 12 #[.pointer (some ⟨p, 0, none⟩)] w fun e w' => e = .returned (.int .u64 n) ∧ w' = w := by
  have hc2 := h.c2
  have C1 : Hid (Calls _ _ _ _ _) := made_any h h1
  clear h
  go_enter Try.func12, Try.ntmps12
  go_wp2_with (go_at_call 28; refine C1.out.mono ?_; rintro e w' ⟨rfl, rfl⟩)
  go_ret
  exact ⟨rfl, rfl⟩
theorem Left_any {w : World} {p : Nat} {s d n q : Int} (h : Ctr 58 w p s d n q) (o : Ok s d n q) :
    Calls Try.prog 13 #[.pointer (some ⟨p, 0, none⟩)] w fun e w' => e = .returned (.int .u64 (lf s n q)) ∧ ∃ m, w' = w.drewN m := by
  have hc0 := h.c0
  have hc3 := h.c3
  have C1 : Hid (Calls _ _ _ _ _) := made_any h o.s1
  have C2 : Hid (Calls _ _ _ _ _) := halted_any h
  have h1 := o.q1
  have h2 := o.q2
  have h3 := o.s2
  clear o h
  unfold lf
  by_cases hn : n = 1099511627776
  · rw [if_pos hn]
    rw [decide_eq_true hn] at C2
    go_enter Try.func13, Try.ntmps13
    go_wp2_with (first
      | (go_at_call 28; refine C1.out.mono ?_; rintro e w' ⟨rfl, rfl⟩)
      | (go_at_call 30; refine C2.out.mono ?_; rintro e w' ⟨rfl, rfl⟩))
    go_ret
    exact ⟨rfl, 0, rfl⟩
  · rw [if_neg hn]
    rw [decide_eq_false hn] at C2
    go_enter Try.func13, Try.ntmps13
    go_wp2_with (first
      | (go_at_call 28; refine C1.out.mono ?_; rintro e w' ⟨rfl, rfl⟩)
      | (go_at_call 30; refine C2.out.mono ?_; rintro e w' ⟨rfl, rfl⟩)
      | go_quiet (fail))
    go_ret
    exact ⟨ret_int (by go_num), _, rfl⟩
/-- What a call turns: a counter's numbers. -/
def Trn (ty : TypeId) (w : World) (p : Nat) (s d n q : Int) (er : Int) (e : Ending) (w' : World) : Prop := e = .returned (.int .i64 er) ∧ Ctr ty w' p s d n q ∧ w.grownBy w' (some p)
theorem Trn.grow {ty : TypeId} {w w0 w' : World} {p : Nat} {s d n q er : Int} {e : Ending} (h : Trn ty w p s d n q er e w') (g : w0.grownBy w (some p)) : Trn ty w0 p s d n q er e w' := ⟨h.1, h.2.1, g.trans h.2.2⟩
theorem Trn.same {ty : TypeId} {w : World} {p : Nat} {s d n q er : Int} (h : Ctr ty w p s d n q) : Trn ty w p s d n q er (.returned (.int .i64 er)) w := ⟨rfl, h, rfl, rfl, rfl, Nat.le_refl _, fun _ _ _ => rfl⟩
theorem Trn.three {ty : TypeId} {w : World} {p : Nat} {s d n q q' : Int} (h : Ctr ty w p s d n q) : Trn ty w p s d n q' 0 (.returned (.int .i64 0)) (w.setCell ⟨p, 3, none⟩ (.int .u64 q')) :=
  ⟨rfl, Blk.set h 3 _, grown_setCell' _ _ _ _⟩
theorem Trn.both {ty : TypeId} {w : World} {p : Nat} {s d n q n' q' : Int} (h : Ctr ty w p s d n q) : Trn ty w p s d n' q' 0 (.returned (.int .i64 0)) ((w.setCell ⟨p, 2, none⟩ (.int .u64 n')).setCell ⟨p, 3, none⟩ (.int .u64 q')) :=
  ⟨rfl, Blk.set (Blk.set h 2 (.int .u64 n')) 3 _, (grown_setCell' _ _ _ _).trans (grown_setCell' _ _ _ _)⟩
theorem Spend_no {w : World} {p : Nat} {s d n q : Int} (h : Ctr 58 w p s d n q) (o : Ok s d n q) (x : Int) (hx : lf s n q < x) :
    Calls Try.prog 16 #[.pointer (some ⟨p, 0, none⟩), .int .u64 x] w (Trn 58 w p s d n q 50) := by
  have C1 : Hid (Calls _ _ _ _ _) := made_any h o.s1
  have C2 : Hid (Calls _ _ _ _ _) := Left_any h o
  have HC : Hid (Ctr 58 w p s d n q) := h
  clear h o
  generalize lf s n q = l at *
  go_enter Try.func16, Try.ntmps16
  go_wp2_with (first
      | (go_at_call 28; refine C1.out.mono ?_; rintro e w' ⟨rfl, rfl⟩)
      | (go_at_call 13; refine C2.out.mono ?_; rintro e w' ⟨rfl, m, rfl⟩))
  go_ret
  exact (Trn.same (HC.out.drew m)).grow (grown_drewN _ _ _)
theorem Spend_ok {w : World} {p : Nat} {s d n q : Int} (h : Ctr 58 w p s d n q) (o : Ok s d n q) (x : Int) (h0 : 0 ≤ x) (hx : ¬ lf s n q < x) :
    Calls Try.prog 16 #[.pointer (some ⟨p, 0, none⟩), .int .u64 x] w (Trn 58 w p s d n (q + x) 0) := by
  have C1 : Hid (Calls _ _ _ _ _) := made_any h o.s1
  have C2 : Hid (Calls _ _ _ _ _) := Left_any h o
  have HC : Hid (Ctr 58 w p s d n q) := h
  have hc3 := h.c3
  have hf3 := h.f3
  have hl := o.lf0
  have h1 := o.q1
  have h2 := o.q2
  have h3 := o.s2
  clear h o
  generalize lf s n q = l at *
  go_enter Try.func16, Try.ntmps16
  go_wp2_with (first
      | (go_at_call 28; refine C1.out.mono ?_; rintro e w' ⟨rfl, rfl⟩)
      | (go_at_call 13; refine C2.out.mono ?_; rintro e w' ⟨rfl, m, rfl⟩))
  go_ret
  exact (Trn.three (HC.out.drew m)).grow (grown_drewN _ _ _)
theorem Switch_halt {w : World} {p : Nat} {s d n q : Int} (h : Ctr 58 w p s d n q) (o : Ok s d n q) (x : Int) (hn : n = 1099511627776) :
    Calls Try.prog 18 #[.pointer (some ⟨p, 0, none⟩), .int .u64 x] w (Trn 58 w p s d n q 51) := by
  have C1 : Hid (Calls _ _ _ _ _) := made_any h o.s1
  have C2 : Hid (Calls _ _ _ _ _) := halted_any h
  have HC : Hid (Ctr 58 w p s d n q) := h
  rw [decide_eq_true hn] at C2
  clear h o hn
  go_enter Try.func18, Try.ntmps18
  go_wp2_with (first
      | (go_at_call 28; refine C1.out.mono ?_; rintro e w' ⟨rfl, rfl⟩)
      | (go_at_call 30; refine C2.out.mono ?_; rintro e w' ⟨rfl, rfl⟩))
  go_ret
  exact Trn.same HC.out
theorem Switch_no {w : World} {p : Nat} {s d n q : Int} (h : Ctr 58 w p s d n q) (o : Ok s d n q) (x : Int) (hn : ¬ n = 1099511627776) (hx : d < x) :
    Calls Try.prog 18 #[.pointer (some ⟨p, 0, none⟩), .int .u64 x] w (Trn 58 w p s d n q 50) := by
  have C1 : Hid (Calls _ _ _ _ _) := made_any h o.s1
  have C2 : Hid (Calls _ _ _ _ _) := halted_any h
  have HC : Hid (Ctr 58 w p s d n q) := h
  have hc1 := h.c1
  rw [decide_eq_false hn] at C2
  clear h o hn
  go_enter Try.func18, Try.ntmps18
  go_wp2_with (first
      | (go_at_call 28; refine C1.out.mono ?_; rintro e w' ⟨rfl, rfl⟩)
      | (go_at_call 30; refine C2.out.mono ?_; rintro e w' ⟨rfl, rfl⟩))
  go_ret
  exact Trn.same HC.out
theorem Switch_ok {w : World} {p : Nat} {s d n q : Int} (h : Ctr 58 w p s d n q) (o : Ok s d n q) (x : Int) (hn : ¬ n = 1099511627776) (hx : ¬ d < x) :
    Calls Try.prog 18 #[.pointer (some ⟨p, 0, none⟩), .int .u64 x] w (Trn 58 w p s d (n + 1) 0 0) := by
  have C1 : Hid (Calls _ _ _ _ _) := made_any h o.s1
  have C2 : Hid (Calls _ _ _ _ _) := halted_any h
  have HC : Hid (Ctr 58 w p s d n q) := h
  have hc1 := h.c1
  have hc2 := h.c2
  have hc3 := h.c3
  have hf2 := h.f2
  have hf3 := h.f3
  have hn1 := o.n1
  have hn2 := o.n2
  rw [decide_eq_false hn] at C2
  clear h o hn
  go_enter Try.func18, Try.ntmps18
  go_wp2_with (first
      | (go_at_call 28; refine C1.out.mono ?_; rintro e w' ⟨rfl, rfl⟩)
      | (go_at_call 30; refine C2.out.mono ?_; rintro e w' ⟨rfl, rfl⟩))
  go_ret
  exact Trn.both HC.out
end Go.Proofs.Ytbaonclncfjneaa
