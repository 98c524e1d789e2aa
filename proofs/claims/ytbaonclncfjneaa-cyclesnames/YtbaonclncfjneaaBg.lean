/- The law CyclesBegins walked: where a slice begins, whose it is; the list stays. -/
import Derived.Test.YtbaonclncfjneaaTn
namespace Go.Proofs.Ytbaonclncfjneaa
open Go.ChangeShapes Go.WideShapes Go.ChangeAt Go.RowKit Go.Deep
set_option linter.unusedVariables false

set_option maxRecDepth 100000 in
set_option maxHeartbeats 4000000 in
theorem begins_walk (w : World) (k s d : Int) (k0 : 0 ≤ k) (d0 : 0 ≤ d) (a : Option Addr) (l c : Nat) (f : Nat → Int) (hl : l * 8 ≤ 140737488351232) (h : Arg .i64 w a l f) (hn : a = none → l = 0 ∧ c = 0) :
    Calls Try.prog 4 #[.int .u64 k, .agg #[.int .u64 s, .int .u64 d], .slice a l c] w fun e w' => e = .returned (.bool true) ∧ Below w.heap.size w w' := by
  obtain ⟨tv, te, t1, t2⟩ := Turns k l f k0 (by unfold maxLen; omega)
  have T1 : Hid (Tn 23 k l f tv te) := t1
  have T2 : Hid (Tn 24 k l f tv te) := t2
  have HB1 : Hid (∀ w, Calls Try.prog 20 #[.int .u64 k, .int .u64 s, .int .u64 d] w fun e w' => e = .returned (.tuple #[.int .u64 (begV k s d), .int .i64 (begE k s d)]) ∧ w' = w) := fun w => Begin_any k s d k0 d0 w
  have HB2 : Hid (∀ w, Calls Try.prog 21 #[.int .u64 k, .int .u64 s, .int .u64 d] w fun e w' => e = .returned (.tuple #[.int .u64 (begV k s d), .int .i64 (begE k s d)]) ∧ w' = w) := fun w => rBegin_any k s d k0 d0 w
  generalize begV k s d = bv at *
  generalize begE k s d = be at *
  have HN : Hid (a = none → l = 0 ∧ c = 0) := hn
  have B1 : Hid (Below w.heap.size w (w.alloc (.cells #[.int .u64 s, .int .u64 d] 42))) := (Below.refl _ _).grown (World.grownBy_alloc _ _ none) (Nat.le_refl _) (by simp)
  have HA : Hid (Arg .i64 (w.alloc (.cells #[.int .u64 s, .int .u64 d] 42)) a l f) := h.below B1.out
  clear t1 t2 h hn
  go_enter Try.func4, Try.ntmps4
  go_wp2_with fail
  refine (HB1.out _).mono ?_
  rintro e w1 ⟨rfl, rfl⟩
  go_wp2_with fail
  refine (HB2.out _).mono ?_
  rintro e w1 ⟨rfl, rfl⟩
  clear HB1 HB2
  generalize w.alloc (.cells #[.int .u64 s, .int .u64 d] 42) = w1 at *
  go_wp2_with fail
  refine (CopyInts_any hl HA.out HN.out).mono ?_
  rintro e w2 ⟨a', c', rfl, hA', hG⟩
  have A2 : Hid (Arg .i64 w2 a' l f) := hA'
  have B12 := (Below.refl w1.heap.size w1).grown hG (Nat.le_refl _) (by simp)
  have HA2 : Hid (Arg .i64 w2 a l f) := HA.out.below B12
  have B2 : Hid (Below w.heap.size w w2) := B1.out.trans (B12.mono B1.out.size)
  clear hA' hG B12 B1 HA HN
  go_wp2_with fail
  refine (T1.out w2 a' c' A2.out).mono ?_
  rintro e w3 ⟨rfl, rfl⟩
  go_wp2_with fail
  refine (T2.out w3 a c HA2.out).mono ?_
  rintro e w3 ⟨rfl, rfl⟩
  go_wp2_with fail
  refine (EqInts_any (by unfold maxLen; omega) A2.out HA2.out).mono ?_
  rintro e w4 ⟨rfl, m, rfl⟩
  go_wp2_with fail
  refine (awake_any _).mono ?_
  rintro e w5 ⟨rfl, hb5⟩
  have BL : Hid (Below w.heap.size w w5) := (below_drewN B2.out m).trans (hb5.mono B2.out.size)
  clear hb5
  go_wp2
  go_ret
  exact ⟨rfl, BL.out⟩
end Go.Proofs.Ytbaonclncfjneaa
