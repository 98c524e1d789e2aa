/- CostTouches: of all costs, touches, lines and translations the program's Check, Touch and Switch and the document's answer are alike. -/
import Derived.Test.YtplffahgjekejaaLw
namespace Go.Proofs.Ytplffahgjekejaa
open Go.ChangeShapes Go.WideShapes Go.ChangeAt Go.RowKit
set_option linter.unusedVariables false

/-- Costs in their box beside what was there. -/
structure Bc (w0 w : World) (b : Nat) (c : Co) : Prop where
  be : Below w0.heap.size w0 w
  cs : Six w b c
theorem Bc.below {w0 w w' : World} {b : Nat} {c : Co} (h : Bc w0 w b c) (k : Below w.heap.size w w') : Bc w0 w' b c := ⟨h.be.trans (k.mono h.be.size), h.cs.below k⟩
theorem bc_new (w : World) (c : Co) : Bc w (w.alloc (.cells #[.int .u64 c.l1, .int .u64 c.llc, .int .u64 c.mi, .int .u64 c.fa, .int .u64 c.st, .int .u64 c.di] 24)) w.heap.size c := ⟨below_new _ _, six_new w c⟩
def Cx (w : World) (b : Nat) (c : Co) : Prop := w.cell? ⟨b, 0, none⟩ = some (.int .u64 c.l1) ∧ w.cell? ⟨b, 1, none⟩ = some (.int .u64 c.llc) ∧ w.cell? ⟨b, 2, none⟩ = some (.int .u64 c.mi) ∧ w.cell? ⟨b, 3, none⟩ = some (.int .u64 c.fa) ∧ w.cell? ⟨b, 4, none⟩ = some (.int .u64 c.st) ∧ w.cell? ⟨b, 5, none⟩ = some (.int .u64 c.di)
theorem Six.cx {w : World} {b : Nat} {c : Co} (h : Six w b c) : Cx w b c := ⟨h.c0, h.c1, h.c2, h.c3, h.c4, h.c5⟩
set_option maxHeartbeats 1000000 in
theorem touches_any (c : Co) (l t : Int) (w : World) : Calls Try.prog 3 #[.agg #[.int .u64 c.l1, .int .u64 c.llc, .int .u64 c.mi, .int .u64 c.fa, .int .u64 c.st, .int .u64 c.di], .int .i64 l, .int .i64 t] w fun e w' => e = .returned (.bool true) ∧ Below w.heap.size w w' := by
  obtain ⟨ec, C1, C2⟩ : ∃ ec, (∀ w, Hid (Calls Try.prog 8 #[.agg #[.int .u64 c.l1, .int .u64 c.llc, .int .u64 c.mi, .int .u64 c.fa, .int .u64 c.st, .int .u64 c.di]] w (One (.int .i64 ec) w))) ∧ (∀ w, Hid (Calls Try.prog 9 #[.agg #[.int .u64 c.l1, .int .u64 c.llc, .int .u64 c.mi, .int .u64 c.fa, .int .u64 c.st, .int .u64 c.di]] w (One (.int .i64 ec) w))) := ⟨_, fun w => Check_any c w, fun w => rCheck_any c w⟩
  obtain ⟨T, et, T1, T2⟩ : ∃ (T : Bool → Bool → Int) (et : Int), (∀ a b w, Hid (Calls Try.prog 10 #[.agg #[.int .u64 c.l1, .int .u64 c.llc, .int .u64 c.mi, .int .u64 c.fa, .int .u64 c.st, .int .u64 c.di], .agg #[.bool a, .bool b]] w (Two (T a b) et w))) ∧ (∀ a b w, Hid (Calls Try.prog 11 #[.agg #[.int .u64 c.l1, .int .u64 c.llc, .int .u64 c.mi, .int .u64 c.fa, .int .u64 c.st, .int .u64 c.di], .agg #[.bool a, .bool b]] w (Two (T a b) et w))) := by
    cases h : okC c
    · exact ⟨fun _ _ => 0, 100, fun a b w => Touch_no c h a b w, fun a b w => rTouch_no c h a b w⟩
    · exact ⟨tc c, 0, fun a b w => Touch_ok c h a b w, fun a b w => rTouch_ok c h a b w⟩
  obtain ⟨v, es, S1, S2⟩ : ∃ (v es : Int), (∀ w, Hid (Calls Try.prog 12 #[.agg #[.int .u64 c.l1, .int .u64 c.llc, .int .u64 c.mi, .int .u64 c.fa, .int .u64 c.st, .int .u64 c.di], .int .i64 l, .int .i64 t] w (Two v es w))) ∧ (∀ w, Hid (Calls Try.prog 13 #[.agg #[.int .u64 c.l1, .int .u64 c.llc, .int .u64 c.mi, .int .u64 c.fa, .int .u64 c.st, .int .u64 c.di], .int .i64 l, .int .i64 t] w (Two v es w))) := by
    cases h : okC c
    · exact ⟨0, 100, fun w => Switch_cost c h l t w, fun w => rSwitch_cost c h l t w⟩
    · cases hl : okL l t
      · exact ⟨0, 2, fun w => Switch_arg c h l t hl w, fun w => rSwitch_arg c h l t hl w⟩
      · exact ⟨_, 0, fun w => Switch_ok c h l t hl w, fun w => rSwitch_ok c h l t hl w⟩
  go_enter Try.func3, Try.ntmps3
  go_wp2_with fail
  have B2 : Hid (Bc w (w.alloc (.cells #[.int .u64 c.l1, .int .u64 c.llc, .int .u64 c.mi, .int .u64 c.fa, .int .u64 c.st, .int .u64 c.di] 24)) w.heap.size c) := bc_new w c
  generalize (w.alloc (.cells #[.int .u64 c.l1, .int .u64 c.llc, .int .u64 c.mi, .int .u64 c.fa, .int .u64 c.st, .int .u64 c.di] 24)) = w0 at *
  generalize hb : w.heap.size = b at *
  go_region_held3 (fun W => W.cell? ⟨b, 0, none⟩ = some (.int .u64 c.l1) ∧ W.cell? ⟨b, 1, none⟩ = some (.int .u64 c.llc) ∧ W.cell? ⟨b, 2, none⟩ = some (.int .u64 c.mi) ∧ W.cell? ⟨b, 3, none⟩ = some (.int .u64 c.fa) ∧ W.cell? ⟨b, 4, none⟩ = some (.int .u64 c.st) ∧ W.cell? ⟨b, 5, none⟩ = some (.int .u64 c.di))
    (first | exact B4.out.cs.cx | exact B3.out.cs.cx | exact (B2.out.below (below_drew _ _)).cs.cx)
    (first
      | (go_at_call 8; refine (C1 _).out.mono ?_; rintro e w3 ⟨rfl, k3⟩; have B3 : Hid (Bc w w3 b c) := (B2.out.below (below_drew _ _)).below k3; clear k3)
      | (go_at_call 9; refine (C2 _).out.mono ?_; rintro e w4 ⟨rfl, k4⟩; have B4 : Hid (Bc w w4 b c) := B3.out.below k4; clear k4))
  clear B2 B3 C1 C2
  go_wp2_with fail
  go_loopw [7] (fun i wr => ∃ k : Nat, k ≤ 4 ∧ i = .int .i64 k ∧ Bc w wr b c) (fun i _ => 4 - (iv i).toNat)
  case atStart => exact ⟨0, by omega, rfl, B4.out⟩
  case round =>
    clear B4
    obtain ⟨k, hk, rfl, hB⟩ := hrel
    have HB : Hid (Bc w wr b c) := hB
    clear hB
    obtain ⟨_, c0, c1, c2, c3, c4, c5⟩ := HB.out.cs
    by_cases hlt : k < 4
    · go_wp2_with fail
      generalize ((k : Int) % 2 == 1) = x at *
      generalize decide (1 < (k : Int)) = y at *
      refine (T1 _ _ _).out.mono ?_
      rintro e w5 ⟨rfl, k5⟩
      have B5 : Hid (Bc w w5 b c) := (HB.out.below (below_new _ _)).below k5
      have d0 : w5.cell? ⟨wr.heap.size, 0, none⟩ = some (.bool x) := (k5.cell (by simp)).trans (by simp)
      have d1 : w5.cell? ⟨wr.heap.size, 1, none⟩ = some (.bool y) := (k5.cell (by simp)).trans (by simp)
      clear k5 c0 c1 c2 c3 c4 c5 HB
      obtain ⟨_, c0, c1, c2, c3, c4, c5⟩ := B5.out.cs
      go_wp2_with fail
      refine (T2 _ _ _).out.mono ?_
      rintro e w6 ⟨rfl, k6⟩
      have B6 : Hid (Bc w w6 b c) := B5.out.below k6
      clear k6 c0 c1 c2 c3 c4 c5 B5 d0 d1
      go_wp2_with fail
      go_roundw
      case rel => exact ⟨k + 1, by omega, by go_num, B6.out⟩
      case measure => simp [iv]; omega
    · go_wp2_with fail
      refine (S1 _).out.mono ?_
      rintro e w5 ⟨rfl, k5⟩
      have B5 : Hid (Bc w w5 b c) := HB.out.below k5
      clear k5 c0 c1 c2 c3 c4 c5 HB
      obtain ⟨_, c0, c1, c2, c3, c4, c5⟩ := B5.out.cs
      go_wp2_with fail
      refine (S2 _).out.mono ?_
      rintro e w6 ⟨rfl, k6⟩
      have B6 : Hid (Bc w w6 b c) := B5.out.below k6
      clear k6 c0 c1 c2 c3 c4 c5 B5
      go_wp2_with fail
      refine (works_any _).mono ?_
      rintro e w7 ⟨rfl, k7⟩
      have FIN : Hid (Below w.heap.size w w7) := B6.out.be.trans (k7.mono B6.out.be.size)
      clear k7
      go_wp2
      go_ret
      subst hb
      exact ⟨rfl, FIN.out⟩
end Go.Proofs.Ytplffahgjekejaa
