/- works: the hand goes on, a pinned number is passed over; no condition. -/
import Derived.Test.YtimeoinmepfpnaaRn
namespace Go.Proofs.Ytimeoinmepfpnaa.Ri
open Go.ChangeShapes Go.WideShapes Go.ChangeAt Go.RowKit
set_option linter.unusedVariables false
set_option maxRecDepth 8192

theorem works_ok (w : World) : Calls Try.prog 16 #[] w fun e w' => e = .returned (.bool true) ∧ Below w.heap.size w w' := by
  have hmf : ∀ (fn : Fn) (first cap : Array Value) (w : World), (Instr.makeFunc fn first cap).run Try.prog w = .ok (.func fn first cap) w := fun _ _ _ _ => rfl
  have C3 := three_ok w
  go_enter Try.func16, Try.ntmps16
  go_wp2_with fail
  refine C3.mono ?_
  rintro e w1 ⟨p, g, rfl, r1, b1, hp, hg⟩
  have H1 : Hid (Rx w1 p g [1, 2, 3] ∧ Below w.heap.size w w1 ∧ w.heap.size ≤ p ∧ w.heap.size ≤ g) := ⟨r1, b1, hp, hg⟩
  have N1 : Hid (Calls _ _ _ _ _) := never_some r1 three1
  clear C3 r1 b1 hp hg
  go_wp2_with fail
  refine N1.out.mono ?_
  rintro e w2 ⟨rfl, r2, k2⟩
  have H2 : Hid (Rx w2 p g [2, 3, 1] ∧ Below w.heap.size w w2) := ⟨r2, H1.out.2.1.trans (k2.to H1.out.2.1.size (fun i q => by cases q; exact H1.out.2.2.1))⟩
  have N2 : Hid (Calls _ _ _ _ _) := never_some r2 three2
  clear N1 r2 k2
  go_wp2_with fail
  refine N2.out.mono ?_
  rintro e w3 ⟨rfl, r3, k3⟩
  have H3 : Hid (Rx w3 p g [1, 2, 3] ∧ Below w.heap.size w w3) := ⟨r3, H2.out.2.trans (k3.to H2.out.2.size (fun i q => by cases q; exact H1.out.2.2.1))⟩
  have N3 : Hid (Calls _ _ _ _ _) := ever_none r3 three3
  clear N2 r3 k3 H2
  go_wp2_with fail
  refine N3.out.mono ?_
  rintro e w4 ⟨rfl, r4, k4⟩
  have H4 : Hid (Rx w4 p g [2, 3, 1] ∧ Below w.heap.size w w4) := ⟨r4, H3.out.2.trans (k4.to H3.out.2.size (fun i q => by cases q; exact H1.out.2.2.1))⟩
  have N4 : Hid (Calls _ _ _ _ _) := Remove_is r4 three4
  clear N3 r4 k4 H3
  go_wp2_with fail
  refine N4.out.mono ?_
  rintro e w5 ⟨rfl, t5⟩
  obtain ⟨g5, r5, b5, hg5, _⟩ := t5.adm (B := w.heap.size) H1.out.2.2.1 H1.out.2.2.2 H4.out.2.size
  have H5 : Hid (Rx w5 p g5 [3, 1] ∧ Below w.heap.size w w5) := ⟨r5, H4.out.2.trans b5⟩
  have N5 : Hid (Calls _ _ _ _ _) := List_ok r5
  clear N4 t5 r5 b5 hg5 H4
  go_wp2_with fail
  refine N5.out.mono ?_
  rintro e w6 ⟨v, rfl, n6⟩
  have H6 : Hid (Nw w5 v [3, 1] w6) := n6
  have CE : Hid (Calls _ _ _ _ _) := EqInts_any (w := w6.alloc (.cells #[.int .i64 3, .int .i64 1] 3)) (v1 := v) (v2 := .slice (some ⟨w6.heap.size, 0, none⟩) 2 2) (L := [3, 1]) (by decide) (n6.1.lst.below (below1 _ _)) (lst_new w6 [3, 1] 2)
  clear N5 n6
  go_wp2_with fail
  refine CE.out.mono ?_
  rintro e w7 ⟨rfl, b7⟩
  have H7 : Hid (Below w.heap.size w w7) := ((H5.out.2.trans (H6.out.2.1.mono H5.out.2.size)).trans ((below1 _ _).mono (Nat.le_trans H5.out.2.size H6.out.2.1.size))).trans (b7.mono (by simp; have := H5.out.2.size; have := H6.out.2.1.size; omega))
  clear CE b7
  go_wp2
  go_ret
  exact ⟨rfl, H7.out⟩
end Go.Proofs.Ytimeoinmepfpnaa.Ri
