/- within and join of package vma; no condition but those named. -/
import Derived.Test.YtmhfgfgiiinpjabWe
namespace Go.Proofs.Ytmhfgfgiiinpjab.V
open Go.ChangeShapes Go.WideShapes Go.ChangeAt Go.RowKit
set_option linter.unusedVariables false
set_option maxRecDepth 8192

theorem btw_le (l : List Rg) (f t : Int) : (btw l f t).length ≤ l.length := List.length_filterMap_le _ _
set_option maxHeartbeats 1000000 in
theorem within_ok {w : World} {ao : Option Addr} {cap : Nat} {l : List Rg} (h : Rn w ao l) (hs : Rs l) (hcap : l.length ≤ cap) {s n : Int} (hp : pgs s n) :
    Calls Try.prog 17 #[.slice ao l.length cap, .agg #[.int .i64 s, .int .i64 n]] w fun e w' => ∃ a c, e = .returned (.slice a (btw l s (s + n)).length c) ∧ Rn w' a (btw l s (s + n)) ∧ Below w.heap.size w w' := by
  unfold pgs at hp
  obtain ⟨hp1, hp2, hp3, hp4⟩ := hp
  have C1 : Hid (∀ W, Below w.heap.size w W → Calls Try.prog 23 #[.slice ao l.length cap, .int .i64 s] W (Spl W l s)) := fun W hW => split_ok (h.below hW) hs hcap ⟨by omega, by omega⟩
  have C2 : Hid (∀ W a c, Rn W a (btw l s 1048576) → (btw l s 1048576).length ≤ c → Calls Try.prog 23 #[.slice a (btw l s 1048576).length c, .int .i64 (s + n)] W (Spl W (btw l s 1048576) (s + n))) := fun W a c hR h1 => split_ok hR (btw_rs hs) h1 ⟨by omega, by omega⟩
  have HE : Hid (btw (btw l s 1048576) 0 (s + n) = btw l s (s + n)) := btw_btw hs (by omega)
  clear h hs
  have HB : Hid (∀ o : Obj, Below w.heap.size w (w.alloc o)) := fun o => below1 w o
  go_enter Try.func17, Try.ntmps17
  go_wp2_with fail
  refine (C1.out _ (HB.out _)).mono ?_
  rintro e w1 ⟨a1, c1, a2, c2, rfl, r1, r2, l1, l2, b1⟩
  have d0 := cell_at w #[.int .i64 s, .int .i64 n] 34 b1 0
  have d1 := cell_at w #[.int .i64 s, .int .i64 n] 34 b1 1
  simp at d0 d1
  have HB1 : Hid (Below w.heap.size w w1) := bs (HB.out _) b1
  have HR2 : Hid (Rn w1 a2 (btw l s 1048576)) := r2
  clear r1 r2 b1
  go_wp2_with fail
  refine (C2.out _ a2 c2 HR2.out l2).mono ?_
  rintro e w2 ⟨a3, c3, a4, c4, rfl, r3, r4, l3, l4, b2⟩
  have HB2 : Hid (Below w.heap.size w w2) := bs HB1.out b2
  have HR3 : Hid (Rn w2 a3 (btw l s (s + n))) := by rw [HE.out] at r3; exact r3
  have HL3 : Hid ((btw (btw l s 1048576) 0 (s + n)).length = (btw l s (s + n)).length) := congrArg List.length HE.out
  clear r3 r4 b2
  go_wp2
  go_ret
  exact ⟨a3, c3, by rw [HL3.out]; rfl, HR3.out, HB2.out⟩
end Go.Proofs.Ytmhfgfgiiinpjab.V
