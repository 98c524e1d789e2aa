/- The closed facts of the statement RingKnown's row, each by itself: the program's text and the row's cells agree. No condition. -/
import Derived.Test.YtimeoinmepfpnaaRp
namespace Go.Proofs.Ytimeoinmepfpnaa
open Go.ChangeShapes Go.WideShapes Go.ChangeAt Go.RowKit Go.Deep
set_option maxRecDepth 100000 in
set_option maxHeartbeats 40000000 in
theorem joinedRingKnown : joinedFacts Try.prog 6 Try.f6 Rows.ringKnownSpec Rows.ringKnownRow = true := by
  unfold joinedFacts
  simp only [Bool.and_eq_true]
  repeat' apply And.intro
  all_goals (as_aux_lemma => kernel_rfl)
end Go.Proofs.Ytimeoinmepfpnaa
