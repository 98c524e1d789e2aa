/- The closed facts of the statement VmaKnown's row, each by itself: the program's text and the row's cells agree. No condition. -/
import Derived.Test.YtmhfgfgiiinpjabWop
namespace Go.Proofs.Ytmhfgfgiiinpjab
open Go.ChangeShapes Go.WideShapes Go.ChangeAt Go.RowKit Go.Deep
set_option maxRecDepth 100000 in
set_option maxHeartbeats 40000000 in
theorem joinedVmaKnown : joinedFacts Try.prog 3 Try.f3 Rows.vmaKnownSpec Rows.vmaKnownRow = true := by
  unfold joinedFacts
  simp only [Bool.and_eq_true]
  repeat' apply And.intro
  all_goals (as_aux_lemma => kernel_rfl)
end Go.Proofs.Ytmhfgfgiiinpjab
