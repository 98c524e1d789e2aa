/- The closed facts of the statement VmaPages's row, each by itself: the program's text and the row's cells agree. No condition. -/
import Derived.Test.YtmhfgfgiiinpjaaWop
namespace Go.Proofs.Ytmhfgfgiiinpjaa
open Go.ChangeShapes Go.WideShapes Go.ChangeAt Go.RowKit Go.Deep
set_option maxRecDepth 100000 in
set_option maxHeartbeats 40000000 in
theorem joinedVmaPages : joinedFacts Try.prog 6 Try.f6 Rows.vmaPagesSpec Rows.vmaPagesRow = true := by
  unfold joinedFacts
  simp only [Bool.and_eq_true]
  repeat' apply And.intro
  all_goals (as_aux_lemma => kernel_rfl)
end Go.Proofs.Ytmhfgfgiiinpjaa
