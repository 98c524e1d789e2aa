/- The closed facts of the statement AnonOwns's row, each by itself: the program's text and the row's cells agree. No condition. -/
import Derived.Test.YtkbpnkjjmipjfaaGreatVOa
namespace Go.Proofs.YtkbpnkjjmipjfaaGreat
open Go.ChangeShapes Go.WideShapes Go.ChangeAt Go.RowKit Go.Deep
set_option maxRecDepth 100000 in
set_option maxHeartbeats 40000000 in
theorem joinedAnonOwns : joinedFacts Tryz.prog 4 Tryz.f4 Rows.anonOwnsSpec Rows.anonOwnsRow = true := by
  unfold joinedFacts
  simp only [Bool.and_eq_true]
  repeat' apply And.intro
  all_goals (as_aux_lemma => kernel_rfl)
end Go.Proofs.YtkbpnkjjmipjfaaGreat
