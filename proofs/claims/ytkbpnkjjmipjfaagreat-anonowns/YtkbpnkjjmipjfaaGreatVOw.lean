/- What Counts, Whole and Owned of package pool give back, by the uses of the frames alone; no condition but those that each theorem names. -/
import Derived.Test.YtkbpnkjjmipjfaaGreatVPd
namespace Go.Proofs.YtkbpnkjjmipjfaaGreat.P
open B Go.ChangeShapes Go.WideShapes Go.ChangeAt Go.RowKit
set_option linter.unusedVariables false
set_option maxRecDepth 8192

end Go.Proofs.YtkbpnkjjmipjfaaGreat.P
