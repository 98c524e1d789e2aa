/- What Image of package pool gives back and leaves, by the uses of the frames alone; no condition but those that each theorem names. -/
import Derived.Test.YtiegcncpgjnpbaaGreatVPd
namespace Go.Proofs.YtiegcncpgjnpbaaGreat.P
open B Go.ChangeShapes Go.WideShapes Go.ChangeAt Go.RowKit
set_option linter.unusedVariables false
set_option maxRecDepth 8192

end Go.Proofs.YtiegcncpgjnpbaaGreat.P
