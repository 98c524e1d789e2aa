/- How a configuration that the statements take is read: numbers, a list of turns, a list of partitions each with a list of colours; no condition. -/
import Derived.Test.YtokaohlgncmoaaaGreatWFa
import Derived.Lib.SmallJoins
import Derived.SizedLaws
namespace Go.Proofs.YtokaohlgncmoaaaGreat
open Go.ChangeShapes Go.WideShapes Go.ChangeAt Go.RowKit Go.Deep
set_option linter.unusedVariables false
set_option maxRecDepth 8192

end Go.Proofs.YtokaohlgncmoaaaGreat
