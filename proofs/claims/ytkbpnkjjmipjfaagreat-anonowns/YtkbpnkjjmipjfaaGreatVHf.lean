/- What Fill of package tlb gives back and writes. -/
import Derived.Test.YtkbpnkjjmipjfaaGreatVHe
import Derived.Deep.QuietTactic
import Derived.BigQuiet
import Derived.Deep.RegionLaw
import Derived.Maps.AppendAt
import Derived.Laws.AppendOwnNone
namespace Go.Proofs.YtkbpnkjjmipjfaaGreat.T
open Go.ChangeShapes Go.WideShapes Go.ChangeAt Go.RowKit
set_option linter.unusedVariables false
set_option maxRecDepth 8192

end Go.Proofs.YtkbpnkjjmipjfaaGreat.T
namespace Go.Proofs.YtkbpnkjjmipjfaaGreat.T
open Go.ChangeShapes Go.WideShapes Go.ChangeAt Go.RowKit
set_option linter.unusedVariables false
set_option maxRecDepth 8192

end Go.Proofs.YtkbpnkjjmipjfaaGreat.T
namespace Go.Proofs.YtkbpnkjjmipjfaaGreat.T
open Go.ChangeShapes Go.WideShapes Go.ChangeAt Go.RowKit
set_option linter.unusedVariables false
set_option maxRecDepth 8192

end Go.Proofs.YtkbpnkjjmipjfaaGreat.T
