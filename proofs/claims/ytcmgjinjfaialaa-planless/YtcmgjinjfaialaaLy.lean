/- The library's contracts of slices.BinarySearch laid at this program: a table of numbers and a theorem, each field a fact of the program's own; no condition. -/
import Derived.Test.YtcmgjinjfaialaaRows
import Derived.WalkKit
import Derived.Shelf.Slices.SearchI
namespace Go.Proofs.Ytcmgjinjfaialaa
open Go.Shelf
def binA_ren : Go.Shelf.Ren := ⟨fun | 25 => 97 | 31 => 101 | 32 => 102 | 37 => 103 | n => n, fun | 22 => 25 | 3 => 3 | 4 => 4 | 40 => 93 | 0 => 0 | n => n, fun | n => n⟩
theorem binA : Go.Proofs.Lays2.n25 Try.prog binA_ren := {
  mixed := by kernel_rfl
  f25 := Try.func97.trans (congrArg some (by kernel_rfl))
  f31 := Try.func101.trans (congrArg some (by kernel_rfl))
  f32 := Try.func102.trans (congrArg some (by kernel_rfl))
  f37 := Try.func103.trans (congrArg some (by kernel_rfl))
  t0 := Try.underlying0
  a0 := Try.isAgg0
  z0 := Try.sizeOf0
  v0 := Try.zeroValue0
  t3 := Try.underlying3
  a3 := Try.isAgg3
  z3 := Try.sizeOf3
  v3 := Try.zeroValue3
  t4 := Try.underlying4
  a4 := Try.isAgg4
  z4 := Try.sizeOf4
  v4 := Try.zeroValue4
  t22 := Try.underlying25
  a22 := Try.isAgg25
  z22 := Try.sizeOf25
  v22 := Try.zeroValue25
  t40 := Try.underlying93
  a40 := Try.isAgg93
  z40 := Try.sizeOf93
  v40 := Try.zeroValue93 }
end Go.Proofs.Ytcmgjinjfaialaa
