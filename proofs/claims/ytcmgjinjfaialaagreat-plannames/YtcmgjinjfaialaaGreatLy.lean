/- The library's contracts of slices.BinarySearch laid at this program: a table of numbers and a theorem, each field a fact of the program's own; no condition. -/
import Derived.Test.YtcmgjinjfaialaaGreatRows
import Derived.WalkKit
import Derived.Shelf.Slices.SearchI
namespace Go.Proofs.YtcmgjinjfaialaaGreat
open Go.Shelf
def binA_ren : Go.Shelf.Ren := ⟨fun | 25 => 92 | 31 => 98 | 32 => 99 | 37 => 103 | n => n, fun | 22 => 22 | 3 => 3 | 4 => 4 | 40 => 87 | 0 => 0 | n => n, fun | n => n⟩
theorem binA : Go.Proofs.Lays2.n25 Tryz.prog binA_ren := {
  mixed := by kernel_rfl
  f25 := Tryz.func92.trans (congrArg some (by kernel_rfl))
  f31 := Tryz.func98.trans (congrArg some (by kernel_rfl))
  f32 := Tryz.func99.trans (congrArg some (by kernel_rfl))
  f37 := Tryz.func103.trans (congrArg some (by kernel_rfl))
  t0 := Tryz.underlying0
  a0 := Tryz.isAgg0
  z0 := Tryz.sizeOf0
  v0 := Tryz.zeroValue0
  t3 := Tryz.underlying3
  a3 := Tryz.isAgg3
  z3 := Tryz.sizeOf3
  v3 := Tryz.zeroValue3
  t4 := Tryz.underlying4
  a4 := Tryz.isAgg4
  z4 := Tryz.sizeOf4
  v4 := Tryz.zeroValue4
  t22 := Tryz.underlying22
  a22 := Tryz.isAgg22
  z22 := Tryz.sizeOf22
  v22 := Tryz.zeroValue22
  t40 := Tryz.underlying87
  a40 := Tryz.isAgg87
  z40 := Tryz.sizeOf87
  v40 := Tryz.zeroValue87 }
end Go.Proofs.YtcmgjinjfaialaaGreat
