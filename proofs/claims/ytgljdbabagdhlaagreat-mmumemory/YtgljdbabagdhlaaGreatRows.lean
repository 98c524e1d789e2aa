/-
  No cell of these rows narrows 'for every input' (looked for: loops, veiled, ifaces, maps, wideKeys, modest, calm, conditions, laid).
  DERIVED. THE GIVEN ROWS OF THIS SEAT. 3 by the template 'for every input the law returns true; each argument reads behind the call as it read before'; 0 by the template 'total and deterministic' (their statements: YtgljdbabagdhlaaGreatTotals.lean).
  GIVEN WITH THE SEED: the statements are not yours to turn. If you find one false, say at which input.
  Laid BY PROGRAM, IN A SANDBOX (cutbox-rows.mjs): the forced cells as the released guide's own fill.sh prints them over the translation 8dbf923def9af73e… (all of the seat's roots in one cut). By AI agents, Wed Nov 11 2026. No macro, syntax, notation, axiom, sorry.
-/
import Derived.Test.YtgljdbabagdhlaaGreatChecked
import GoSem.Claim
import GoSem.ClaimJoined
import GoSem.ClaimMapViews
import Derived.JoinedTies
import Derived.KernelRfl
namespace Go.Proofs.YtgljdbabagdhlaaGreat
/- THE CELL 'sum', in the pinned program and in every row, IS THE sha256 OF THE DUMP (.gsa) THAT YtgljdbabagdhlaaGreatProg.lean LOADS. Nothing in Lean hashes anything: it is a label: what it is worth is what the hold of that sum in a sandbox is worth. -/
noncomputable def Tryz.pinned : Pinned := { name := "ytgljdbabagdhlaagreat", sum := "8dbf923def9af73e0175a1ace748b1841ac8c7fa0d1f16e1208776a593aefb69", checked := Tryz.checked }
namespace Rows
def none {H : Type} : Left H := { results := [], args := [] }

/-- 'cofferdamlaw16.MmuMemory': WHATEVER THE INPUT: true; the input reads as it did. -/
def mmuMemorySpec : ChangeSpec := { name := "mmuMemory", fn := fun _ => fun
  | [d1, d2, d3] => { results := [.lit (.bool true)], args := [d1, d2, d3] }
  | _ => none }
def mmuMemoryRow : OpenClaim := { program := "ytgljdbabagdhlaagreat", sum := "8dbf923def9af73e0175a1ace748b1841ac8c7fa0d1f16e1208776a593aefb69", func := "cofferdam/cofferdamlaw16.MmuMemory", spec := "mmuMemory", inPlace := ["slices.overlaps[int]"], unfollowed := true, recurses := true, apart := false }
def MmuMemorySaid : Prop := mmuMemoryRow.holds Tryz.pinned (OpenSpec.ofChange mmuMemorySpec)

/-- ITS FALSE NEIGHBOUR: 'it returns false'. Refute it at one input. -/
def mmuMemoryWrong : ChangeSpec := { name := "mmuMemory", fn := fun _ => fun
  | [d1, d2, d3] => { results := [.lit (.bool false)], args := [d1, d2, d3] }
  | _ => none }
def MmuMemoryWrongFalsely : Prop := mmuMemoryRow.holds Tryz.pinned (OpenSpec.ofChange mmuMemoryWrong)

/-- 'cofferdamlaw16.MmuCosts': WHATEVER THE INPUT: true; the input reads as it did. -/
def mmuCostsSpec : ChangeSpec := { name := "mmuCosts", fn := fun _ => fun
  | [d] => { results := [.lit (.bool true)], args := [d] }
  | _ => none }
def mmuCostsRow : OpenClaim := { program := "ytgljdbabagdhlaagreat", sum := "8dbf923def9af73e0175a1ace748b1841ac8c7fa0d1f16e1208776a593aefb69", func := "cofferdam/cofferdamlaw16.MmuCosts", spec := "mmuCosts", inPlace := ["slices.overlaps[int]"], unfollowed := true, recurses := true, apart := false }
def MmuCostsSaid : Prop := mmuCostsRow.holds Tryz.pinned (OpenSpec.ofChange mmuCostsSpec)

/-- ITS FALSE NEIGHBOUR: 'it returns false'. Refute it at one input. -/
def mmuCostsWrong : ChangeSpec := { name := "mmuCosts", fn := fun _ => fun
  | [d] => { results := [.lit (.bool false)], args := [d] }
  | _ => none }
def MmuCostsWrongFalsely : Prop := mmuCostsRow.holds Tryz.pinned (OpenSpec.ofChange mmuCostsWrong)

/-- 'cofferdamlaw16.MmuKnown': WHATEVER THE INPUT: true; the input reads as it did. -/
def mmuKnownSpec : ChangeSpec := { name := "mmuKnown", fn := fun _ => fun
  | [d] => { results := [.lit (.bool true)], args := [d] }
  | _ => none }
def mmuKnownRow : OpenClaim := { program := "ytgljdbabagdhlaagreat", sum := "8dbf923def9af73e0175a1ace748b1841ac8c7fa0d1f16e1208776a593aefb69", func := "cofferdam/cofferdamlaw16.MmuKnown", spec := "mmuKnown", inPlace := ["slices.overlaps[int]"], unfollowed := true, recurses := true, apart := false }
def MmuKnownSaid : Prop := mmuKnownRow.holds Tryz.pinned (OpenSpec.ofChange mmuKnownSpec)

/-- ITS FALSE NEIGHBOUR: 'it returns false'. Refute it at one input. -/
def mmuKnownWrong : ChangeSpec := { name := "mmuKnown", fn := fun _ => fun
  | [d] => { results := [.lit (.bool false)], args := [d] }
  | _ => none }
def MmuKnownWrongFalsely : Prop := mmuKnownRow.holds Tryz.pinned (OpenSpec.ofChange mmuKnownWrong)

/- THE SECOND FORM. 'bulk': how many values and letters a reading holds, each counted each time it is reached (what is shared counts as often as it is met; a slice's spare places count too). A statement '..UptoSaid' is the law's where the arguments, and the package variables that the reading takes, are together of bulk at most 1048576: NARROWER than '..Said'. Prove '..Said' where nothing that the law and all that it calls make is longer than what came in: it says more and counts as full. Else prove '..UptoSaid'. A law counts once. -/
mutual
def uptoBulk {H : Type} : DataW H → Nat
  | .lit (.string bytes) => bytes.length + 1
  | .lit _ => 1
  | .nil => 1
  | .ptr d => uptoBulk d + 1
  | .slice elems spare => uptoBulkAll elems + uptoBulkAll spare + 1
  | .agg parts => uptoBulkAll parts + 1
  | .iface _ d => uptoBulk d + 1
  | .map entries => uptoBulkEntries entries + 1
  | .held _ => 1
def uptoBulkAll {H : Type} : List (DataW H) → Nat
  | [] => 0
  | d :: r => uptoBulk d + uptoBulkAll r
def uptoBulkEntries {H : Type} : List (Lit × DataW H) → Nat
  | [] => 0
  | x :: r => uptoBulkEntry x + uptoBulkEntries r
def uptoBulkEntry {H : Type} : Lit × DataW H → Nat
  | (.string bytes, d) => bytes.length + uptoBulk d + 1
  | (_, d) => uptoBulk d + 1
 end
def uptoSmall : (H : Type) → List (DataW H) → Bool := fun _ ds => decide (uptoBulkAll ds ≤ 1048576)
def OpenSpec.upto (s : _root_.Go.ChangeSpec) : _root_.Go.OpenSpec := { _root_.Go.OpenSpec.ofChange s with cond := some uptoSmall }

/-- 'cofferdamlaw16.MmuMemory', WHERE WHAT IT READS IS OF BULK AT MOST 1048576: true; the input reads as it did. -/
def mmuMemoryUptoRow : OpenClaim := { program := "ytgljdbabagdhlaagreat", sum := "8dbf923def9af73e0175a1ace748b1841ac8c7fa0d1f16e1208776a593aefb69", func := "cofferdam/cofferdamlaw16.MmuMemory", spec := "mmuMemory", inPlace := ["slices.overlaps[int]"], unfollowed := true, recurses := true, apart := false, narrowed := true }
def MmuMemoryUptoSaid : Prop := mmuMemoryUptoRow.holds Tryz.pinned (OpenSpec.upto mmuMemorySpec)

/-- 'cofferdamlaw16.MmuCosts', WHERE WHAT IT READS IS OF BULK AT MOST 1048576: true; the input reads as it did. -/
def mmuCostsUptoRow : OpenClaim := { program := "ytgljdbabagdhlaagreat", sum := "8dbf923def9af73e0175a1ace748b1841ac8c7fa0d1f16e1208776a593aefb69", func := "cofferdam/cofferdamlaw16.MmuCosts", spec := "mmuCosts", inPlace := ["slices.overlaps[int]"], unfollowed := true, recurses := true, apart := false, narrowed := true }
def MmuCostsUptoSaid : Prop := mmuCostsUptoRow.holds Tryz.pinned (OpenSpec.upto mmuCostsSpec)

/-- 'cofferdamlaw16.MmuKnown', WHERE WHAT IT READS IS OF BULK AT MOST 1048576: true; the input reads as it did. -/
def mmuKnownUptoRow : OpenClaim := { program := "ytgljdbabagdhlaagreat", sum := "8dbf923def9af73e0175a1ace748b1841ac8c7fa0d1f16e1208776a593aefb69", func := "cofferdam/cofferdamlaw16.MmuKnown", spec := "mmuKnown", inPlace := ["slices.overlaps[int]"], unfollowed := true, recurses := true, apart := false, narrowed := true }
def MmuKnownUptoSaid : Prop := mmuKnownUptoRow.holds Tryz.pinned (OpenSpec.upto mmuKnownSpec)

end Rows
end Go.Proofs.YtgljdbabagdhlaaGreat
