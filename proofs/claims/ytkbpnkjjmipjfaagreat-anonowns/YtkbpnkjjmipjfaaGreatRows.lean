/-
  No cell of these rows narrows 'for every input' (looked for: loops, veiled, ifaces, maps, wideKeys, modest, calm, conditions, laid).
  DERIVED. THE GIVEN ROWS OF THIS SEAT. 3 by the template 'for every input the law returns true; each argument reads behind the call as it read before'; 0 by the template 'total and deterministic' (their statements: YtkbpnkjjmipjfaaGreatTotals.lean).
  GIVEN WITH THE SEED: the statements are not yours to turn. If you find one false, say at which input.
  Laid BY PROGRAM, IN A SANDBOX (cutbox-rows.mjs): the forced cells as the released guide's own fill.sh prints them over the translation 20fae7ed7aacc098… (all of the seat's roots in one cut). By AI agents, Wed Nov 11 2026. No macro, syntax, notation, axiom, sorry.
-/
import Derived.Test.YtkbpnkjjmipjfaaGreatChecked
import GoSem.Claim
import GoSem.ClaimJoined
import GoSem.ClaimMapViews
import Derived.JoinedTies
import Derived.KernelRfl
namespace Go.Proofs.YtkbpnkjjmipjfaaGreat
/- THE CELL 'sum', in the pinned program and in every row, IS THE sha256 OF THE DUMP (.gsa) THAT YtkbpnkjjmipjfaaGreatProg.lean LOADS. Nothing in Lean hashes anything: it is a label: what it is worth is what the hold of that sum in a sandbox is worth. -/
noncomputable def Tryz.pinned : Pinned := { name := "ytkbpnkjjmipjfaagreat", sum := "20fae7ed7aacc0989ea64726b1d7d7299e2836957de0ed90c124066caf8728d8", checked := Tryz.checked }
namespace Rows
def none {H : Type} : Left H := { results := [], args := [] }

/-- 'cofferdamlaw20.AnonPlays': WHATEVER THE INPUT: true; the input reads as it did. -/
def anonPlaysSpec : ChangeSpec := { name := "anonPlays", fn := fun _ => fun
  | [d1, d2] => { results := [.lit (.bool true)], args := [d1, d2] }
  | _ => none }
def anonPlaysRow : OpenClaim := { program := "ytkbpnkjjmipjfaagreat", sum := "20fae7ed7aacc0989ea64726b1d7d7299e2836957de0ed90c124066caf8728d8", func := "cofferdam/cofferdamlaw20.AnonPlays", spec := "anonPlays", inPlace := ["slices.overlaps[int]"], unfollowed := true, recurses := true, plainKeys := false, apart := false }
def AnonPlaysSaid : Prop := anonPlaysRow.holds Tryz.pinned (OpenSpec.ofChange anonPlaysSpec)

/-- ITS FALSE NEIGHBOUR: 'it returns false'. Refute it at one input. -/
def anonPlaysWrong : ChangeSpec := { name := "anonPlays", fn := fun _ => fun
  | [d1, d2] => { results := [.lit (.bool false)], args := [d1, d2] }
  | _ => none }
def AnonPlaysWrongFalsely : Prop := anonPlaysRow.holds Tryz.pinned (OpenSpec.ofChange anonPlaysWrong)

/-- 'cofferdamlaw20.AnonOwns': WHATEVER THE INPUT: true; the input reads as it did. -/
def anonOwnsSpec : ChangeSpec := { name := "anonOwns", fn := fun _ => fun
  | [d] => { results := [.lit (.bool true)], args := [d] }
  | _ => none }
def anonOwnsRow : OpenClaim := { program := "ytkbpnkjjmipjfaagreat", sum := "20fae7ed7aacc0989ea64726b1d7d7299e2836957de0ed90c124066caf8728d8", func := "cofferdam/cofferdamlaw20.AnonOwns", spec := "anonOwns", inPlace := ["slices.overlaps[int]"], unfollowed := true, recurses := true, plainKeys := false, apart := false }
def AnonOwnsSaid : Prop := anonOwnsRow.holds Tryz.pinned (OpenSpec.ofChange anonOwnsSpec)

/-- ITS FALSE NEIGHBOUR: 'it returns false'. Refute it at one input. -/
def anonOwnsWrong : ChangeSpec := { name := "anonOwns", fn := fun _ => fun
  | [d] => { results := [.lit (.bool false)], args := [d] }
  | _ => none }
def AnonOwnsWrongFalsely : Prop := anonOwnsRow.holds Tryz.pinned (OpenSpec.ofChange anonOwnsWrong)

/-- 'cofferdamlaw20.AnonNames': WHATEVER THE INPUT: true; the input reads as it did. -/
def anonNamesSpec : ChangeSpec := { name := "anonNames", fn := fun _ => fun
  | [] => { results := [.lit (.bool true)], args := [] }
  | _ => none }
def anonNamesRow : OpenClaim := { program := "ytkbpnkjjmipjfaagreat", sum := "20fae7ed7aacc0989ea64726b1d7d7299e2836957de0ed90c124066caf8728d8", func := "cofferdam/cofferdamlaw20.AnonNames", spec := "anonNames", inPlace := ["slices.overlaps[int]"], unfollowed := true, recurses := true, plainKeys := false, apart := false }
def AnonNamesSaid : Prop := anonNamesRow.holds Tryz.pinned (OpenSpec.ofChange anonNamesSpec)

/-- ITS FALSE NEIGHBOUR: 'it returns false'. Refute it at one input. -/
def anonNamesWrong : ChangeSpec := { name := "anonNames", fn := fun _ => fun
  | [] => { results := [.lit (.bool false)], args := [] }
  | _ => none }
def AnonNamesWrongFalsely : Prop := anonNamesRow.holds Tryz.pinned (OpenSpec.ofChange anonNamesWrong)

/- THE SECOND FORM. 'bulk': how many values and letters a reading holds, each counted each time it is reached (what is shared counts as often as it is met; a slice's spare places count too). A statement '..UptoSaid' is the law's where the arguments, and the package variables that the reading takes, are together of bulk at most 1048576: NARROWER than '..Said'. Prove '..Said' where nothing that the law and all that it calls make is longer than what came in: it says more and counts as full. Else prove '..UptoSaid'. A law counts once. -/
mutual
def uptoBulk {H : Type} : DataW H → Nat
  | .lit (.string bytes) => bytes.length + 1
  | .lit _ => 1
  | .nil => 1
  | .ptr d => uptoBulk d + 1
  | .slice elems spare => uptoBulkAll elems + uptoBulkAll spare + 1
  | .agg parts => uptoBulkAll parts + 1
  | .iface _ d => uptoBulk d + 1
  | .map entries => uptoBulkEntries entries + 1
  | .held _ => 1
def uptoBulkAll {H : Type} : List (DataW H) → Nat
  | [] => 0
  | d :: r => uptoBulk d + uptoBulkAll r
def uptoBulkEntries {H : Type} : List (Lit × DataW H) → Nat
  | [] => 0
  | x :: r => uptoBulkEntry x + uptoBulkEntries r
def uptoBulkEntry {H : Type} : Lit × DataW H → Nat
  | (.string bytes, d) => bytes.length + uptoBulk d + 1
  | (_, d) => uptoBulk d + 1
 end
def uptoSmall : (H : Type) → List (DataW H) → Bool := fun _ ds => decide (uptoBulkAll ds ≤ 1048576)
def OpenSpec.upto (s : _root_.Go.ChangeSpec) : _root_.Go.OpenSpec := { _root_.Go.OpenSpec.ofChange s with cond := some uptoSmall }

/-- 'cofferdamlaw20.AnonPlays', WHERE WHAT IT READS IS OF BULK AT MOST 1048576: true; the input reads as it did. -/
def anonPlaysUptoRow : OpenClaim := { program := "ytkbpnkjjmipjfaagreat", sum := "20fae7ed7aacc0989ea64726b1d7d7299e2836957de0ed90c124066caf8728d8", func := "cofferdam/cofferdamlaw20.AnonPlays", spec := "anonPlays", inPlace := ["slices.overlaps[int]"], unfollowed := true, recurses := true, plainKeys := false, apart := false, narrowed := true }
def AnonPlaysUptoSaid : Prop := anonPlaysUptoRow.holds Tryz.pinned (OpenSpec.upto anonPlaysSpec)

/-- 'cofferdamlaw20.AnonOwns', WHERE WHAT IT READS IS OF BULK AT MOST 1048576: true; the input reads as it did. -/
def anonOwnsUptoRow : OpenClaim := { program := "ytkbpnkjjmipjfaagreat", sum := "20fae7ed7aacc0989ea64726b1d7d7299e2836957de0ed90c124066caf8728d8", func := "cofferdam/cofferdamlaw20.AnonOwns", spec := "anonOwns", inPlace := ["slices.overlaps[int]"], unfollowed := true, recurses := true, plainKeys := false, apart := false, narrowed := true }
def AnonOwnsUptoSaid : Prop := anonOwnsUptoRow.holds Tryz.pinned (OpenSpec.upto anonOwnsSpec)

/-- 'cofferdamlaw20.AnonNames', WHERE WHAT IT READS IS OF BULK AT MOST 1048576: true; the input reads as it did. -/
def anonNamesUptoRow : OpenClaim := { program := "ytkbpnkjjmipjfaagreat", sum := "20fae7ed7aacc0989ea64726b1d7d7299e2836957de0ed90c124066caf8728d8", func := "cofferdam/cofferdamlaw20.AnonNames", spec := "anonNames", inPlace := ["slices.overlaps[int]"], unfollowed := true, recurses := true, plainKeys := false, apart := false, narrowed := true }
def AnonNamesUptoSaid : Prop := anonNamesUptoRow.holds Tryz.pinned (OpenSpec.upto anonNamesSpec)

end Rows
end Go.Proofs.YtkbpnkjjmipjfaaGreat
