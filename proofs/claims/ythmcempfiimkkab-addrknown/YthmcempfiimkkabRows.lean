/-
  No cell of these rows narrows 'for every input' (looked for: loops, veiled, ifaces, maps, wideKeys, modest, calm, conditions, laid).
  DERIVED. THE GIVEN ROWS OF THIS SEAT. 2 by the template 'for every input the law returns true; each argument reads behind the call as it read before'; 0 by the template 'total and deterministic' (their statements: YthmcempfiimkkabTotals.lean).
  GIVEN WITH THE SEED: the statements are not yours to turn. If you find one false, say at which input.
  Laid BY PROGRAM, IN A SANDBOX (cutbox-rows.mjs): the forced cells as the released guide's own fill.sh prints them over the translation c0adcb8755a8bc04… (all of the seat's roots in one cut). By AI agents, Wed Nov 11 2026. No macro, syntax, notation, axiom, sorry.
-/
import Derived.Test.YthmcempfiimkkabChecked
import GoSem.Claim
import GoSem.ClaimJoined
import GoSem.ClaimMapViews
import Derived.JoinedTies
import Derived.KernelRfl
namespace Go.Proofs.Ythmcempfiimkkab
/- THE CELL 'sum', in the pinned program and in every row, IS THE sha256 OF THE DUMP (.gsa) THAT YthmcempfiimkkabProg.lean LOADS. Nothing in Lean hashes anything: it is a label: what it is worth is what the hold of that sum in a sandbox is worth. -/
noncomputable def Try.pinned : Pinned := { name := "ythmcempfiimkkab", sum := "c0adcb8755a8bc04772faf23c55509a7bb3e00dfaed52bd6d4b99a03167d7f8c", checked := Try.checked }
namespace Rows
def none {H : Type} : Left H := { results := [], args := [] }

/-- 'cofferdamlaw01.AddrFew': WHATEVER THE INPUT: true; the input reads as it did. -/
def addrFewSpec : ChangeSpec := { name := "addrFew", fn := fun _ => fun
  | [d1, d2, d3] => { results := [.lit (.bool true)], args := [d1, d2, d3] }
  | _ => none }
def addrFewRow : OpenClaim := { program := "ythmcempfiimkkab", sum := "c0adcb8755a8bc04772faf23c55509a7bb3e00dfaed52bd6d4b99a03167d7f8c", func := "cofferdam/cofferdamlaw01.AddrFew", spec := "addrFew", unfollowed := true, recurses := true, apart := false }
def AddrFewSaid : Prop := addrFewRow.holds Try.pinned (OpenSpec.ofChange addrFewSpec)

/-- ITS FALSE NEIGHBOUR: 'it returns false'. Refute it at one input. -/
def addrFewWrong : ChangeSpec := { name := "addrFew", fn := fun _ => fun
  | [d1, d2, d3] => { results := [.lit (.bool false)], args := [d1, d2, d3] }
  | _ => none }
def AddrFewWrongFalsely : Prop := addrFewRow.holds Try.pinned (OpenSpec.ofChange addrFewWrong)

/-- 'cofferdamlaw01.AddrKnown': WHATEVER THE INPUT: true; the input reads as it did. -/
def addrKnownSpec : ChangeSpec := { name := "addrKnown", fn := fun _ => fun
  | [] => { results := [.lit (.bool true)], args := [] }
  | _ => none }
def addrKnownRow : OpenClaim := { program := "ythmcempfiimkkab", sum := "c0adcb8755a8bc04772faf23c55509a7bb3e00dfaed52bd6d4b99a03167d7f8c", func := "cofferdam/cofferdamlaw01.AddrKnown", spec := "addrKnown", unfollowed := true, recurses := true, apart := false }
def AddrKnownSaid : Prop := addrKnownRow.holds Try.pinned (OpenSpec.ofChange addrKnownSpec)

/-- ITS FALSE NEIGHBOUR: 'it returns false'. Refute it at one input. -/
def addrKnownWrong : ChangeSpec := { name := "addrKnown", fn := fun _ => fun
  | [] => { results := [.lit (.bool false)], args := [] }
  | _ => none }
def AddrKnownWrongFalsely : Prop := addrKnownRow.holds Try.pinned (OpenSpec.ofChange addrKnownWrong)

/- THE SECOND FORM. 'bulk': how many values and letters a reading holds, each counted each time it is reached (what is shared counts as often as it is met; a slice's spare places count too). A statement '..UptoSaid' is the law's where the arguments, and the package variables that the reading takes, are together of bulk at most 1048576: NARROWER than '..Said'. Prove '..Said' where nothing that the law and all that it calls make is longer than what came in: it says more and counts as full. Else prove '..UptoSaid'. A law counts once. -/
mutual
def uptoBulk {H : Type} : DataW H → Nat
  | .lit (.string bytes) => bytes.length + 1
  | .lit _ => 1
  | .nil => 1
  | .ptr d => uptoBulk d + 1
  | .slice elems spare => uptoBulkAll elems + uptoBulkAll spare + 1
  | .agg parts => uptoBulkAll parts + 1
  | .iface _ d => uptoBulk d + 1
  | .map entries => uptoBulkEntries entries + 1
  | .held _ => 1
def uptoBulkAll {H : Type} : List (DataW H) → Nat
  | [] => 0
  | d :: r => uptoBulk d + uptoBulkAll r
def uptoBulkEntries {H : Type} : List (Lit × DataW H) → Nat
  | [] => 0
  | x :: r => uptoBulkEntry x + uptoBulkEntries r
def uptoBulkEntry {H : Type} : Lit × DataW H → Nat
  | (.string bytes, d) => bytes.length + uptoBulk d + 1
  | (_, d) => uptoBulk d + 1
 end
def uptoSmall : (H : Type) → List (DataW H) → Bool := fun _ ds => decide (uptoBulkAll ds ≤ 1048576)
def OpenSpec.upto (s : _root_.Go.ChangeSpec) : _root_.Go.OpenSpec := { _root_.Go.OpenSpec.ofChange s with cond := some uptoSmall }

/-- 'cofferdamlaw01.AddrFew', WHERE WHAT IT READS IS OF BULK AT MOST 1048576: true; the input reads as it did. -/
def addrFewUptoRow : OpenClaim := { program := "ythmcempfiimkkab", sum := "c0adcb8755a8bc04772faf23c55509a7bb3e00dfaed52bd6d4b99a03167d7f8c", func := "cofferdam/cofferdamlaw01.AddrFew", spec := "addrFew", unfollowed := true, recurses := true, apart := false, narrowed := true }
def AddrFewUptoSaid : Prop := addrFewUptoRow.holds Try.pinned (OpenSpec.upto addrFewSpec)

/-- 'cofferdamlaw01.AddrKnown', WHERE WHAT IT READS IS OF BULK AT MOST 1048576: true; the input reads as it did. -/
def addrKnownUptoRow : OpenClaim := { program := "ythmcempfiimkkab", sum := "c0adcb8755a8bc04772faf23c55509a7bb3e00dfaed52bd6d4b99a03167d7f8c", func := "cofferdam/cofferdamlaw01.AddrKnown", spec := "addrKnown", unfollowed := true, recurses := true, apart := false, narrowed := true }
def AddrKnownUptoSaid : Prop := addrKnownUptoRow.holds Try.pinned (OpenSpec.upto addrKnownSpec)

end Rows
end Go.Proofs.Ythmcempfiimkkab
