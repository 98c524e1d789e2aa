/- A region that draws its order, whose operations read and whose callees leave the worlds of a class within it: one walk, in the order of the text; no condition. -/
import Derived.Test.YtcmgjinjfaialaaGreatMe
import Derived.BigQuiet
namespace Go.Proofs.YtcmgjinjfaialaaGreat
open Go.ChangeShapes Go.WideShapes Go.ChangeAt Go.RowKit
set_option linter.unusedVariables false

/-- A world of a class. -/
structure Idx (S : World → Prop) where
  W : World
  h : S W
theorem wp_region_cls {P : Program} {id : Nat} {Q : Exit → Act → World → Prop} {a : Act} {w : World} {l : List Oper} (S : World → Prop) (hm : P.follows .mixedOrders = true) (hB : Region.lexB .any l.toArray = true) (hS : S w.drew)
    (h : wpQuiet P l.toArray (fun w' => ∃ n : Idx S, w' = n.W) (fun a' => ∀ w', (∃ n : Idx S, w' = n.W) → Q .normal a' w') l a) : (Code.region id l.toArray true).wp P Q a w :=
  wp_region_quiet (C := fun w' => ∃ n : Idx S, w' = n.W) hm hB ⟨⟨w.drew, hS⟩, rfl⟩ (by simpa using h)
theorem Calls.cls {P : Program} {f : FuncId} {args : Array Value} {S : World → Prop} {n : Idx S} {v : Value} (h : Calls P f args n.W (One v n.W)) (hst : ∀ w w', S w → Below w.heap.size w w' → S w') :
    Calls P f args n.W fun e w'' => e = .returned v ∧ ∃ m : Idx S, w'' = m.W := h.mono fun e w' he => ⟨he.1, ⟨⟨w', hst _ _ n.h he.2⟩, rfl⟩⟩
end Go.Proofs.YtcmgjinjfaialaaGreat
