/- MmuCosts walked: each access of the statements' own tables costs something and at most six misses; no condition. -/
import Derived.Test.YtgljdbabagdhlaaGreatVmi
import Derived.Test.YtgljdbabagdhlaaGreatVtj
import Derived.Deep.QuietTactic
import Derived.BigQuiet
namespace Go.Proofs.YtgljdbabagdhlaaGreat.Pg
open P E Go.ChangeShapes Go.WideShapes Go.ChangeAt Go.RowKit
set_option linter.unusedVariables false
set_option maxRecDepth 8192
structure Cq (w wr : World) (t c p : Nat) (S : E.Sc × Us) (m : Nat → Option Nat) : Prop where
  q : Zq (fun k => k < w.heap.size) wr t c p (hwOf us) (par us 0) S m
  be : Below w.heap.size w wr
  hN : (par us 0).N * (par us 0).C ≤ (hwOf us).n
  rt : m 0 ≠ none
section
variable {w wr w' : World} {t c p n : Nat} {S S' : E.Sc × Us} {m : Nat → Option Nat}
theorem Cq.below (C : Cq w wr t c p S m) (b : Below wr.heap.size wr w') : Cq w w' t c p S m := ⟨C.q.below b, C.be.trans (b.mono C.be.size), C.hN, C.rt⟩
theorem Ov.cq (O : Ov w wr t c p n S m) : Cq w wr t c p S m := ⟨O.ts.zq', O.ts.zt.be, O.ts.hN, O.rt⟩
end
end Go.Proofs.YtgljdbabagdhlaaGreat.Pg
