/- A list of two held against a literal; no condition but those that each theorem names. -/
import Derived.Test.YtdempgjhjcjklaaGreatVWa
import Derived.Test.YtdempgjhjcjklaaGreatVCn
namespace Go.Proofs.YtdempgjhjcjklaaGreat.P
open Go.ChangeShapes Go.WideShapes Go.ChangeAt Go.RowKit
set_option linter.unusedVariables false
set_option maxRecDepth 8192

theorem arg_two {w : World} {g : Nat} {x y : Int} (h : B.Blk w g 3 [.int .i64 x, .int .i64 y]) : Arg w (some ⟨g, 0, none⟩) 2 (fun i => [x, y].getD i 0) :=
  Or.inr ⟨g, 0, rfl, h.lt, fun i hi => by
    rw [Nat.zero_add, h.cell i]
    rcases (show i = 0 ∨ i = 1 by omega) with rfl | rfl <;> rfl⟩
/-- A list of a call's own held against a literal of two. -/
theorem eq_two {w : World} {base g : Nat} {v : Value} {x y : Int} (h : Is w base v [x, y]) (hb : B.Blk w g 3 [.int .i64 x, .int .i64 y]) : Calls Tryz.prog 23 #[v, .slice (some ⟨g, 0, none⟩) 2 2] w (One (.bool true) w) := by
  obtain ⟨a, c, rfl, hA⟩ := h.arg
  exact EqInts_any (by simp) hA (arg_two hb)
theorem kp_false {F : Nat → Prop} {w w' : World} (h : B.Kp (fun _ => False) F w w') : Below w.heap.size w w' := h.below _ (Nat.le_refl _) (fun _ z => z.elim)
end Go.Proofs.YtdempgjhjcjklaaGreat.P
