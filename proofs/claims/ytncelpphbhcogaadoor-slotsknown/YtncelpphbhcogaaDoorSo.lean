/- What the rows' list gives: the table of math/bits; a world that meets it; what is common to the three rows; no condition. -/
import Derived.Test.YtncelpphbhcogaaDoorSk
import Derived.Test.YtncelpphbhcogaaDoorCards
import Derived.Test.YtncelpphbhcogaaDoorTie
import Derived.Deep.DeepHandedRow
import Derived.Lib.LaidTab
namespace Go.Proofs.YtncelpphbhcogaaDoor
open Go.ChangeShapes Go.WideShapes Go.ChangeAt Go.RowKit Go.Deep
set_option linter.unusedVariables false

theorem gTab : Tryd.prog.globalNamed "math/bits.deBruijn64tab" = some 0 := by kernel_rfl
theorem gTabType : (Tryd.prog.globals[0]?).map (·.type) = some 54 := by kernel_rfl
theorem cellsTab : Tryd.prog.cellsOf 54 = 64 := by kernel_rfl
theorem cellsU8 : Tryd.prog.cellsOf 5 = 1 := by kernel_rfl
/-- The table's numbers. -/
def zsT : List Int := Lib.deBruijn64tab.map fun (x : Nat) => (x : Int)
theorem zsT_at {j : Nat} (h : j < 64) : zsT.getD j 0 = ((Lib.deBruijn64tab.getD j 0 : Nat) : Int) := by
  have : ∀ j : Fin 64, zsT.getD j.val 0 = ((Lib.deBruijn64tab.getD j.val 0 : Nat) : Int) := by decide +kernel
  exact this ⟨j, h⟩
theorem tab_data {H : Type} : (Rows.laid_math_bits_deBruijn64tab : DataW H) = Lib.tabData .u8 zsT := by rfl
/-- The row's list lays the table. -/
theorem tb_of_laid {W : World} (h : laidMetH Tryd.prog [("math/bits.deBruijn64tab", Rows.laid_math_bits_deBruijn64tab)] W) : Z.Tb W := by
  rw [tab_data] at h
  have ht : Lib.TabIs Tryd.prog W "math/bits.deBruijn64tab" .u8 zsT := Lib.tabIs_of_head (rest := []) gTab gTabType Tryd.underlying54 Tryd.underlying5 cellsU8 cellsTab h
  intro j hj
  rw [← zsT_at hj]
  exact ht.cell gTab j hj
/-- A world for the witness: the settled one, the table laid. -/
noncomputable def laidWorld (os : Os) : World :=
  { World.holding Tryd.prog os ⟨#[], #[], []⟩ with heap := (World.holding Tryd.prog os ⟨#[], #[], []⟩).heap.modify 0 fun
      | .cells _ t frozen => .cells (Lib.deBruijn64tab.map fun (x : Nat) => (Value.int .u8 (x : Int))).toArray t frozen
      | o => o }
theorem laid_met (os : Os) (args : Array Value) : laidMet Tryd.prog [("math/bits.deBruijn64tab", Rows.laid_math_bits_deBruijn64tab)] ((laidWorld os).forCall (fun _ _ => 0) ⟨#[], args, []⟩).memory :=
  laidMet_of_run' 8 (by kernel_rfl) (by kernel_rfl)
end Go.Proofs.YtncelpphbhcogaaDoor
