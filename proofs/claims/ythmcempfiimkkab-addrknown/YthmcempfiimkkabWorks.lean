/- The statements' own small trial of the program, works, gives true in whatever memory, and turns nothing that was there. -/
import Derived.Test.YthmcempfiimkkabSrt
namespace Go.Proofs.Ythmcempfiimkkab
open Go.ChangeShapes Go.WideShapes Go.ChangeAt Go.RowKit
set_option linter.unusedVariables false

theorem Tables_31 (w : World) : Calls Try.prog 6 #[.slice (some ⟨w.heap.size, 0, none⟩) 1 1] (w.alloc (.cells #[.int .i64 31, .int .i64 2] 24)) fun e w' => e = .returned (.tuple #[.int .i64 5, .int .i64 0]) ∧ Below w.heap.size w w' := by
  have h := Tables_all srt w.heap.size 0 1 [(31, 2)] (by intro s hs; simp at hs; subst hs; exact ⟨by decide, by decide⟩) (by simp) (some ⟨w.heap.size, 0, none⟩) (w.alloc (.cells #[.int .i64 31, .int .i64 2] 24))
    (Or.inr ⟨rfl, by simp, by intro i hi; obtain rfl : i = 0 := by simp at hi; omega
                              simp⟩) (by intro s hs; simp at hs; subst hs; rfl)
  refine h.mono ?_
  rintro e w' ⟨zs, hp, _, rfl, hb⟩
  have hz : zs = [(31, 2)] := List.perm_singleton.1 hp
  subst hz
  exact ⟨rfl, ((Below.refl _ _).alloc (Nat.le_refl _) _).trans (hb.mono (by simp))⟩

set_option maxHeartbeats 1000000 in
theorem works_any (w : World) : Calls Try.prog 5 #[] w fun e w' => e = .returned (.bool true) ∧ Below w.heap.size w w' := by
  go_enter Try.func5, Try.ntmps5
  go_wp2_with (first
    | (go_at_call 7; refine (Split_ok _ (by omega) (by omega) _).mono ?_; rintro e w' ⟨rfl, rfl⟩)
    | (go_at_call 8; refine (Join_ok _ _ (by omega) (by omega) (by omega) (by omega) _).mono ?_; rintro e w' ⟨rfl, rfl⟩)
    | (go_at_call 9; refine (Index_1 _ (by omega) (by omega) _).mono ?_; rintro e w' ⟨rfl, rfl⟩)
    | (go_at_call 10; refine (Table_0 _ (by omega) (by omega) _).mono ?_; rintro e w' ⟨rfl, rfl⟩)
    | (go_at_call 6; refine (Tables_31 _).mono ?_; rintro e w' ⟨rfl, hb⟩)
    | (go_at_call 14; refine (Place_ok _ _ (by omega) (by omega) (by omega) (by omega) _).mono ?_; rintro e w' ⟨rfl, rfl⟩))
  go_ret
  exact ⟨rfl, by assumption⟩
end Go.Proofs.Ythmcempfiimkkab
