/- What Peek, Find, Fill and Mark of package tlb give back and write. -/
import Derived.Test.YtokaohlgncmoaaaVHc
import Derived.Deep.QuietTactic
import Derived.BigQuiet
import Derived.Deep.RegionLaw
import Derived.Maps.AppendAt
import Derived.Laws.AppendOwnNone
namespace Go.Proofs.Ytokaohlgncmoaaa.T
open Go.ChangeShapes Go.WideShapes Go.ChangeAt Go.RowKit
set_option linter.unusedVariables false
set_option maxRecDepth 8192

end Go.Proofs.Ytokaohlgncmoaaa.T
namespace Go.Proofs.Ytokaohlgncmoaaa.T
open Go.ChangeShapes Go.WideShapes Go.ChangeAt Go.RowKit
set_option linter.unusedVariables false
set_option maxRecDepth 8192

end Go.Proofs.Ytokaohlgncmoaaa.T
namespace Go.Proofs.Ytokaohlgncmoaaa.T
open Go.ChangeShapes Go.WideShapes Go.ChangeAt Go.RowKit
set_option linter.unusedVariables false
set_option maxRecDepth 8192

end Go.Proofs.Ytokaohlgncmoaaa.T
namespace Go.Proofs.Ytokaohlgncmoaaa.T
open Go.ChangeShapes Go.WideShapes Go.ChangeAt Go.RowKit
set_option linter.unusedVariables false
set_option maxRecDepth 8192

theorem Pt.emptied {w : World} {F : Nat → Prop} {p n : Nat} {v : Value} {l : List Tr} (T : Pt w F p n v l) : Lv w F p n [] (w.setCell ⟨p, 1, none⟩ (.slice none 0 0)) := by
  have G := grown_setCell' w p 1 (.slice none 0 0)
  obtain ⟨F', P', K'⟩ := T.turn_new (w' := w.setCell ⟨p, 1, none⟩ (.slice none 0 0)) (.slice none 0 0) [] G.os G.tape G.output G.size (fun i hi hip _ => G.block i hi (some_ne hip)) (by
      rw [World.cell?_setCell_other _ _ _ _ (by intro h; cases h)]
      exact T.c.c0) (World.cell?_setCell_same _ _ _ T.c.c1) (by
      rw [World.frozen?_setCell]
      exact T.c.z1) (Own.nil _ _) (fun g hg => by cases hg) (by simp) List.Pairwise.nil
  exact ⟨F', ⟨_, P'⟩, K'⟩
theorem Empty_ok {w : World} {F : Nat → Prop} {p n : Nat} {l : List Tr} (h : Ca w F p n l) :
    Calls Try.prog 28 #[.pointer (some ⟨p, 0, none⟩)] w fun e w' => e = .returned (.tuple #[.int .i64 l.length, .int .i64 0]) ∧ Lv w F p n [] w' := by
  obtain ⟨v, hP⟩ := h
  have CM : Hid (Calls _ _ _ _ _) := made_any hP.c
  have HL : Hid (Lv w F p n [] (w.setCell ⟨p, 1, none⟩ (.slice none 0 0))) := hP.emptied
  obtain ⟨ao, cap, hv⟩ := hP.c.own.len
  have q1 := hP.c.c1
  have z1 := hP.c.z1
  rw [hv] at q1
  have hl := hP.c.len
  have hn := hP.c.n64
  clear hP hv
  go_enter Try.func28, Try.ntmps28
  go_wp2_with fail
  refine CM.out.mono ?_
  rintro e w' ⟨rfl, rfl⟩
  go_wp2
  go_ret2
  exact ⟨rfl, HL.out⟩
end Go.Proofs.Ytokaohlgncmoaaa.T
