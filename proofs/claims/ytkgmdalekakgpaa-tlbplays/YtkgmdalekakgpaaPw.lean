/- A list that a call made, written by the law: one translation set in its place. -/
import Derived.Test.YtkgmdalekakgpaaDn
namespace Go.Proofs.Ytkgmdalekakgpaa
open Go.ChangeShapes Go.WideShapes Go.ChangeAt Go.RowKit
set_option linter.unusedVariables false

theorem tv_set : ∀ (l : List Tr) (j : Nat) (y : Tr), j < l.length → tv (l.set j y) = ((((((tv l).set (j * 6) (.int .i64 y.a)).set (j * 6 + 1) (.int .i64 y.p)).set (j * 6 + 2) (.int .i64 y.f)).set (j * 6 + 3) (.bool y.r)).set (j * 6 + 4) (.bool y.w)).set (j * 6 + 5) (.bool y.d)
  | [], j, y, h => by simp at h
  | z :: l, 0, y, h => by
    rw [List.set_cons_zero, tv_cons, tv_cons]
    rfl
  | z :: l, j + 1, y, h => by
    have ih := tv_set l j y (by simpa using h)
    have e : ∀ (i : Nat) (v : Value) (L : List Value), (tc z ++ L).set ((j + 1) * 6 + i) v = tc z ++ L.set (j * 6 + i) v := fun i v L => by
      rw [List.set_append_right _ _ (by simp [tc]; omega)]
      congr 2
      simp [tc]
      omega
    have e0 : ∀ (v : Value) (L : List Value), (tc z ++ L).set ((j + 1) * 6) v = tc z ++ L.set (j * 6) v := fun v L => e 0 v L
    rw [List.set_cons_succ, tv_cons, tv_cons, ih, e0, e, e, e, e, e]
/-- A place of a row written. -/
theorem Own.store {B : Nat} {w : World} {v : Value} {l : List Tr} (h : Own B w v l) {j : Nat} (hj : j < l.length) (y : Tr) : ∃ g cap, v = .slice (some ⟨g, 0, none⟩) l.length cap ∧
    Own B ((((((w.setCell ⟨g, j * 6, none⟩ (.int .i64 y.a)).setCell ⟨g, j * 6 + 1, none⟩ (.int .i64 y.p)).setCell ⟨g, j * 6 + 2, none⟩ (.int .i64 y.f)).setCell ⟨g, j * 6 + 3, none⟩ (.bool y.r)).setCell ⟨g, j * 6 + 4, none⟩ (.bool y.w)).setCell ⟨g, j * 6 + 5, none⟩ (.bool y.d)) v (l.set j y) := by
  rcases h.shape with ⟨_, rfl⟩ | ⟨g, cap, L, h1, hB, h2, h3, h4, h5, h6⟩
  · simp at hj
  · refine ⟨g, cap, h1, ?_⟩
    subst h1
    have hb := (((((h2.set (j * 6) (.int .i64 y.a)).set (j * 6 + 1) (.int .i64 y.p)).set (j * 6 + 2) (.int .i64 y.f)).set (j * 6 + 3) (.bool y.r)).set (j * 6 + 4) (.bool y.w)).set (j * 6 + 5) (.bool y.d)
    have ho := Own.of_blk (l := l.set j y) hB hb (by simpa using h3) h4 (by simpa using h5) (by
      rw [List.length_set, tv_set l j y hj, ← h6]
      simp only [List.take_set])
    rw [List.length_set] at ho
    exact ho
end Go.Proofs.Ytkgmdalekakgpaa
