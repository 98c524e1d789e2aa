/- VmaPages walked: page by page each is as it was made last; no condition. -/
import Derived.Test.YtmhfgfgiiinpjaaYd
import Derived.Deep.DeepCutAuto
namespace Go.Proofs.Ytmhfgfgiiinpjaa.V
open Go.ChangeShapes Go.WideShapes Go.ChangeAt Go.RowKit
set_option linter.unusedVariables false
set_option maxRecDepth 16384

theorem quiet_load_at {P : Program} {S : World → Prop} {a : Act} {o : Oper} {K : Act → Prop} (t : TypeId) (x : Operand) (ho : o.op = .load t x) (u v : Value) (hx : a.eval x = u)
    (hrun : ∀ n : Idx S, (Instr.loadAt t u).run P n.W = .ok v n.W) (hk : K (a.put o.dst v)) : o.quiet P a (fun w' => ∃ n : Idx S, w' = n.W) K := by
  refine ⟨v, fun w hw => ?_, hk⟩
  obtain ⟨n, rfl⟩ := hw
  unfold Oper.quietAt
  simp [execOp, ho, hx, hrun n, Result.andThen, Oper.quietUpon]
theorem enc_none {F : Int → Option Int} {x : Int} : enc (F x) = 0 ∨ F x ≠ none := by
  cases h : F x with
  | none => exact Or.inl rfl
  | some m => exact Or.inr nofun
theorem is_pos {l : List Rg} {F : Int → Option Int} (h : Is l F) {x : Int} (hx : F x ≠ none) : 1 ≤ x := by
  rw [← h.eq] at hx
  cases hm : at_ l x with
  | none => exact absurd hm hx
  | some m =>
    obtain ⟨r, hr, h1, _⟩ := at_some hm
    have := (h.fm.rs.ok r hr).lt
    unfold has at h1
    omega
/-- A page is mapped just if its byte is none of nought. -/
theorem enc_ne {l : List Rg} {F : Int → Option Int} (h : Is l F) (x : Int) : (enc (F x) ≠ 0) ↔ (F x).isSome = true := by
  cases hm : F x with
  | none => simp [enc]
  | some m =>
    have h2 : at_ l x = some m := by rw [h.eq]; exact hm
    obtain ⟨r, hr, _, hm'⟩ := at_some h2
    have := (h.fm.rs.ok r hr).pm
    rw [hm'] at this
    unfold prm at this
    simp [enc]
    omega
theorem enc_lt {l : List Rg} {F : Int → Option Int} (h : Is l F) (x : Int) : 0 ≤ enc (F x) ∧ enc (F x) ≤ 4 := by
  cases hm : F x with
  | none => simp [enc]
  | some m =>
    have h2 : at_ l x = some m := by rw [h.eq]; exact hm
    obtain ⟨r, hr, _, hm'⟩ := at_some h2
    have := (h.fm.rs.ok r hr).pm
    rw [hm'] at this
    unfold prm at this
    simp [enc]
    omega
/-- The pages that were stored so far. -/
def pgd (F : Int → Option Int) (s : Int) (q : Nat) (v : Int) : Nat → Int := fun j => if s ≤ (j : Int) ∧ (j : Int) < s + q then v else enc (F j)
theorem pgd_zero (F : Int → Option Int) (s v : Int) (j : Nat) : pgd F s 0 v j = enc (F j) := by
  unfold pgd
  rw [if_neg (by omega)]
theorem pgd_succ (F : Int → Option Int) {s : Int} {q k : Nat} (hk : (k : Int) = s + q) (v : Int) (j : Nat) : (if j = k then v else pgd F s q v j) = pgd F s (q + 1) v j := by
  unfold pgd
  by_cases e : j = k
  · subst e
    rw [if_pos rfl, if_pos (by omega)]
  · rw [if_neg e]
    by_cases c : s ≤ (j : Int) ∧ (j : Int) < s + q
    · rw [if_pos c, if_pos (by omega)]
    · rw [if_neg c, if_neg (by omega)]
theorem pgd_all (F : Int → Option Int) (s : Int) (n : Nat) (u : Option Int) (j : Nat) : pgd F s n (enc u) j = enc (tn F s n u j) := by
  unfold pgd tn
  by_cases c : s ≤ (j : Int) ∧ (j : Int) < s + n
  · rw [if_pos c, if_pos c]
  · rw [if_neg c, if_neg c]
theorem cnt_pos {F : Int → Option Int} {a : Int} {k : Nat} : (∃ x, a ≤ x ∧ x < a + k ∧ F x ≠ none) → 0 < cnt F a k := fun ⟨x, h1, h2, h3⟩ => by
  apply Classical.byContradiction
  intro q
  have hz : cnt F a k = 0 := by omega
  have key : ∀ (k : Nat), cnt F a k = 0 → ∀ y, a ≤ y → y < a + k → F y = none := by
    intro k
    induction k with
    | zero => intro _ y h1 h2; omega
    | succ k ih =>
      intro h y g1 g2
      unfold cnt at h
      by_cases e : y = a + k
      · subst e
        cases hf : F (a + k) with
        | none => rfl
        | some m => rw [hf] at h; simp at h
      · exact ih (by omega) y g1 (by omega)
  exact h3 (key k hz x h1 h2)
theorem cnt_less {F : Int → Option Int} {a : Int} {k : Nat} (h : ∃ x, a ≤ x ∧ x < a + k ∧ F x = none) : cnt F a k < k := by
  obtain ⟨x, h1, h2, h3⟩ := h
  have := cnt_le F a k
  apply Classical.byContradiction
  intro q
  exact (cnt_all (F := F) (a := a) (k := k)).1 (by omega) x h1 h2 h3
end Go.Proofs.Ytmhfgfgiiinpjaa.V
