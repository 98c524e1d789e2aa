/- Lists of touches: each tag once, the latest first; what a set holds told from them. -/
import Derived.Test.YtpedgpaebdoafaaTw
namespace Go.Proofs.Ytpedgpaebdoafaa
open Go.ChangeShapes Go.WideShapes Go.ChangeAt Go.RowKit
set_option linter.unusedVariables false

def add (acc : List Int) (x : Int) : List Int := if x ∈ acc then acc else acc ++ [x]
def dd (H : List Int) : List Int := H.foldl add []
theorem fold_front (x : Int) : ∀ (H acc : List Int), H.foldl add (x :: acc.filter (fun y => y != x)) = x :: (H.foldl add acc).filter (fun y => y != x)
  | [], acc => rfl
  | y :: H, acc => by
    simp only [List.foldl_cons]
    by_cases e : y = x
    · subst e
      have h1 : add (y :: acc.filter (fun z => z != y)) y = y :: acc.filter (fun z => z != y) := by unfold add; rw [if_pos (by simp)]
      have h2 : (add acc y).filter (fun z => z != y) = acc.filter (fun z => z != y) := by
        unfold add
        split
        · rfl
        · simp
      rw [h1, ← h2]
      exact fold_front y H (add acc y)
    · by_cases m : y ∈ acc
      · have h1 : add (x :: acc.filter (fun z => z != x)) y = x :: acc.filter (fun z => z != x) := by unfold add; rw [if_pos (by simp [e, m])]
        have h2 : add acc y = acc := by unfold add; rw [if_pos m]
        rw [h1, h2]
        exact fold_front x H acc
      · have h1 : add (x :: acc.filter (fun z => z != x)) y = x :: (acc ++ [y]).filter (fun z => z != x) := by unfold add; rw [if_neg (by simp [e, m])]; simp [e]
        have h2 : add acc y = acc ++ [y] := by unfold add; rw [if_neg m]
        rw [h1, h2]
        exact fold_front x H (acc ++ [y])
theorem dd_cons (x : Int) (H : List Int) : dd (x :: H) = x :: (dd H).filter (fun y => y != x) := by
  have := fold_front x H []
  simpa [dd, add] using this
theorem dd_snoc (P : List Int) (x : Int) : dd (P ++ [x]) = add (dd P) x := by simp [dd]
theorem add_pre (acc : List Int) (x : Int) : ∃ s, add acc x = acc ++ s := by
  unfold add
  split
  · exact ⟨[], by simp⟩
  · exact ⟨[x], rfl⟩
theorem fold_pre : ∀ (H acc : List Int), ∃ s, H.foldl add acc = acc ++ s
  | [], acc => ⟨[], by simp⟩
  | y :: H, acc => by
    obtain ⟨s, h⟩ := add_pre acc y
    obtain ⟨s', h'⟩ := fold_pre H (add acc y)
    exact ⟨s ++ s', by rw [List.foldl_cons, h', h, List.append_assoc]⟩
theorem dd_pre (P R : List Int) : ∃ s, dd (P ++ R) = dd P ++ s := by
  unfold dd
  rw [List.foldl_append]
  exact fold_pre R _
theorem add_nodup {acc : List Int} (h : acc.Nodup) (x : Int) : (add acc x).Nodup := by
  unfold add
  split
  · exact h
  · rename_i m
    rw [List.nodup_append]
    refine ⟨h, by simp, ?_⟩
    intro a ha b hb
    simp at hb
    subst hb
    intro e
    subst e
    exact m ha
theorem fold_nodup : ∀ (H acc : List Int), acc.Nodup → (H.foldl add acc).Nodup
  | [], _, h => h
  | y :: H, acc, h => fold_nodup H _ (add_nodup h y)
theorem dd_nodup (H : List Int) : (dd H).Nodup := fold_nodup H [] (by simp)
theorem add_mem {acc : List Int} {x y : Int} : y ∈ add acc x ↔ y ∈ acc ∨ y = x := by
  unfold add
  split
  · rename_i m
    constructor
    · exact Or.inl
    · rintro (h | rfl)
      · exact h
      · exact m
  · simp
theorem fold_mem {y : Int} : ∀ (H acc : List Int), y ∈ H.foldl add acc ↔ y ∈ acc ∨ y ∈ H
  | [], acc => by simp
  | z :: H, acc => by
    rw [List.foldl_cons, fold_mem H (add acc z), add_mem]
    simp [or_assoc]
theorem dd_mem (H : List Int) (y : Int) : y ∈ dd H ↔ y ∈ H := by
  unfold dd
  rw [fold_mem]
  simp
theorem take_filter (t : Int) : ∀ (L : List Int) (m : Nat), L.Nodup → ((L.take (m + 1)).filter (fun y => y != t)).take m = (L.filter (fun y => y != t)).take m
  | [], m, _ => by simp
  | a :: L, m, h => by
    have h' := List.nodup_cons.1 h
    rw [List.take_succ_cons]
    by_cases e : a = t
    · subst e
      have h1 : (a :: L.take m).filter (fun y => y != a) = L.take m := by
        rw [List.filter_cons_of_neg (by simp)]
        exact filter_none (fun q => h'.1 (List.mem_of_mem_take q))
      have h2 : (a :: L).filter (fun y => y != a) = L := by
        rw [List.filter_cons_of_neg (by simp)]
        exact filter_none h'.1
      rw [h1, h2, List.take_take, Nat.min_self]
    · rw [List.filter_cons_of_pos (by simpa using e), List.filter_cons_of_pos (by simpa using e)]
      cases m with
      | zero => simp
      | succ m => rw [List.take_succ_cons, List.take_succ_cons, take_filter t L m h'.2]
theorem tch_dd (ways : Nat) (t : Int) (H : List Int) : tch ways t ((dd H).take ways) = (dd (t :: H)).take ways := by
  unfold tch
  rw [dd_cons]
  cases ways with
  | zero => simp
  | succ m => rw [List.take_succ_cons, List.take_succ_cons, take_filter t _ m (dd_nodup H)]
/-- The touches of a set, the latest first. -/
def sub (s : Nat) (l : List (Nat × Int)) : List Int := ((l.filter (fun x => x.1 == s)).map (·.2)).reverse
theorem sub_app (s : Nat) (a b : List (Nat × Int)) : sub s (a ++ b) = sub s b ++ sub s a := by simp [sub]
theorem sub_same (s : Nat) (t : Int) (l : List (Nat × Int)) : sub s (l ++ [(s, t)]) = t :: sub s l := by rw [sub_app]; simp [sub]
theorem sub_other (s i : Nat) (t : Int) (l : List (Nat × Int)) (h : i ≠ s) : sub s (l ++ [(i, t)]) = sub s l := by rw [sub_app]; simp [sub, h]
theorem sub_cons_same (s : Nat) (t : Int) (l : List (Nat × Int)) : sub s ((s, t) :: l) = sub s l ++ [t] := by simp [sub]
theorem sub_cons_other (s i : Nat) (t : Int) (l : List (Nat × Int)) (h : i ≠ s) : sub s ((i, t) :: l) = sub s l := by simp [sub, h]
/-- What a set holds. -/
def hold (ways s : Nat) (l : List (Nat × Int)) : List Int := (dd (sub s l)).take ways
theorem hold_touch (ways s : Nat) (t : Int) (l : List (Nat × Int)) (f : Nat → List Int) (n : Nat) (hf : ∀ i, i < n → f i = hold ways i l) (hs : s < n) : ∀ i, i < n → put f s (tch ways t (f s)) i = hold ways i (l ++ [(s, t)]) := by
  intro i hi
  by_cases e : i = s
  · subst e
    rw [put_same, hf i hi]
    unfold hold
    rw [tch_dd, sub_same]
  · rw [put_other _ _ _ _ e, hf i hi]
    unfold hold
    rw [sub_other _ _ _ _ (fun q => e q.symm)]
/-- Met ahead of so many others. -/
theorem hold_met {ways s : Nat} {t : Int} {l : List (Nat × Int)} {P R : List Int} (h : sub s l = P ++ t :: R) (hP : t ∉ P) (hl : (dd P).length < ways) : t ∈ hold ways s l := by
  unfold hold
  rw [h, show P ++ t :: R = (P ++ [t]) ++ R by simp]
  obtain ⟨q, e⟩ := dd_pre (P ++ [t]) R
  have e2 : dd (P ++ [t]) = dd P ++ [t] := by
    rw [dd_snoc]
    unfold add
    rw [if_neg (by rw [dd_mem]; exact hP)]
  rw [e, e2]
  refine List.mem_of_getElem? (i := (dd P).length) ?_
  rw [List.getElem?_take_of_lt hl]
  simp
theorem hold_far {ways s : Nat} {t : Int} {l : List (Nat × Int)} {P R : List Int} (h : sub s l = P ++ R) (hP : t ∉ P) (hl : ways ≤ (dd P).length) : t ∉ hold ways s l := by
  unfold hold
  rw [h]
  obtain ⟨q, e⟩ := dd_pre P R
  rw [e, List.take_append_of_le_length hl]
  intro m
  exact hP ((dd_mem P t).1 (List.mem_of_mem_take m))
theorem hold_none {ways s : Nat} {t : Int} {l : List (Nat × Int)} (hP : t ∉ sub s l) : t ∉ hold ways s l := by
  unfold hold
  intro m
  exact hP ((dd_mem _ t).1 (List.mem_of_mem_take m))
end Go.Proofs.Ytpedgpaebdoafaa
