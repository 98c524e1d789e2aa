/- The lists of the chapter's examples and of its ends: what Check, Put, Cut, Protect, Gap answer of them; no condition. -/
import Derived.Test.YtmhfgfgiiinpjabWn
namespace Go.Proofs.Ytmhfgfgiiinpjab.V
open Go.ChangeShapes Go.WideShapes Go.ChangeAt Go.RowKit
set_option linter.unusedVariables false
set_option maxRecDepth 8192

def mk (n : Nat) : List Rg := (List.range n).map fun i : Nat => ⟨1 + 3 * (i : Int), 2, 1⟩
theorem mk_len (n : Nat) : (mk n).length = n := by unfold mk; simp
theorem mk_succ (n : Nat) : mk (n + 1) = mk n ++ [⟨1 + 3 * (n : Int), 2, 1⟩] := by
  unfold mk
  rw [List.range_succ, List.map_append]
  rfl
theorem mk_take (n k : Nat) (h : k ≤ n) : (mk n).take k = mk k := by
  unfold mk
  rw [← List.map_take, List.take_range, Nat.min_eq_left h]
theorem mk_mem {n : Nat} {r : Rg} (h : r ∈ mk n) : ∃ i : Nat, i < n ∧ r = ⟨1 + 3 * (i : Int), 2, 1⟩ := by
  unfold mk at h
  obtain ⟨i, hi, e⟩ := List.mem_map.1 h
  exact ⟨i, List.mem_range.1 hi, e.symm⟩
theorem mk_fm (n : Nat) (h : n ≤ 2000) : Fm (mk n) := by
  refine fm_iff.2 ⟨fun r hr => ?_, ?_⟩
  · obtain ⟨i, hi, rfl⟩ := mk_mem hr
    refine ⟨?_, Or.inr (Or.inl rfl)⟩
    unfold pgs
    simp only
    omega
  · unfold mk
    rw [List.pairwise_map]
    refine List.pairwise_lt_range.imp (fun {a b} hab => ?_)
    refine Or.inl ?_
    unfold Rg.e
    simp only
    omega
theorem mk_e {n : Nat} (h : n ≤ 1025) : ∀ r ∈ mk n, r.e ≤ 3100 := fun r hr => by
  obtain ⟨i, hi, rfl⟩ := mk_mem hr
  unfold Rg.e
  simp only
  omega
theorem mk_may : May (mk 1024) := ⟨by rw [mk_len]; omega, mk_fm _ (by omega)⟩
theorem mk_may3 : May (mk 1023) := ⟨by rw [mk_len]; omega, mk_fm _ (by omega)⟩
theorem mk_head (n : Nat) : mk (n + 2) = ⟨1, 2, 1⟩ :: ⟨4, 2, 1⟩ :: (mk (n + 2)).drop 2 := by
  have h0 : 0 < (mk (n + 2)).length := by rw [mk_len]; omega
  have h1 : 1 < (mk (n + 2)).length := by rw [mk_len]; omega
  have e0 : mk (n + 2) = (mk (n + 2))[0] :: (mk (n + 2)).drop 1 := by
    have := List.drop_eq_getElem_cons h0
    rwa [List.drop_zero] at this
  have e1 : (mk (n + 2)).drop 1 = (mk (n + 2))[1] :: (mk (n + 2)).drop 2 := List.drop_eq_getElem_cons h1
  have g0 : (mk (n + 2))[0] = ⟨1, 2, 1⟩ := by simp [mk]
  have g1 : (mk (n + 2))[1] = ⟨4, 2, 1⟩ := by simp [mk]
  rw [g0] at e0
  rw [g1] at e1
  rw [e1] at e0
  exact e0
theorem fm_cons {a b : Rg} {D : List Rg} (h : Fm (a :: D)) (hb : b.Ok) (he : b.e = a.e) (hm : b.m = a.m) : Fm (b :: D) := by
  obtain ⟨h1, h2⟩ := fm_iff.1 h
  obtain ⟨p1, p2⟩ := List.pairwise_cons.1 h2
  refine fm_iff.2 ⟨fun r hr => ?_, List.pairwise_cons.2 ⟨fun r hr => ?_, p2⟩⟩
  · rcases List.mem_cons.1 hr with e | e
    · rw [e]; exact hb
    · exact h1 r (List.mem_cons_of_mem _ e)
  · have := p1 r hr
    unfold Ap at *
    rw [he, hm]
    exact this
theorem at_cons (r : Rg) (l : List Rg) (x : Int) : at_ (r :: l) x = if r.p ≤ x ∧ x < r.p + r.n then some r.m else at_ l x := rfl
theorem cut_head {D : List Rg} (h : Fm (⟨1, 2, 1⟩ :: D)) (hl : D.length ≤ 1023) : cuV (⟨1, 2, 1⟩ :: D) 1 1 = (⟨2, 1, 1⟩ :: D, 0) := by
  have hM : May (⟨1, 2, 1⟩ :: D) := ⟨by simp; omega, h⟩
  have hp : pgs 1 1 := by decide
  rw [cuV_ok hM hp]
  have hi : Is (⟨2, 1, 1⟩ :: D) (tn (at_ (⟨1, 2, 1⟩ :: D)) 1 1 none) := by
    refine ⟨fm_cons h (by decide) rfl rfl, fun x => ?_⟩
    have hD : ∀ y, y < 3 → at_ D y = none := fun y hy => at_none (fun r hr q => by
      have := h.rs.all r hr
      unfold has at q
      unfold Rg.e at *
      simp only at this
      omega)
    unfold tn
    rw [at_cons, at_cons]
    simp only
    by_cases c1 : 1 ≤ x ∧ x < 1 + 1
    · rw [if_pos c1, if_neg (by omega), hD x (by omega)]
    · rw [if_neg c1]
      by_cases c2 : 2 ≤ x ∧ x < 2 + 1
      · rw [if_pos c2, if_pos (by omega)]
      · rw [if_neg c2, if_neg (by omega)]
  rw [(wth_out h hp).uniq hi]
  exact ans_ok (by simp; omega)
theorem pro_head {D : List Rg} (h : Fm (⟨1, 2, 1⟩ :: D)) (hl : D.length = 1023) : (prV (⟨1, 2, 1⟩ :: D) 1 1 3).2 = 3 := by
  have hM : May (⟨1, 2, 1⟩ :: D) := ⟨by simp; omega, h⟩
  have hr : (⟨1, 1, 3⟩ : Rg).Ok := by decide
  rw [prV_ok hM hr (fun x h1 h2 => by
    rw [at_cons, if_pos (by simp only; omega)]
    exact nofun)]
  have hi : Is (⟨1, 1, 3⟩ :: ⟨2, 1, 1⟩ :: D) (tn (at_ (⟨1, 2, 1⟩ :: D)) 1 1 (some 3)) := by
    refine ⟨⟨by decide, Or.inr ⟨rfl, by decide⟩, fm_cons h (by decide) rfl rfl⟩, fun x => ?_⟩
    unfold tn
    rw [at_cons, at_cons, at_cons]
    simp only
    by_cases c1 : 1 ≤ x ∧ x < 1 + 1
    · rw [if_pos c1, if_pos c1]
    · rw [if_neg c1, if_neg c1]
      by_cases c2 : 2 ≤ x ∧ x < 2 + 1
      · rw [if_pos c2, if_pos (by omega)]
      · rw [if_neg c2, if_neg (by omega)]
  rw [(wth_in h hr).uniq hi]
  unfold ans
  rw [if_pos (by simp; omega)]
theorem put_head {D : List Rg} (h : Fm (⟨1, 2, 1⟩ :: ⟨4, 2, 1⟩ :: D)) (hl : D.length ≤ 1022) : (puV (⟨1, 2, 1⟩ :: ⟨4, 2, 1⟩ :: D) ⟨3, 1, 1⟩).2 = 0 := by
  have hM : May (⟨1, 2, 1⟩ :: ⟨4, 2, 1⟩ :: D) := ⟨by simp; omega, h⟩
  have hr : (⟨3, 1, 1⟩ : Rg).Ok := by decide
  have hD : ∀ y, y < 6 → at_ D y = none := fun y hy => at_none (fun r hr q => by
    have := h.tail.rs.all r hr
    unfold has at q
    unfold Rg.e at *
    simp only at this
    omega)
  rw [puV_ok hM hr (fun x hx => by
    unfold has Rg.e at hx
    simp only at hx
    rw [at_cons, at_cons, if_neg (by simp only; omega), if_neg (by simp only; omega), hD x (by omega)])]
  have hi : Is (⟨1, 5, 1⟩ :: D) (tn (at_ (⟨1, 2, 1⟩ :: ⟨4, 2, 1⟩ :: D)) 3 1 (some 1)) := by
    refine ⟨fm_cons h.tail (by decide) rfl rfl, fun x => ?_⟩
    unfold tn
    rw [at_cons, at_cons, at_cons]
    simp only
    by_cases c0 : 1 ≤ x ∧ x < 1 + 5
    · rw [if_pos c0]
      by_cases c1 : 3 ≤ x ∧ x < 3 + 1
      · rw [if_pos c1]
      · rw [if_neg c1]
        by_cases c2 : 1 ≤ x ∧ x < 1 + 2
        · rw [if_pos c2]
        · rw [if_neg c2, if_pos (by omega)]
    · rw [if_neg c0, if_neg (by omega), if_neg (by omega), if_neg (by omega)]
  rw [(wth_in h hr).uniq hi]
  rw [ans_ok (by simp; omega)]
theorem put_far : (puV (mk 1024) ⟨9000, 1, 0⟩).2 = 3 := by
  have hr : (⟨9000, 1, 0⟩ : Rg).Ok := by decide
  have hD : ∀ y, 3100 ≤ y → at_ (mk 1024) y = none := fun y hy => at_none (fun r hr q => by
    have := mk_e (by omega) r hr
    unfold has at q
    omega)
  rw [puV_ok mk_may hr (fun x hx => hD x (by unfold has at hx; simp only at hx; omega))]
  have hi : Is (mk 1024 ++ [⟨9000, 1, 0⟩]) (tn (at_ (mk 1024)) 9000 1 (some 0)) := by
    refine ⟨fm_iff.2 ⟨fun r hr' => ?_, List.pairwise_append.2 ⟨(fm_iff.1 mk_may.2).2, List.pairwise_singleton _ _, fun a ha b hb => ?_⟩⟩, fun x => ?_⟩
    · rcases List.mem_append.1 hr' with q | q
      · exact mk_may.2.rs.ok r q
      · rw [List.mem_singleton.1 q]; exact hr
    · rw [List.mem_singleton.1 hb]
      have := mk_e (by omega) a ha
      exact Or.inl (by simp only; omega)
    · rw [at_append, at_cons]
      unfold tn
      simp only
      by_cases c : 9000 ≤ x ∧ x < 9000 + 1
      · rw [if_pos c, if_pos c, hD x (by omega)]
        rfl
      · rw [if_neg c, if_neg c]
        show (at_ (mk 1024) x).or none = _
        cases at_ (mk 1024) x <;> rfl
  rw [(wth_in mk_may.2 hr).uniq hi]
  unfold ans
  rw [if_pos (by rw [List.length_append, mk_len]; simp)]
theorem put_mid : (puV (mk 1024) ⟨3, 1, 1⟩).2 = 0 := by
  have e := mk_head 1022
  have hf := mk_may.2
  have hl : ((mk 1024).drop 2).length = 1022 := by rw [List.length_drop, mk_len]
  rw [show mk 1024 = mk (1022 + 2) from rfl, e]
  rw [show mk 1024 = mk (1022 + 2) from rfl, e] at hf
  exact put_head hf (by rw [show mk (1022 + 2) = mk 1024 from rfl, hl]; omega)
theorem cut_one : (cuV (mk 1024) 1 1).2 = 0 := by
  have e := mk_head 1022
  have hf := mk_may.2
  have hl : ((mk 1024).drop 2).length = 1022 := by rw [List.length_drop, mk_len]
  rw [show mk 1024 = mk (1022 + 2) from rfl, e]
  rw [show mk 1024 = mk (1022 + 2) from rfl, e] at hf
  rw [cut_head hf (by rw [show mk (1022 + 2) = mk 1024 from rfl]; simp only [List.length_cons]; omega)]
theorem pro_one : (prV (mk 1024) 1 1 3).2 = 3 := by
  have e := mk_head 1022
  have hf := mk_may.2
  have hl : ((mk 1024).drop 2).length = 1022 := by rw [List.length_drop, mk_len]
  rw [show mk 1024 = mk (1022 + 2) from rfl, e]
  rw [show mk 1024 = mk (1022 + 2) from rfl, e] at hf
  exact pro_head hf (by rw [show mk (1022 + 2) = mk 1024 from rfl]; simp only [List.length_cons]; omega)
theorem cut_two : (cuV (mk 1023) 1 2).2 = 0 := by
  have hp : pgs 1 2 := by decide
  rw [cuV_ok mk_may3 hp, ans_ok]
  have := wth_len (l := mk 1023) (ins := []) (s := 1) (n := 2) mk_may3.2.rs (by omega)
  rw [mk_len] at this
  simpa using this
end Go.Proofs.Ytmhfgfgiiinpjab.V
