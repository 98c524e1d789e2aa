/- Layer 19, plain mathematics: a row kept as a list and a hand that is a place in it; a list that is searched; no condition but those named. -/
import Derived.Test.YtimeoinmepfpnaaRc
namespace Go.Proofs.Ytimeoinmepfpnaa.Ri
set_option linter.unusedVariables false

/-- The row from the hand on. -/
def rw_ (l : List Int) (h : Nat) : List Int := l.drop h ++ l.take h
theorem rw_len (l : List Int) (h : Nat) : (rw_ l h).length = l.length := by
  unfold rw_
  rw [List.length_append, List.length_drop, List.length_take]
  omega
theorem rw_perm (l : List Int) (h : Nat) : (rw_ l h).Perm l := by
  have := List.perm_append_comm (l₁ := l.drop h) (l₂ := l.take h)
  rw [List.take_append_drop] at this
  exact this
theorem rw_mem {l : List Int} {h : Nat} {x : Int} : x ∈ rw_ l h ↔ x ∈ l := (rw_perm l h).mem_iff
theorem rw_nd {l : List Int} {h : Nat} : (rw_ l h).Nodup ↔ l.Nodup := (rw_perm l h).nodup_iff
theorem rw_zero (l : List Int) : rw_ l 0 = l := by simp [rw_]
theorem rw_full (l : List Int) : rw_ l l.length = l := by simp [rw_]
theorem rw_get {l : List Int} {h i : Nat} (hh : h ≤ l.length) (hi : i < l.length) : (rw_ l h)[i]? = l[(h + i) % l.length]? := by
  unfold rw_
  by_cases q : h + i < l.length
  · rw [List.getElem?_append_left (by rw [List.length_drop]; omega), List.getElem?_drop, Nat.mod_eq_of_lt q]
  · rw [List.getElem?_append_right (by rw [List.length_drop]; omega), List.length_drop, Nat.mod_eq_sub_mod (by omega), Nat.mod_eq_of_lt (by omega), List.getElem?_take_of_lt (by omega)]
    congr 1
    omega
theorem rw_cons {l : List Int} {h : Nat} (hh : h < l.length) : rw_ l h = l[h] :: (l.drop (h + 1) ++ l.take h) := by
  unfold rw_
  rw [List.drop_eq_getElem_cons hh]
  rfl
/-- The hand goes on. -/
theorem rw_next {l : List Int} {h : Nat} (hh : h < l.length) : rw_ l ((h + 1) % l.length) = tu (rw_ l h) := by
  rw [rw_cons hh]
  show _ = (l.drop (h + 1) ++ l.take h) ++ [l[h]]
  rw [List.append_assoc]
  have e : l.take h ++ [l[h]] = l.take (h + 1) := by rw [List.take_add_one, List.getElem?_eq_getElem hh]; rfl
  rw [e]
  by_cases q : h + 1 < l.length
  · rw [Nat.mod_eq_of_lt q]
    rfl
  · have : h + 1 = l.length := by omega
    rw [this, Nat.mod_self, rw_zero, List.drop_eq_nil_of_le (Nat.le_refl _), List.take_length]
    rfl
/-- One is put in ahead of the hand. -/
theorem rw_add {l : List Int} {h : Nat} (hh : h ≤ l.length) (x : Int) : rw_ (l.take h ++ x :: l.drop h) (h + 1) = rw_ l h ++ [x] := by
  have hl : (l.take h).length = h := by rw [List.length_take]; omega
  have e1 : (l.take h ++ x :: l.drop h).drop (h + 1) = l.drop h := by
    rw [List.drop_append, hl, List.drop_eq_nil_of_le (by omega), show h + 1 - h = 1 by omega]
    rfl
  have e2 : (l.take h ++ x :: l.drop h).take (h + 1) = l.take h ++ [x] := by
    rw [List.take_append, hl, List.take_of_length_le (by omega), show h + 1 - h = 1 by omega]
    rfl
  unfold rw_
  rw [e1, e2, List.append_assoc]
theorem nd_inj {l : List Int} (hn : l.Nodup) {i j : Nat} {hi : i < l.length} {hj : j < l.length} (e : l[i] = l[j]) : i = j := by
  have h := List.pairwise_iff_getElem.1 hn
  rcases Nat.lt_trichotomy i j with q | q | q
  · exact absurd e (h i j hi hj q)
  · exact q
  · exact absurd e.symm (h j i hj hi q)
theorem erase_at : ∀ {l : List Int} {i : Nat} (hn : l.Nodup) (hi : i < l.length), l.erase l[i] = l.eraseIdx i
  | y :: l, 0, _, _ => by simp
  | y :: l, i + 1, hn, hi => by
    have hi2 : i < l.length := by simpa using hi
    have hne : y ≠ l[i] := fun e => (List.nodup_cons.1 hn).1 (by rw [e]; exact List.getElem_mem _)
    rw [List.getElem_cons_succ, List.erase_cons_tail (by simpa using hne), erase_at (List.nodup_cons.1 hn).2 hi2]
    rfl
theorem rw_erase {l : List Int} {h i : Nat} (hn : l.Nodup) (hi : i < l.length) : (rw_ l h).erase l[i] = if i < h then l.drop h ++ (l.take h).eraseIdx i else (l.drop h).eraseIdx (i - h) ++ l.take h := by
  unfold rw_
  split
  · rename_i q
    have hm : l[i] ∉ l.drop h := fun z => by
      obtain ⟨k, hk, e⟩ := List.getElem_of_mem z
      rw [List.getElem_drop] at e
      rw [List.length_drop] at hk
      have := nd_inj hn e
      omega
    rw [List.erase_append_right _ hm]
    congr 1
    have hi2 : i < (l.take h).length := by rw [List.length_take]; omega
    have e : l[i] = (l.take h)[i] := by rw [List.getElem_take]
    rw [e]
    exact erase_at ((List.take_sublist h l).nodup hn) hi2
  · rename_i q
    have hi2 : i - h < (l.drop h).length := by rw [List.length_drop]; omega
    have e : l[i] = (l.drop h)[i - h] := by
      rw [List.getElem_drop]
      congr 1
      omega
    have hm : l[i] ∈ l.drop h := by rw [e]; exact List.getElem_mem _
    rw [List.erase_append_left _ hm]
    congr 1
    rw [e]
    exact erase_at ((List.drop_sublist h l).nodup hn) hi2
theorem eraseIdx_get? {l : List Int} {i k : Nat} : (l.eraseIdx i)[k]? = if k < i then l[k]? else l[k + 1]? := List.getElem?_eraseIdx ..
/-- One is taken out from behind the hand's place on; ahead of it. -/
theorem rw_rm_hi {l : List Int} {h i : Nat} (hn : l.Nodup) (hi : i < l.length) (hh : h ≤ i) : rw_ (l.eraseIdx i) h = (rw_ l h).erase l[i] := by
  rw [rw_erase hn hi, if_neg (by omega)]
  unfold rw_
  congr 1
  · apply List.ext_getElem?
    intro k
    rw [List.getElem?_drop, eraseIdx_get?, eraseIdx_get?, List.getElem?_drop, List.getElem?_drop]
    by_cases q : h + k < i
    · rw [if_pos q, if_pos (by omega)]
    · rw [if_neg q, if_neg (by omega)]
      congr 1
  · apply List.ext_getElem?
    intro k
    by_cases q : k < h
    · rw [List.getElem?_take_of_lt q, List.getElem?_take_of_lt q, eraseIdx_get?, if_pos (by omega)]
    · rw [List.getElem?_eq_none (by rw [List.length_take]; omega), List.getElem?_eq_none (by rw [List.length_take]; omega)]
theorem rw_rm_lo {l : List Int} {h i : Nat} (hn : l.Nodup) (hi : i < h) (hh : h ≤ l.length) : rw_ (l.eraseIdx i) (h - 1) = (rw_ l h).erase (l[i]'(by omega)) := by
  rw [rw_erase hn (by omega), if_pos hi]
  unfold rw_
  congr 1
  · apply List.ext_getElem?
    intro k
    rw [List.getElem?_drop, eraseIdx_get?, if_neg (by omega), List.getElem?_drop]
    congr 1
    omega
  · apply List.ext_getElem?
    intro k
    rw [eraseIdx_get?]
    by_cases q : k < h - 1
    · rw [List.getElem?_take_of_lt q, eraseIdx_get?]
      by_cases z : k < i
      · rw [if_pos z, if_pos z, List.getElem?_take_of_lt (by omega)]
      · rw [if_neg z, if_neg z, List.getElem?_take_of_lt (by omega)]
    · rw [List.getElem?_eq_none (by rw [List.length_take]; omega)]
      by_cases z : k < i
      · omega
      · rw [if_neg z, List.getElem?_eq_none (by rw [List.length_take]; omega)]
/-- The place of a number, looked for from below. -/
def Plc (l : List Int) (x : Int) (i : Nat) : Prop := l[i]? = some x ∧ ∀ k, k < i → l[k]? ≠ some x
theorem plc_or (l : List Int) (x : Int) : (∃ i, Plc l x i) ∨ x ∉ l := by
  have : ∀ n, n ≤ l.length → (∃ i, Plc l x i) ∨ ∀ k, k < n → l[k]? ≠ some x := fun n => by
    induction n with
    | zero => exact fun _ => Or.inr (fun k h => absurd h (Nat.not_lt_zero _))
    | succ n ih =>
      intro h
      rcases ih (by omega) with q | q
      · exact Or.inl q
      · by_cases e : l[n]? = some x
        · exact Or.inl ⟨n, e, q⟩
        · refine Or.inr (fun k hk => ?_)
          rcases Nat.lt_succ_iff_lt_or_eq.1 hk with z | z
          · exact q k z
          · rw [z]; exact e
  rcases this _ (Nat.le_refl _) with q | q
  · exact Or.inl q
  · refine Or.inr (fun z => ?_)
    obtain ⟨k, hk, e⟩ := List.getElem_of_mem z
    exact q k hk (by rw [List.getElem?_eq_getElem hk, e])
theorem Plc.lt {l : List Int} {x : Int} {i : Nat} (h : Plc l x i) : i < l.length := (List.getElem?_eq_some_iff.1 h.1).1
theorem Plc.mem {l : List Int} {x : Int} {i : Nat} (h : Plc l x i) : x ∈ l := List.mem_of_getElem? h.1
theorem Plc.erase {l : List Int} {x : Int} {i : Nat} (h : Plc l x i) (hn : l.Nodup) : l.erase x = l.eraseIdx i := by
  have := erase_at hn h.lt
  rwa [show l[i]'h.lt = x from (List.getElem?_eq_some_iff.1 h.1).2] at this
end Go.Proofs.Ytimeoinmepfpnaa.Ri
