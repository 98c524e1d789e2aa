/- What Give and New make of a buddy's free blocks; no condition but those that each theorem names. -/
import Derived.Test.YtdlkmeopiilmdaaSn
namespace Go.Proofs.Ytdlkmeopiilmdaa
set_option linter.unusedVariables false

/-- The place of a block's buddy: of the block of the order i about the place a. -/
def bud (a i : Nat) : Nat := sib (a / 2 ^ i) * 2 ^ i
/-- Put where it belongs. -/
def ins (c : Nat) (l : List Nat) : List Nat := l.take (l.countP (· < c)) ++ c :: l.drop (l.countP (· < c))
def gvL (L : Nat → List Nat) (o a j : Nat) : Nat → List Nat := fun i => if o ≤ i ∧ i < j then (L i).filter (fun x => x != bud a i) else L i
def gvE (L : Nat → List Nat) (o a j : Nat) : Nat → List Nat := fun i => if i = j then ins (a / 2 ^ j * 2 ^ j) (L j) else gvL L o a j i
/-- How far up blocks are put together. -/
structure Top (L : Nat → List Nat) (o a J : Nat) : Prop where
  ge : o ≤ J
  le : J ≤ 6
  mem : ∀ i, o ≤ i → i < J → bud a i ∈ L i
  stop : J < 6 → bud a J ∉ L J
theorem mem_ins (c : Nat) (l : List Nat) (x : Nat) : x ∈ ins c l ↔ x = c ∨ x ∈ l := by
  unfold ins
  rw [List.mem_append, List.mem_cons]
  constructor
  · rintro (h | h | h)
    · exact Or.inr (List.mem_of_mem_take h)
    · exact Or.inl h
    · exact Or.inr (List.mem_of_mem_drop h)
  · rintro (h | h)
    · exact Or.inr (Or.inl h)
    · rw [← List.take_append_drop (l.countP (· < c)) l, List.mem_append] at h
      rcases h with h | h
      · exact Or.inl h
      · exact Or.inr (Or.inr h)
theorem ins_len (c : Nat) (l : List Nat) : (ins c l).length = l.length + 1 := by
  unfold ins
  have := List.countP_le_length (p := fun x => decide (x < c)) (l := l)
  simp
  omega
theorem count_cut : ∀ (l : List Nat) (c : Nat), l.Pairwise (· < ·) → (∀ x ∈ l.take (l.countP (· < c)), x < c) ∧ (∀ x ∈ l.drop (l.countP (· < c)), c ≤ x)
  | [], c, _ => by simp
  | y :: l, c, h => by
    have h' := List.pairwise_cons.1 h
    have ih := count_cut l c h'.2
    by_cases e : y < c
    · rw [List.countP_cons_of_pos (by simpa using e)]
      refine ⟨fun x hx => ?_, fun x hx => ?_⟩
      · rw [List.take_succ_cons, List.mem_cons] at hx
        rcases hx with rfl | hx
        · exact e
        · exact ih.1 x hx
      · rw [List.drop_succ_cons] at hx
        exact ih.2 x hx
    · have h0 : l.countP (· < c) = 0 := by
        rw [List.countP_eq_zero]
        intro x hx
        have := h'.1 x hx
        simp
        omega
      rw [List.countP_cons_of_neg (by simpa using e), h0]
      refine ⟨by simp, fun x hx => ?_⟩
      rw [List.drop_zero, List.mem_cons] at hx
      rcases hx with rfl | hx
      · omega
      · have := h'.1 x hx
        omega
theorem ins_sorted {c : Nat} {l : List Nat} (h : l.Pairwise (· < ·)) (hc : c ∉ l) : (ins c l).Pairwise (· < ·) := by
  have hk := count_cut l c h
  unfold ins
  rw [List.pairwise_append, List.pairwise_cons]
  have hd : l.take (l.countP (· < c)) ++ l.drop (l.countP (· < c)) = l := List.take_append_drop _ _
  have hp := h
  rw [← hd, List.pairwise_append] at hp
  refine ⟨hp.1, ⟨fun x hx => ?_, hp.2.1⟩, fun x hx y hy => ?_⟩
  · have h1 := hk.2 x hx
    have h2 : x ≠ c := fun e => hc (e ▸ List.mem_of_mem_drop hx)
    omega
  · have h1 := hk.1 x hx
    rcases List.mem_cons.1 hy with rfl | hy
    · exact h1
    · have := hk.2 y hy
      omega
theorem bud_mod (a i : Nat) : bud a i % 2 ^ i = 0 := mul_mod _ _
theorem bud_div (a i : Nat) : bud a i / 2 ^ i = sib (a / 2 ^ i) := mul_div _ _
/-- Both halves open: the whole is. -/
theorem wh_both {op : Nat → Bool} {k r : Nat} (h1 : wh op k r) (h2 : wh op k (sib r)) : wh op (k + 1) (r / 2) := by
  intro x hx
  rw [div_up1] at hx
  by_cases e : r = x / 2 ^ k
  · exact h1 x e.symm
  · exact h2 x ((sib_iff _ _).2 ⟨e, hx.symm⟩)
theorem wh_opened (op : Nat → Bool) (o p : Nat) : wh (opened op o p) o p := fun i hi => by simp [opened, hi]
theorem wh_more {op : Nat → Bool} {o p k q : Nat} (h : wh op k q) : wh (opened op o p) k q := fun i hi => by
  have := h i hi
  simp [opened, this]
theorem top_wh {op : Nat → Bool} {L : Nat → List Nat} {o a J : Nat} (hF : ∀ k, k ≤ 6 → Fit op k (L k)) (ht : Top L o a J) : ∀ j, o ≤ j → j ≤ J → wh (opened op o (a / 2 ^ o)) j (a / 2 ^ j) := by
  intro j h1
  induction j with
  | zero =>
    intro _
    obtain rfl : o = 0 := by omega
    exact wh_opened _ _ _
  | succ j ih =>
    intro h2
    by_cases e : o = j + 1
    · subst e
      exact wh_opened _ _ _
    · have hle := ht.le
      rw [div_up1]
      refine wh_both (ih (by omega) (by omega)) (wh_more ?_)
      have := ((hF j (by omega)).2 _).1 (ht.mem j (by omega) (by omega))
      rw [bud_div] at this
      exact this.2.1
theorem top_mx {op : Nat → Bool} {L : Nat → List Nat} {o a J : Nat} (hF : ∀ k, k ≤ 6 → Fit op k (L k)) (ht : Top L o a J) (hc : ∀ i, i / 2 ^ o = a / 2 ^ o → op i = false) : mx (opened op o (a / 2 ^ o)) J (a / 2 ^ J) := by
  refine ⟨top_wh hF ht J ht.ge (Nat.le_refl _), fun h6 hw => ht.stop h6 ?_⟩
  have hge := ht.ge
  have hle := ht.le
  rw [(hF J hle).2, bud_div]
  refine ⟨bud_mod _ _, ?_, fun _ hp => ?_⟩
  · intro x hx
    have h1 : x / 2 ^ (J + 1) = a / 2 ^ J / 2 := by rw [div_up1, hx, sib_half]
    have h2 := hw x h1
    unfold opened at h2
    split at h2
    · rename_i e
      have h3 : x / 2 ^ J = a / 2 ^ J := by rw [div_up x o J hge, e, ← div_up a o J hge]
      rw [h3] at hx
      exact absurd rfl ((sib_iff _ _).1 hx).1
    · exact h2
  · have h1 := hp a (by rw [div_up1, sib_half])
    rw [hc a rfl] at h1
    cases h1
theorem filter_len_one {l : List Nat} {y : Nat} (hn : l.Nodup) (hy : y ∈ l) : (l.filter (fun x => x != y)).length + 1 = l.length := by
  induction l with
  | nil => simp at hy
  | cons a l ih =>
    have h := List.nodup_cons.1 hn
    by_cases e : a = y
    · subst e
      have : l.filter (fun x => x != a) = l := by
        rw [List.filter_eq_self]
        intro b hb
        simp only [bne_iff_ne]
        intro e
        exact h.1 (e ▸ hb)
      simp [this]
    · have hy' : y ∈ l := by
        rcases List.mem_cons.1 hy with q | q
        · exact absurd q.symm e
        · exact q
      rw [List.filter_cons_of_pos (by simpa using e)]
      have := ih h.2 hy'
      simp
      omega
theorem St.give {n : Nat} {op : Nat → Bool} {L : Nat → List Nat} {tk : Nat → Option Nat} (h : St n op L tk) {o a J : Nat} (hT : tk a = some o) (ht : Top L o a J) :
    St n (opened op o (a / 2 ^ o)) (gvE L o a J) (pt tk a none) ∧ fr (gvE L o a J) = fr L + 2 ^ o := by
  obtain ⟨ho6, hao, han, hc⟩ := h.tk1 a o hT
  have hm := top_mx h.fit ht hc
  have hup := top_wh h.fit ht
  have hsh := shut_opened (op := op) (o := o) (p := a / 2 ^ o) hc
  have hge := ht.ge
  have hle := ht.le
  have C := fun i q (hi : i ≤ 6) => cut hm hge hle (div_up a o J hge).symm i q hi
  rw [hsh] at C
  have hnot : (a / 2 ^ J * 2 ^ J) ∉ L J := by
    intro hx
    have h1 := ((h.fit J hle).2 _).1 hx
    rw [mul_div] at h1
    have := h1.2.1 a rfl
    rw [hc a rfl] at this
    cases this
  have hfr : fr (gvE L o a J) = fr L + 2 ^ o := by
    refine (fr_cut (a := gvE L o a J) (b := L) hge hle ?_ ?_ ?_).symm
    · simp [gvE, ins_len]
    · intro i h1 h2
      have h3 : i ≠ J := by omega
      have := filter_len_one (h.fit i (by omega)).nodup (ht.mem i h1 h2)
      simp only [gvE, h3, if_false, gvL, h1, h2, and_self, if_true]
      exact this.symm
    · intro i h1
      have h2 : i ≠ J := by omega
      have h3 : ¬ (o ≤ i ∧ i < J) := by omega
      simp only [gvE, h2, if_false, gvL, h3]
  refine ⟨⟨?_, ?_, ?_, ?_, ?_, ?_⟩, hfr⟩
  · intro i hi
    have hF := h.fit i hi
    by_cases e : i = J
    · subst e
      simp only [gvE, if_true]
      refine ⟨ins_sorted hF.1 hnot, fun x => ?_⟩
      rw [mem_ins, hF.2 x, C i _ hi]
      constructor
      · rintro (rfl | h1)
        · rw [mul_div]
          exact ⟨mul_mod _ _, hm⟩
        · rcases h1.2 with q | q
          · exact ⟨h1.1, q.1⟩
          · omega
      · rintro ⟨h1, h2⟩
        by_cases e : x / 2 ^ i = a / 2 ^ i
        · left
          rw [← e, mod_mul_div h1]
        · exact Or.inr ⟨h1, Or.inl ⟨h2, fun q => e q.2⟩⟩
    · by_cases e2 : o ≤ i ∧ i < J
      · simp only [gvE, e, if_false, gvL, e2, and_self, if_true]
        refine ⟨hF.1.filter _, fun x => ?_⟩
        rw [List.mem_filter, hF.2 x, C i _ hi, bne_iff_ne]
        have hno : ¬ mx (opened op o (a / 2 ^ o)) i (sib (a / 2 ^ i)) := by
          intro q
          refine q.2 (by omega) ?_
          have := hup (i + 1) (by omega) (by omega)
          rwa [div_up1, ← sib_half] at this
        constructor
        · rintro ⟨⟨h1, h2⟩, h3⟩
          refine ⟨h1, ?_⟩
          rcases h2 with q | q
          · exact q.1
          · exfalso
            apply h3
            rw [← div_up a o i e2.1] at q
            unfold bud
            rw [← q.2.2, mod_mul_div h1]
        · rintro ⟨h1, h2⟩
          refine ⟨⟨h1, Or.inl ⟨h2, fun q => e q.1⟩⟩, ?_⟩
          intro q
          rw [q, bud_div] at h2
          exact hno h2
      · simp only [gvE, e, if_false, gvL, e2]
        refine ⟨hF.1, fun x => ?_⟩
        rw [hF.2 x, C i _ hi]
        constructor
        · rintro ⟨h1, q | q⟩
          · exact ⟨h1, q.1⟩
          · exact absurd ⟨q.1, q.2.1⟩ e2
        · rintro ⟨h1, q⟩
          exact ⟨h1, Or.inl ⟨q, fun b => e b.1⟩⟩
  · intro i hi
    unfold opened at hi
    split at hi
    · rename_i e
      have := div_eq_iff.1 e
      rw [mod_mul_div hao] at this
      omega
    · exact h.lt i hi
  · intro x u hx
    unfold pt at hx
    split at hx
    · cases hx
    · rename_i e
      obtain ⟨h1, h2, h3, h4⟩ := h.tk1 x u hx
      refine ⟨h1, h2, h3, fun i hi => ?_⟩
      unfold opened
      split
      · rename_i e2
        exact absurd (h.tk2 x u a o i hx hT hi e2) e
      · exact h4 i hi
  · intro x u y v i hx hy
    unfold pt at hx hy
    split at hx
    · cases hx
    · split at hy
      · cases hy
      · exact h.tk2 x u y v i hx hy
  · intro i hi hcl
    unfold opened at hcl
    split at hcl
    · cases hcl
    · rename_i e
      obtain ⟨x, u, h2, h3⟩ := h.tk3 i hi hcl
      refine ⟨x, u, ?_, h3⟩
      unfold pt
      rw [if_neg]
      · exact h2
      · intro e2
        subst e2
        rw [hT] at h2
        cases h2
        exact e h3
  · have h1 := cnt_cut (n := n) (wh_opened op o (a / 2 ^ o)) (by rw [mod_mul_div hao]; exact han)
    rw [hsh] at h1
    have := h.cn
    omega
/-- Taken and given back at once: as it was. -/
theorem back_same {n : Nat} {op op' : Nat → Bool} {L L' : Nat → List Nat} {tk tk' : Nat → Option Nat} (h : St n op L tk) (h' : St n op' L' tk') (e : op' = op) : ∀ k, k ≤ 6 → L' k = L k := by
  subst e
  exact fun k hk => (h'.fit k hk).uniq (h.fit k hk)
/-! ### New -/
def op0 (n : Nat) : Nat → Bool := fun i => decide (i < n)
def base (n j : Nat) : Nat := if j = 6 then 0 else n / 2 ^ (j + 1) * 2 ^ (j + 1)
def row (b j m : Nat) : List Nat := (List.range m).map (fun t => b + t * 2 ^ j)
def nwL (n j : Nat) : List Nat := row (base n j) j ((n - base n j) / 2 ^ j)
theorem row_succ (b j m : Nat) : row b j (m + 1) = row b j m ++ [b + m * 2 ^ j] := by
  simp [row, List.range_succ]
theorem wh_op0 (n k q : Nat) : wh (op0 n) k q ↔ q * 2 ^ k + 2 ^ k ≤ n := by
  have hp := Nat.two_pow_pos k
  constructor
  · intro h
    have := h (q * 2 ^ k + 2 ^ k - 1) (div_eq_iff.2 (by omega))
    simp [op0] at this
    omega
  · intro h i hi
    have := div_eq_iff.1 hi
    simp [op0]
    omega
theorem nw_fit (n j : Nat) (hj : j ≤ 6) : Fit (op0 n) j (nwL n j) := by
  refine ⟨?_, fun x => ?_⟩
  · unfold nwL row
    rw [List.pairwise_map]
    refine List.Pairwise.imp ?_ List.pairwise_lt_range
    intro a b hab
    have := Nat.mul_lt_mul_of_pos_right hab (Nat.two_pow_pos j)
    omega
  · unfold mx
    rw [wh_op0, wh_op0]
    simp only [nwL, row, List.mem_map, List.mem_range]
    constructor
    · rintro ⟨t, h1, rfl⟩
      rcases six hj with rfl | rfl | rfl | rfl | rfl | rfl | rfl <;> simp only [base, Nat.reducePow, Nat.reduceAdd, Nat.reduceEqDiff, if_true, if_false] at * <;> omega
    · intro h
      refine ⟨(x - base n j) / 2 ^ j, ?_, ?_⟩ <;> rcases six hj with rfl | rfl | rfl | rfl | rfl | rfl | rfl <;> simp only [base, Nat.reducePow, Nat.reduceAdd, Nat.reduceEqDiff, if_true, if_false] at * <;> omega
theorem nw_fr (n : Nat) : fr (nwL n) = n := by
  simp only [fr, nwL, row, List.length_map, List.length_range, base, Nat.reducePow, Nat.reduceAdd, Nat.reduceEqDiff, if_true, if_false]
  omega
theorem cnt_op0 (n : Nat) : ∀ m, m ≤ n → cnt (op0 n) m = m
  | 0, _ => rfl
  | m + 1, h => by
    have := cnt_op0 n m (by omega)
    have h2 : op0 n m = true := by simp [op0]; omega
    simp [cnt, this, h2]
theorem St.new (n : Nat) : St n (op0 n) (nwL n) (fun _ => none) :=
  ⟨fun k hk => nw_fit n k hk, fun i hi => (by simpa [op0] using hi), fun x o h => (by cases h), fun x o y u i h => (by cases h), fun i h1 h2 => (by simp [op0] at h2; omega), (by rw [cnt_op0 n n (Nat.le_refl _), nw_fr])⟩
end Go.Proofs.Ytdlkmeopiilmdaa
