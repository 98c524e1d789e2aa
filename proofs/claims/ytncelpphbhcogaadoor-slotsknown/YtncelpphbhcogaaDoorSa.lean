/- Layer 18, plain mathematics: which slots are taken (a list of Booleans), what Take, Give, Free and Used answer of it; no condition but those named. -/
namespace Go.Proofs.YtncelpphbhcogaaDoor.Z
set_option linter.unusedVariables false

/-- The least free slot. -/
def Fr (T : List Bool) (i : Nat) : Prop := T[i]? = some false ∧ ∀ k, k < i → T[k]? = some true
/-- None is free. -/
def Full (T : List Bool) : Prop := ∀ k, k < T.length → T[k]? = some true
theorem Fr.lt {T : List Bool} {i : Nat} (h : Fr T i) : i < T.length := (List.getElem?_eq_some_iff.1 h.1).1
theorem Fr.uniq {T : List Bool} {i k : Nat} (h : Fr T i) (g : Fr T k) : i = k := by
  rcases Nat.lt_trichotomy i k with q | q | q
  · have := g.2 i q
    rw [h.1] at this
    cases this
  · exact q
  · have := h.2 k q
    rw [g.1] at this
    cases this
theorem Fr.not_full {T : List Bool} {i : Nat} (h : Fr T i) : ¬ Full T := fun q => by
  have := q i h.lt
  rw [h.1] at this
  cases this
/-- Looked at from below. -/
def Upto (T : List Bool) (n : Nat) : Prop := ∀ k, k < n → T[k]? = some true
theorem Upto.zero (T : List Bool) : Upto T 0 := fun k h => absurd h (Nat.not_lt_zero _)
theorem Upto.step {T : List Bool} {n : Nat} (h : Upto T n) (g : T[n]? = some true) : Upto T (n + 1) := fun k hk => by
  rcases Nat.lt_succ_iff_lt_or_eq.1 hk with q | q
  · exact h k q
  · rw [q]; exact g
theorem Upto.full {T : List Bool} (h : Upto T T.length) : Full T := h
theorem Upto.fr {T : List Bool} {n : Nat} (h : Upto T n) (g : T[n]? = some false) : Fr T n := ⟨g, h⟩
theorem fr_or (T : List Bool) : (∃ i, Fr T i) ∨ Full T := by
  have : ∀ n, n ≤ T.length → (∃ i, Fr T i) ∨ Upto T n := fun n => by
    induction n with
    | zero => exact fun _ => Or.inr (Upto.zero T)
    | succ n ih =>
      intro h
      rcases ih (by omega) with q | q
      · exact Or.inl q
      · cases e : T[n]'(by omega) with
        | false => exact Or.inl ⟨n, q.fr (by rw [List.getElem?_eq_getElem (by omega), e])⟩
        | true => exact Or.inr (q.step (by rw [List.getElem?_eq_getElem (by omega), e]))
  exact this _ (Nat.le_refl _)
/-- What Take answers, and what is taken behind it. -/
def TkS (T T' : List Bool) (at_ e : Int) : Prop := (∃ i, Fr T i ∧ T' = T.set i true ∧ at_ = (i : Int) ∧ e = 0) ∨ (Full T ∧ T' = T ∧ at_ = 0 ∧ e = 4)
/-- What Give answers. -/
def GvS (T : List Bool) (x : Int) (T' : List Bool) (e : Int) : Prop := (∃ k : Nat, x = (k : Int) ∧ T[k]? = some true ∧ T' = T.set k false ∧ e = 0) ∨ ((∀ k : Nat, x = (k : Int) → T[k]? ≠ some true) ∧ T' = T ∧ e = 91)
theorem TkS.uniq {T A B : List Bool} {a b e f : Int} (h : TkS T A a e) (g : TkS T B b f) : A = B ∧ a = b ∧ e = f := by
  rcases h with ⟨i, hi, rfl, rfl, rfl⟩ | ⟨hi, rfl, rfl, rfl⟩
  · rcases g with ⟨k, hk, rfl, rfl, rfl⟩ | ⟨hk, rfl, rfl, rfl⟩
    · obtain rfl := hi.uniq hk
      exact ⟨rfl, rfl, rfl⟩
    · exact absurd hk hi.not_full
  · rcases g with ⟨k, hk, rfl, rfl, rfl⟩ | ⟨hk, rfl, rfl, rfl⟩
    · exact absurd hi hk.not_full
    · exact ⟨rfl, rfl, rfl⟩
theorem GvS.uniq {T A B : List Bool} {x e f : Int} (h : GvS T x A e) (g : GvS T x B f) : A = B ∧ e = f := by
  rcases h with ⟨i, hi, h1, rfl, rfl⟩ | ⟨hi, rfl, rfl⟩
  · rcases g with ⟨k, hk, h2, rfl, rfl⟩ | ⟨hk, rfl, rfl⟩
    · have : i = k := by omega
      subst this
      exact ⟨rfl, rfl⟩
    · exact absurd h1 (hk i hi)
  · rcases g with ⟨k, hk, h2, rfl, rfl⟩ | ⟨hk, rfl, rfl⟩
    · exact absurd h2 (hi k hk)
    · exact ⟨rfl, rfl⟩
theorem TkS.len {T A : List Bool} {a e : Int} (h : TkS T A a e) : A.length = T.length := by
  rcases h with ⟨i, _, rfl, _⟩ | ⟨_, rfl, _⟩
  · exact List.length_set
  · rfl
theorem GvS.len {T A : List Bool} {x e : Int} (h : GvS T x A e) : A.length = T.length := by
  rcases h with ⟨i, _, _, rfl, _⟩ | ⟨_, rfl, _⟩
  · exact List.length_set
  · rfl
/-- How many are taken; which, rising. -/
def cT (T : List Bool) : Nat := T.count true
def usF (T : List Bool) (n : Nat) : List Nat := (List.range n).filter (fun i => T[i]? == some true)
def us (T : List Bool) : List Nat := usF T T.length
theorem usF_succ (T : List Bool) (n : Nat) : usF T (n + 1) = if T[n]? = some true then usF T n ++ [n] else usF T n := by
  unfold usF
  rw [List.range_succ, List.filter_append]
  by_cases h : T[n]? = some true
  · rw [if_pos h, List.filter_cons_of_pos (by simp [h]), List.filter_nil]
  · rw [if_neg h, List.filter_cons_of_neg (by simp [h]), List.filter_nil, List.append_nil]
theorem usF_len (T : List Bool) : ∀ n, n ≤ T.length → (usF T n).length = (T.take n).count true
  | 0, _ => by simp [usF]
  | n + 1, h => by
    have ih := usF_len T n (by omega)
    rw [usF_succ, List.take_add_one, List.getElem?_eq_getElem (by omega)]
    cases e : T[n]'(by omega)
    · rw [if_neg (by simp)]
      simp [ih]
    · rw [if_pos rfl]
      simp [ih]
theorem us_len (T : List Bool) : (us T).length = cT T := by
  unfold us cT
  rw [usF_len T _ (Nat.le_refl _), List.take_length]
theorem usF_le (T : List Bool) (n : Nat) : (usF T n).length ≤ n := by
  unfold usF
  exact Nat.le_trans (List.length_filter_le _ _) (by simp)
theorem usF_lt {T : List Bool} {n x : Nat} (h : x ∈ usF T n) : x < n := by
  unfold usF at h
  exact List.mem_range.1 (List.mem_filter.1 h).1
theorem cT_le (T : List Bool) : cT T ≤ T.length := List.count_le_length
theorem cT_set_true : ∀ {T : List Bool} {i : Nat}, T[i]? = some false → cT (T.set i true) = cT T + 1
  | [], i, h => by simp at h
  | x :: T, 0, h => by
    have : x = false := by simpa using h
    subst this
    simp [cT]
  | x :: T, i + 1, h => by
    have ih := cT_set_true (T := T) (i := i) (by simpa using h)
    unfold cT at *
    rw [List.set_cons_succ, List.count_cons, List.count_cons, ih]
    omega
theorem cT_set_false : ∀ {T : List Bool} {i : Nat}, T[i]? = some true → cT (T.set i false) + 1 = cT T
  | [], i, h => by simp at h
  | x :: T, 0, h => by
    have : x = true := by simpa using h
    subst this
    simp [cT]
  | x :: T, i + 1, h => by
    have ih := cT_set_false (T := T) (i := i) (by simpa using h)
    unfold cT at *
    rw [List.set_cons_succ, List.count_cons, List.count_cons]
    omega
theorem full_iff {T : List Bool} : Full T ↔ cT T = T.length := by
  unfold Full cT
  rw [List.count_eq_length]
  constructor
  · intro h b hb
    obtain ⟨i, hi, rfl⟩ := List.getElem_of_mem hb
    have := h i hi
    rw [List.getElem?_eq_getElem hi] at this
    exact (Option.some.inj this).symm
  · intro h k hk
    rw [List.getElem?_eq_getElem hk, ← h _ (List.getElem_mem hk)]
/-- A new area; behind k Takes of it. -/
def nw (n : Nat) : List Bool := List.replicate n false
theorem nw_len (n : Nat) : (nw n).length = n := List.length_replicate
theorem nw_c (n : Nat) : cT (nw n) = 0 := by
  unfold cT nw
  rw [List.count_replicate]
  rfl
def kt (n k : Nat) : List Bool := List.replicate k true ++ List.replicate (n - k) false
theorem kt_zero (n : Nat) : kt n 0 = nw n := rfl
theorem kt_len {n k : Nat} (h : k ≤ n) : (kt n k).length = n := by unfold kt; simp; omega
theorem kt_lo {n k i : Nat} (h : i < k) : (kt n k)[i]? = some true := by
  unfold kt
  rw [List.getElem?_append_left (by simpa using h), List.getElem?_replicate, if_pos h]
theorem kt_hi {n k i : Nat} (h : k ≤ i) (hi : i < n) : (kt n k)[i]? = some false := by
  unfold kt
  rw [List.getElem?_append_right (by simpa using h), List.getElem?_replicate, List.length_replicate, if_pos (by omega)]
theorem kt_fr {n k : Nat} (h : k < n) : Fr (kt n k) k := ⟨kt_hi (Nat.le_refl _) h, fun i hi => kt_lo hi⟩
theorem kt_full (n : Nat) : Full (kt n n) := fun k hk => kt_lo (by rwa [kt_len (Nat.le_refl _)] at hk)
theorem kt_set {n k : Nat} (h : k < n) : (kt n k).set k true = kt n (k + 1) := by
  apply List.ext_getElem?
  intro i
  by_cases hi : i < n
  · by_cases e : k = i
    · subst e
      rw [List.getElem?_set_self (by rw [kt_len (by omega)]; exact h), kt_lo (by omega)]
    · rw [List.getElem?_set_ne e]
      by_cases q : i < k
      · rw [kt_lo q, kt_lo (by omega)]
      · rw [kt_hi (by omega) hi, kt_hi (by omega) hi]
  · rw [List.getElem?_eq_none (by rw [List.length_set, kt_len (by omega)]; omega), List.getElem?_eq_none (by rw [kt_len (by omega)]; omega)]
theorem kt_tk {n k : Nat} (h : k < n) : TkS (kt n k) (kt n (k + 1)) (k : Int) 0 := Or.inl ⟨k, kt_fr h, (kt_set h).symm, rfl, rfl⟩
theorem kt_c {n k : Nat} : cT (kt n k) = k := by
  unfold cT kt
  rw [List.count_append, List.count_replicate, List.count_replicate]
  simp
end Go.Proofs.YtncelpphbhcogaaDoor.Z
