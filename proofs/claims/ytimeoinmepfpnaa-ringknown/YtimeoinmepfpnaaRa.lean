/- Layer 19, plain mathematics: a row from the hand on, what Add, Remove and Next answer of it; a row turned; no condition but those named. -/
namespace Go.Proofs.Ytimeoinmepfpnaa.Ri
set_option linter.unusedVariables false

/-- What Add answers, and the row behind it. -/
def AdS (L : List Int) (x : Int) (L' : List Int) (e : Int) : Prop :=
  (x < 0 ∧ L' = L ∧ e = 2) ∨ (0 ≤ x ∧ x ∈ L ∧ L' = L ∧ e = 91) ∨ (0 ≤ x ∧ x ∉ L ∧ 4096 ≤ L.length ∧ L' = L ∧ e = 4) ∨ (0 ≤ x ∧ x ∉ L ∧ L.length < 4096 ∧ L' = L ++ [x] ∧ e = 0)
/-- What Remove answers. -/
def RmS (L : List Int) (x : Int) (L' : List Int) (e : Int) : Prop := (x ∈ L ∧ L' = L.erase x ∧ e = 0) ∨ (x ∉ L ∧ L' = L ∧ e = 190)
theorem AdS.uniq {L A B : List Int} {x e f : Int} (h : AdS L x A e) (g : AdS L x B f) : A = B ∧ e = f := by
  rcases h with ⟨h1, rfl, rfl⟩ | ⟨h1, h2, rfl, rfl⟩ | ⟨h1, h2, h3, rfl, rfl⟩ | ⟨h1, h2, h3, rfl, rfl⟩ <;>
    rcases g with ⟨g1, rfl, rfl⟩ | ⟨g1, g2, rfl, rfl⟩ | ⟨g1, g2, g3, rfl, rfl⟩ | ⟨g1, g2, g3, rfl, rfl⟩ <;>
      first | exact ⟨rfl, rfl⟩ | (exfalso; omega) | exact absurd ‹_ ∈ _› ‹_ ∉ _›
theorem AdS.all (L : List Int) (x : Int) : ∃ L' e, AdS L x L' e := by
  by_cases h : x < 0
  · exact ⟨_, _, Or.inl ⟨h, rfl, rfl⟩⟩
  · by_cases h2 : x ∈ L
    · exact ⟨_, _, Or.inr (Or.inl ⟨by omega, h2, rfl, rfl⟩)⟩
    · by_cases h3 : 4096 ≤ L.length
      · exact ⟨_, _, Or.inr (Or.inr (Or.inl ⟨by omega, h2, h3, rfl, rfl⟩))⟩
      · exact ⟨_, _, Or.inr (Or.inr (Or.inr ⟨by omega, h2, by omega, rfl, rfl⟩))⟩
theorem RmS.uniq {L A B : List Int} {x e f : Int} (h : RmS L x A e) (g : RmS L x B f) : A = B ∧ e = f := by
  rcases h with ⟨h1, rfl, rfl⟩ | ⟨h1, rfl, rfl⟩ <;> rcases g with ⟨g1, rfl, rfl⟩ | ⟨g1, rfl, rfl⟩ <;>
    first | exact ⟨rfl, rfl⟩ | exact absurd ‹_ ∈ _› ‹_ ∉ _›
theorem RmS.all (L : List Int) (x : Int) : ∃ L' e, RmS L x L' e := by
  by_cases h : x ∈ L
  · exact ⟨_, _, Or.inl ⟨h, rfl, rfl⟩⟩
  · exact ⟨_, _, Or.inr ⟨h, rfl, rfl⟩⟩
/-- A row that may be: numbers from 0 on, each once, at most 4096. -/
structure Ok (L : List Int) : Prop where
  nn : ∀ x ∈ L, 0 ≤ x
  up : ∀ x ∈ L, x < 9223372036854775808
  nd : L.Nodup
  le : L.length ≤ 4096
theorem Ok.nil : Ok [] := ⟨by simp, by simp, List.nodup_nil, by simp⟩
theorem Ok.add {L L' : List Int} {x e : Int} (h : Ok L) (hx : x < 9223372036854775808) (g : AdS L x L' e) : Ok L' := by
  rcases g with ⟨_, rfl, _⟩ | ⟨_, _, rfl, _⟩ | ⟨_, _, _, rfl, _⟩ | ⟨h1, h2, h3, rfl, _⟩
  · exact h
  · exact h
  · exact h
  · refine ⟨fun y hy => ?_, fun y hy => ?_, ?_, by simp; omega⟩
    · rcases List.mem_append.1 hy with q | q
      · exact h.nn y q
      · rw [List.mem_singleton.1 q]; exact h1
    · rcases List.mem_append.1 hy with q | q
      · exact h.up y q
      · rw [List.mem_singleton.1 q]; exact hx
    · rw [List.nodup_append]
      exact ⟨h.nd, by simp, fun a ha b hb e => by rw [List.mem_singleton.1 hb] at e; rw [e] at ha; exact h2 ha⟩
theorem Ok.rm {L L' : List Int} {x e : Int} (h : Ok L) (g : RmS L x L' e) : Ok L' := by
  rcases g with ⟨h1, rfl, _⟩ | ⟨_, rfl, _⟩
  · exact ⟨fun y hy => h.nn y (List.mem_of_mem_erase hy), fun y hy => h.up y (List.mem_of_mem_erase hy), h.nd.erase x, Nat.le_trans (List.length_erase_le) h.le⟩
  · exact h
/-- The hand goes on by one; by k. -/
def tu : List Int → List Int
  | [] => []
  | x :: T => T ++ [x]
def rt (L : List Int) : Nat → List Int
  | 0 => L
  | k + 1 => tu (rt L k)
theorem tu_len (L : List Int) : (tu L).length = L.length := by
  cases L with
  | nil => rfl
  | cons x T => simp [tu]
theorem tu_perm (L : List Int) : (tu L).Perm L := by
  cases L with
  | nil => exact List.Perm.refl _
  | cons x T => exact List.perm_append_comm
theorem rt_len (L : List Int) : ∀ k, (rt L k).length = L.length
  | 0 => rfl
  | k + 1 => by rw [rt, tu_len, rt_len L k]
theorem rt_perm (L : List Int) : ∀ k, (rt L k).Perm L
  | 0 => List.Perm.refl _
  | k + 1 => (tu_perm _).trans (rt_perm L k)
theorem Ok.perm {L L' : List Int} (h : Ok L) (p : L'.Perm L) : Ok L' :=
  ⟨fun x hx => h.nn x (p.mem_iff.1 hx), fun x hx => h.up x (p.mem_iff.1 hx), p.nodup_iff.2 h.nd, by rw [p.length_eq]; exact h.le⟩
theorem tu_get {L : List Int} {i : Nat} (h : i < L.length) : (tu L)[i]? = L[(i + 1) % L.length]? := by
  cases L with
  | nil => simp at h
  | cons x T =>
    simp only [tu, List.length_cons] at *
    by_cases q : i < T.length
    · rw [List.getElem?_append_left q, Nat.mod_eq_of_lt (by omega), List.getElem?_cons_succ]
    · have : i = T.length := by omega
      subst this
      rw [List.getElem?_append_right (Nat.le_refl _), Nat.mod_self]
      simp
theorem rt_get {L : List Int} : ∀ {k i : Nat}, i < L.length → (rt L k)[i]? = L[(i + k) % L.length]?
  | 0, i, h => by rw [Nat.add_zero, Nat.mod_eq_of_lt h]; rfl
  | k + 1, i, h => by
    have hn : 0 < L.length := by omega
    rw [rt, tu_get (by rw [rt_len]; exact h), rt_len, rt_get (Nat.mod_lt _ hn)]
    congr 1
    rw [Nat.mod_add_mod]
    congr 1
    omega
theorem rt_add (L : List Int) (a : Nat) : ∀ b, rt L (a + b) = rt (rt L a) b
  | 0 => rfl
  | b + 1 => by show tu (rt L (a + b)) = tu (rt (rt L a) b); rw [rt_add L a b]
theorem rt_tu (L : List Int) (k : Nat) : rt (tu L) k = rt L (k + 1) := by
  have := rt_add L 1 k
  rw [Nat.add_comm 1 k] at this
  exact this.symm
/-- Next: at most m are looked at, k were already; u: what used says in the state s, and the state behind it. The answer, how many were looked at, the row, the state. -/
def nx {σ : Type} (u : σ → Int → Bool × σ) (pin : Int) : Nat → List Int → σ → Nat → Option Int × Nat × List Int × σ
  | 0, L, s, k => (none, k, L, s)
  | m + 1, [], s, k => (none, k, [], s)
  | m + 1, x :: T, s, k => if x = pin then nx u pin m (T ++ [x]) s (k + 1) else if (u s x).1 = true then nx u pin m (T ++ [x]) (u s x).2 (k + 1) else (some x, k + 1, T ++ [x], (u s x).2)
theorem nx_pin {σ : Type} {u : σ → Int → Bool × σ} {pin : Int} {m : Nat} {T : List Int} {s : σ} {k : Nat} : nx u pin (m + 1) (pin :: T) s k = nx u pin m (T ++ [pin]) s (k + 1) := by
  rw [nx, if_pos rfl]
theorem nx_pass {σ : Type} {u : σ → Int → Bool × σ} {pin x : Int} {m : Nat} {T : List Int} {s : σ} {k : Nat} (h : x ≠ pin) (hu : (u s x).1 = true) : nx u pin (m + 1) (x :: T) s k = nx u pin m (T ++ [x]) (u s x).2 (k + 1) := by
  rw [nx, if_neg h, if_pos hu]
theorem nx_ans {σ : Type} {u : σ → Int → Bool × σ} {pin x : Int} {m : Nat} {T : List Int} {s : σ} {k : Nat} (h : x ≠ pin) (hu : (u s x).1 = false) : nx u pin (m + 1) (x :: T) s k = (some x, k + 1, T ++ [x], (u s x).2) := by
  rw [nx, if_neg h, if_neg (by rw [hu]; decide)]
theorem nx_zero {σ : Type} {u : σ → Int → Bool × σ} {pin : Int} {L : List Int} {s : σ} {k : Nat} : nx u pin 0 L s k = (none, k, L, s) := by
  cases L <;> rfl
/-- Whatever is found, the row is turned by as many as were looked at. -/
theorem nx_rt {σ : Type} (u : σ → Int → Bool × σ) (pin : Int) : ∀ (m : Nat) (L : List Int) (s : σ) (k : Nat), ∃ j, j ≤ m ∧ (nx u pin m L s k).2.1 = k + j ∧ (nx u pin m L s k).2.2.1 = rt L j ∧ (∀ x, (nx u pin m L s k).1 = some x → x ∈ L ∧ 1 ≤ j ∧ (rt L j)[L.length - 1]? = some x) ∧ ((nx u pin m L s k).1 = none → L ≠ [] → j = m)
  | 0, L, s, k => ⟨0, Nat.le_refl _, by rw [nx_zero]; rfl, by rw [nx_zero]; rfl, (fun x h => by rw [nx_zero] at h; cases h), (fun _ _ => rfl)⟩
  | m + 1, [], s, k => ⟨0, by omega, rfl, rfl, (fun x h => by cases h), (fun _ h => absurd rfl h)⟩
  | m + 1, x :: T, s, k => by
    have step : ∀ s', nx u pin (m + 1) (x :: T) s k = nx u pin m (T ++ [x]) s' (k + 1) → ∃ j, j ≤ m + 1 ∧ (nx u pin (m + 1) (x :: T) s k).2.1 = k + j ∧ (nx u pin (m + 1) (x :: T) s k).2.2.1 = rt (x :: T) j ∧ (∀ y, (nx u pin (m + 1) (x :: T) s k).1 = some y → y ∈ x :: T ∧ 1 ≤ j ∧ (rt (x :: T) j)[(x :: T).length - 1]? = some y) ∧ ((nx u pin (m + 1) (x :: T) s k).1 = none → x :: T ≠ [] → j = m + 1) := fun s' e => by
      obtain ⟨j, h1, h2, h3, h4, h5⟩ := nx_rt u pin m (T ++ [x]) s' (k + 1)
      have hr : rt (T ++ [x]) j = rt (x :: T) (j + 1) := rt_tu (x :: T) j
      rw [e]
      refine ⟨j + 1, by omega, by rw [h2]; omega, by rw [h3, hr], fun y hy => ?_, fun hn _ => by rw [h5 hn (by simp)]⟩
      obtain ⟨q1, q2, q3⟩ := h4 y hy
      rw [hr] at q3
      refine ⟨?_, by omega, ?_⟩
      · rcases List.mem_append.1 q1 with z | z
        · exact List.mem_cons_of_mem _ z
        · rw [List.mem_singleton.1 z]; exact List.mem_cons_self
      · have : (T ++ [x]).length = (x :: T).length := by simp
        rw [this] at q3
        exact q3
    by_cases hp : x = pin
    · subst hp
      exact step s nx_pin
    · cases hu : (u s x).1
      · rw [nx_ans hp hu]
        refine ⟨1, by omega, rfl, rfl, fun y hy => ?_, fun hn => by cases hn⟩
        obtain rfl : x = y := by simpa using hy
        refine ⟨List.mem_cons_self, Nat.le_refl _, ?_⟩
        show (T ++ [x])[(x :: T).length - 1]? = some x
        simp
      · exact step _ (nx_pass hp hu)
/-- The whole of Next. -/
def nxt {σ : Type} (u : σ → Int → Bool × σ) (pin : Int) (L : List Int) (s : σ) : Option Int × Nat × List Int × σ := nx u pin (2 * L.length + 1) L s 0
theorem nxt_nil {σ : Type} (u : σ → Int → Bool × σ) (pin : Int) (s : σ) : nxt u pin [] s = (none, 0, [], s) := rfl
theorem Ok.next {σ : Type} {u : σ → Int → Bool × σ} {pin : Int} {L : List Int} {s : σ} (h : Ok L) : Ok (nxt u pin L s).2.2.1 := by
  obtain ⟨j, _, _, h3, _⟩ := nx_rt u pin (2 * L.length + 1) L s 0
  unfold nxt
  rw [h3]
  exact h.perm (rt_perm L j)
end Go.Proofs.Ytimeoinmepfpnaa.Ri
