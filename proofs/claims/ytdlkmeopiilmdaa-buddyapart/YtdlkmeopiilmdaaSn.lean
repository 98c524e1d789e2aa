/- What a buddy has: the free blocks of each order, the taken ones, which places are open; what Take, Give and New make of these; no condition but those that each theorem names. -/
import Derived.Test.YtdlkmeopiilmdaaMt
namespace Go.Proofs.Ytdlkmeopiilmdaa
set_option linter.unusedVariables false

def pt {α : Type} (m : Nat → Option α) (j : Nat) (h : Option α) : Nat → Option α := fun i => if i = j then h else m i
/-- How many of the first n places are open. -/
def cnt (op : Nat → Bool) : Nat → Nat
  | 0 => 0
  | n + 1 => cnt op n + if op n then 1 else 0
/-- How many places the free blocks have. -/
def fr (L : Nat → List Nat) : Nat := (L 0).length + (L 1).length * 2 + (L 2).length * 4 + (L 3).length * 8 + (L 4).length * 16 + (L 5).length * 32 + (L 6).length * 64
structure St (n : Nat) (op : Nat → Bool) (L : Nat → List Nat) (tk : Nat → Option Nat) : Prop where
  fit : ∀ k, k ≤ 6 → Fit op k (L k)
  lt : ∀ i, op i = true → i < n
  tk1 : ∀ x o, tk x = some o → o ≤ 6 ∧ x % 2 ^ o = 0 ∧ x + 2 ^ o ≤ n ∧ ∀ i, i / 2 ^ o = x / 2 ^ o → op i = false
  tk2 : ∀ x o y u i, tk x = some o → tk y = some u → i / 2 ^ o = x / 2 ^ o → i / 2 ^ u = y / 2 ^ u → x = y
  tk3 : ∀ i, i < n → op i = false → ∃ x o, tk x = some o ∧ i / 2 ^ o = x / 2 ^ o
  cn : cnt op n = fr L
theorem six {k : Nat} (h : k ≤ 6) : k = 0 ∨ k = 1 ∨ k = 2 ∨ k = 3 ∨ k = 4 ∨ k = 5 ∨ k = 6 := by omega
theorem mod_mul_div {x k : Nat} (h : x % 2 ^ k = 0) : x / 2 ^ k * 2 ^ k = x := Nat.div_mul_cancel (Nat.dvd_of_mod_eq_zero h)
theorem mul_mod (q k : Nat) : q * 2 ^ k % 2 ^ k = 0 := Nat.mul_mod_left _ _
/-- Places of a block. -/
theorem div_eq_iff {i q k : Nat} : i / 2 ^ k = q ↔ q * 2 ^ k ≤ i ∧ i < q * 2 ^ k + 2 ^ k := by
  have h := Nat.two_pow_pos k
  constructor
  · rintro rfl
    have h1 := Nat.div_add_mod i (2 ^ k)
    have h2 := Nat.mod_lt i h
    rw [Nat.mul_comm] at h1
    omega
  · rintro ⟨h1, h2⟩
    exact Nat.div_eq_of_lt_le h1 (by rw [Nat.add_mul]; omega)
theorem wh_of {op : Nat → Bool} {k x : Nat} (h : x % 2 ^ k = 0) : wh op k (x / 2 ^ k) ↔ ∀ i, x ≤ i → i < x + 2 ^ k → op i = true := by
  have e := mod_mul_div h
  constructor
  · intro a i h1 h2
    exact a i (div_eq_iff.2 (by rw [e]; exact ⟨h1, h2⟩))
  · intro a i hi
    have := div_eq_iff.1 hi
    rw [e] at this
    exact a i this.1 this.2
theorem wh_le {n : Nat} {op : Nat → Bool} (hl : ∀ i, op i = true → i < n) {k x : Nat} (h : x % 2 ^ k = 0) (hw : wh op k (x / 2 ^ k)) : x + 2 ^ k ≤ n := by
  have hp := Nat.two_pow_pos k
  have := hl _ ((wh_of h).1 hw (x + 2 ^ k - 1) (by omega) (by omega))
  omega
/-! ### Counting -/
theorem cnt_block (o p : Nat) : ∀ n, cnt (fun i => decide (i / 2 ^ o = p)) n = min (n - p * 2 ^ o) (2 ^ o)
  | 0 => by simp [cnt]
  | n + 1 => by
    rw [cnt, cnt_block o p n]
    have h := @div_eq_iff n p o
    by_cases e : n / 2 ^ o = p
    · have := h.1 e
      simp [e]
      omega
    · have : ¬ (p * 2 ^ o ≤ n ∧ n < p * 2 ^ o + 2 ^ o) := fun a => e (h.2 a)
      simp [e]
      omega
theorem cnt_shut {op : Nat → Bool} {o p : Nat} (h : wh op o p) : ∀ n, cnt (shut op o p) n + cnt (fun i => decide (i / 2 ^ o = p)) n = cnt op n
  | 0 => rfl
  | n + 1 => by
    have ih := cnt_shut h n
    simp only [cnt]
    by_cases e : n / 2 ^ o = p
    · have h1 := h n e
      simp [shut, e, h1]
      omega
    · simp only [shut, e]
      simp
      omega
theorem cnt_cut {op : Nat → Bool} {o p n : Nat} (h : wh op o p) (hn : p * 2 ^ o + 2 ^ o ≤ n) : cnt (shut op o p) n + 2 ^ o = cnt op n := by
  rw [← cnt_shut h n, cnt_block]
  omega
theorem fr_cut {a b : Nat → List Nat} {o k : Nat} (ho : o ≤ k) (hk : k ≤ 6) (h1 : (b k).length + 1 = (a k).length) (h2 : ∀ i, o ≤ i → i < k → (b i).length = (a i).length + 1) (h3 : ∀ i, i < o ∨ k < i → (b i).length = (a i).length) : fr b + 2 ^ o = fr a := by
  have g : ∀ i, (o ≤ i ∧ i < k → (b i).length = (a i).length + 1) ∧ (i < o ∨ k < i → (b i).length = (a i).length) := fun i => ⟨fun h => h2 i h.1 h.2, h3 i⟩
  have g0 := g 0
  have g1 := g 1
  have g2 := g 2
  have g3 := g 3
  have g4 := g 4
  have g5 := g 5
  have g6 := g 6
  clear g h2 h3
  unfold fr
  rcases six hk with rfl | rfl | rfl | rfl | rfl | rfl | rfl <;> rcases six (show o ≤ 6 by omega) with rfl | rfl | rfl | rfl | rfl | rfl | rfl <;> simp only [Nat.reducePow] <;> omega
/-! ### Take -/
def tkL (L : Nat → List Nat) (o k a : Nat) : Nat → List Nat := fun i => if i = k then (L k).tail else if o ≤ i ∧ i < k then L i ++ [a + 2 ^ i] else L i
theorem pow_dvd_mod {x i k : Nat} (h : x % 2 ^ k = 0) (hi : i ≤ k) : x % 2 ^ i = 0 :=
  Nat.mod_eq_zero_of_dvd (Nat.dvd_trans (Nat.pow_dvd_pow 2 hi) (Nat.dvd_of_mod_eq_zero h))
theorem sib_even {x i k : Nat} (h : x % 2 ^ k = 0) (hi : i < k) : sib (x / 2 ^ i) = x / 2 ^ i + 1 := by
  have h1 := pow_dvd_mod h (show i + 1 ≤ k by omega)
  have h2 : x / 2 ^ i % 2 = 0 := by
    have e1 := mod_mul_div h1
    have e2 : x / 2 ^ i = x / 2 ^ (i + 1) * 2 := by
      conv => lhs; rw [← e1]
      rw [Nat.pow_succ, Nat.mul_comm (2 ^ i) 2, ← Nat.mul_assoc, Nat.mul_div_cancel _ (Nat.two_pow_pos i)]
    omega
  simp [sib, h2]
theorem St.head {n : Nat} {op : Nat → Bool} {L : Nat → List Nat} {tk : Nat → Option Nat} (h : St n op L tk) {k a : Nat} {r : List Nat} (hk : k ≤ 6) (hL : L k = a :: r) : a % 2 ^ k = 0 ∧ mx op k (a / 2 ^ k) ∧ a + 2 ^ k ≤ n := by
  have h1 := ((h.fit k hk).2 a).1 (by rw [hL]; simp)
  exact ⟨h1.1, h1.2, wh_le h.lt h1.1 h1.2.1⟩
theorem St.fit_take {n : Nat} {op : Nat → Bool} {L : Nat → List Nat} {tk : Nat → Option Nat} (h : St n op L tk) {o k a : Nat} {r : List Nat} (ho : o ≤ k) (hk : k ≤ 6) (he : ∀ i, o ≤ i → i < k → L i = []) (hL : L k = a :: r) :
    ∀ i, i ≤ 6 → Fit (shut op o (a / 2 ^ o)) i (tkL L o k a i) := by
  obtain ⟨ha, hm, hn⟩ := h.head hk hL
  have hp : a / 2 ^ o / 2 ^ (k - o) = a / 2 ^ k := (div_up a o k ho).symm
  intro i hi
  have hF := h.fit i hi
  have C := cut hm ho hk hp i
  unfold tkL
  by_cases e : i = k
  · subst e
    rw [if_pos rfl]
    have hF2 := hF
    rw [hL] at hF
    have hpw := List.pairwise_cons.1 hF.1
    rw [hL, List.tail_cons]
    refine ⟨hpw.2, fun x => ?_⟩
    rw [C (x / 2 ^ i) hi]
    constructor
    · intro hx
      have h1 := (hF.2 x).1 (List.mem_cons_of_mem _ hx)
      refine ⟨h1.1, Or.inl ⟨h1.2, ?_⟩⟩
      rintro ⟨_, e2⟩
      have e3 := mod_mul_div h1.1
      have e4 := mod_mul_div ha
      rw [e2, e4] at e3
      have := hpw.1 x hx
      omega
    · rintro ⟨h1, h2 | h2⟩
      · rcases List.mem_cons.1 ((hF.2 x).2 ⟨h1, h2.1⟩) with e3 | e3
        · exact absurd ⟨rfl, by rw [e3]⟩ h2.2
        · exact e3
      · omega
  · rw [if_neg e]
    by_cases e2 : o ≤ i ∧ i < k
    · rw [if_pos e2, he i e2.1 e2.2]
      have hai := pow_dvd_mod ha (show i ≤ k by omega)
      refine ⟨by simp, fun x => ?_⟩
      rw [C (x / 2 ^ i) hi, ← div_up a o i e2.1, sib_even ha e2.2]
      have e3 := mod_mul_div hai
      have hpos := Nat.two_pow_pos i
      simp only [List.nil_append, List.mem_singleton]
      constructor
      · rintro rfl
        refine ⟨by rw [Nat.add_mod_right]; exact hai, Or.inr ⟨e2.1, e2.2, ?_⟩⟩
        rw [Nat.add_div_right _ hpos]
      · rintro ⟨h1, h2 | h2⟩
        · have := (hF.2 x).2 ⟨h1, h2.1⟩
          rw [he i e2.1 e2.2] at this
          simp at this
        · have e4 := mod_mul_div h1
          rw [h2.2.2, Nat.add_mul, e3, Nat.one_mul] at e4
          exact e4.symm
    · rw [if_neg e2]
      refine ⟨hF.1, fun x => ?_⟩
      rw [hF.2 x, C (x / 2 ^ i) hi]
      constructor
      · exact fun a => ⟨a.1, Or.inl ⟨a.2, fun b => e b.1⟩⟩
      · rintro ⟨a, b | b⟩
        · exact ⟨a, b.1⟩
        · exact absurd ⟨b.1, b.2.1⟩ e2
theorem St.take {n : Nat} {op : Nat → Bool} {L : Nat → List Nat} {tk : Nat → Option Nat} (h : St n op L tk) {o k a : Nat} {r : List Nat} (ho : o ≤ k) (hk : k ≤ 6) (he : ∀ i, o ≤ i → i < k → L i = []) (hL : L k = a :: r) :
    St n (shut op o (a / 2 ^ o)) (tkL L o k a) (pt tk a (some o)) ∧ wh op o (a / 2 ^ o) ∧ a % 2 ^ o = 0 ∧ a + 2 ^ o ≤ n ∧ tk a = none ∧ fr (tkL L o k a) + 2 ^ o = fr L := by
  obtain ⟨ha, hm, hn⟩ := h.head hk hL
  have hao := pow_dvd_mod ha ho
  have hw : wh op o (a / 2 ^ o) := wh_down hm.1 ho (div_up a o k ho).symm
  have hn' := wh_le h.lt hao hw
  have hop : ∀ i, i / 2 ^ o = a / 2 ^ o → op i = true := hw
  have hpa : a / 2 ^ o = a / 2 ^ o := rfl
  have htk : tk a = none := by
    cases e : tk a with
    | none => rfl
    | some u =>
      have h1 := (h.tk1 a u e).2.2.2 a rfl
      rw [hw a rfl] at h1
      cases h1
  have hsh : ∀ i, shut op o (a / 2 ^ o) i = true → op i = true := by
    intro i hi
    unfold shut at hi
    split at hi
    · cases hi
    · exact hi
  have hfr : fr (tkL L o k a) + 2 ^ o = fr L := by
    refine fr_cut ho hk ?_ ?_ ?_
    · simp [tkL, hL]
    · intro i h1 h2
      have : i ≠ k := by omega
      simp [tkL, this, h1, h2]
    · intro i h1
      have h2 : i ≠ k := by omega
      have h3 : ¬ (o ≤ i ∧ i < k) := by omega
      simp only [tkL, h2, if_false, h3]
  refine ⟨⟨h.fit_take ho hk he hL, fun i hi => h.lt i (hsh i hi), ?_, ?_, ?_, ?_⟩, hw, hao, hn', htk, hfr⟩
  · intro x u hx
    unfold pt at hx
    by_cases e : x = a
    · subst e
      rw [if_pos rfl] at hx
      cases hx
      refine ⟨by omega, hao, hn', fun i hi => ?_⟩
      simp [shut, hi]
    · rw [if_neg e] at hx
      obtain ⟨h1, h2, h3, h4⟩ := h.tk1 x u hx
      refine ⟨h1, h2, h3, fun i hi => ?_⟩
      have := h4 i hi
      unfold shut
      split
      · rfl
      · exact this
  · intro x u y v i hx hy h1 h2
    unfold pt at hx hy
    by_cases e : x = a
    · subst e
      rw [if_pos rfl] at hx
      cases hx
      by_cases e' : y = x
      · exact e'.symm
      · rw [if_neg e'] at hy
        have h3 := (h.tk1 y v hy).2.2.2 i h2
        rw [hw i h1] at h3
        cases h3
    · rw [if_neg e] at hx
      by_cases e' : y = a
      · subst e'
        rw [if_pos rfl] at hy
        cases hy
        have h3 := (h.tk1 x u hx).2.2.2 i h1
        rw [hw i h2] at h3
        cases h3
      · rw [if_neg e'] at hy
        exact h.tk2 x u y v i hx hy h1 h2
  · intro i hi hc
    by_cases e : i / 2 ^ o = a / 2 ^ o
    · exact ⟨a, o, by simp [pt], e⟩
    · have h1 : op i = false := by simpa [shut, e] using hc
      obtain ⟨x, u, h2, h3⟩ := h.tk3 i hi h1
      refine ⟨x, u, ?_, h3⟩
      unfold pt
      rw [if_neg]
      · exact h2
      · intro e2
        rw [e2, htk] at h2
        cases h2
  · have h1 := cnt_cut (n := n) hw (by rw [mod_mul_div hao]; exact hn')
    have h2 := h.cn
    omega
end Go.Proofs.Ytdlkmeopiilmdaa
