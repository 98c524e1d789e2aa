/- Blocks of places: which are free wholly, which of these are the greatest, and what becomes of them where one block within a greatest one is taken; no condition but those that each theorem names. -/
import Derived.Test.YtdlkmeopiilmdaaRows
namespace Go.Proofs.Ytdlkmeopiilmdaa
set_option linter.unusedVariables false

/-- All places of the block number q of the order k are open. -/
def wh (op : Nat → Bool) (k q : Nat) : Prop := ∀ i, i / 2 ^ k = q → op i = true
/-- It is open, and the one above it is not (or there is none). -/
def mx (op : Nat → Bool) (k q : Nat) : Prop := wh op k q ∧ (k < 6 → ¬ wh op (k + 1) (q / 2))
/-- The blocks have a place together. -/
def meets (i q o p : Nat) : Prop := ∃ x, x / 2 ^ i = q ∧ x / 2 ^ o = p
/-- One block's places closed. -/
def shut (op : Nat → Bool) (o p : Nat) : Nat → Bool := fun i => if i / 2 ^ o = p then false else op i
/-- One block's places opened. -/
def opened (op : Nat → Bool) (o p : Nat) : Nat → Bool := fun i => if i / 2 ^ o = p then true else op i
/-- The buddy's number. -/
def sib (r : Nat) : Nat := if r % 2 = 0 then r + 1 else r - 1

theorem div_up (x i j : Nat) (h : i ≤ j) : x / 2 ^ j = x / 2 ^ i / 2 ^ (j - i) := by
  rw [Nat.div_div_eq_div_mul, ← Nat.pow_add, show i + (j - i) = j by omega]
theorem div_up1 (x i : Nat) : x / 2 ^ (i + 1) = x / 2 ^ i / 2 := by
  rw [div_up x i (i + 1) (by omega), show i + 1 - i = 1 by omega]
theorem mul_div (q k : Nat) : q * 2 ^ k / 2 ^ k = q := Nat.mul_div_cancel _ (Nat.two_pow_pos k)
theorem meets_le {i q o p : Nat} (h : i ≤ o) : meets i q o p ↔ q / 2 ^ (o - i) = p := by
  constructor
  · rintro ⟨x, rfl, rfl⟩
    exact (div_up x i o h).symm
  · intro e
    exact ⟨q * 2 ^ i, mul_div q i, by rw [div_up _ i o h, mul_div, e]⟩
theorem meets_ge {i q o p : Nat} (h : o ≤ i) : meets i q o p ↔ p / 2 ^ (i - o) = q := by
  constructor
  · rintro ⟨x, rfl, rfl⟩
    exact (div_up x o i h).symm
  · intro e
    exact ⟨p * 2 ^ o, by rw [div_up _ o i h, mul_div, e], mul_div p o⟩
theorem wh_shut (op : Nat → Bool) (o p i q : Nat) : wh (shut op o p) i q ↔ wh op i q ∧ ¬ meets i q o p := by
  constructor
  · intro h
    refine ⟨fun x hx => ?_, ?_⟩
    · have := h x hx
      unfold shut at this
      split at this
      · cases this
      · exact this
    · rintro ⟨x, h1, h2⟩
      have := h x h1
      simp [shut, h2] at this
  · rintro ⟨h1, h2⟩ x hx
    have h3 : ¬ x / 2 ^ o = p := fun e => h2 ⟨x, hx, e⟩
    simp [shut, h3, h1 x hx]
/-- What lies within an open block is open. -/
theorem wh_down {op : Nat → Bool} {k q i r : Nat} (h : wh op k q) (hi : i ≤ k) (hr : r / 2 ^ (k - i) = q) : wh op i r := by
  intro x hx
  exact h x (by rw [div_up x i k hi, hx, hr])
theorem sib_iff (r q : Nat) : q = sib r ↔ r ≠ q ∧ r / 2 = q / 2 := by
  unfold sib
  split <;> omega
theorem sib_half (r : Nat) : sib r / 2 = r / 2 := by
  unfold sib
  split <;> omega
theorem half_up (q i k : Nat) (h : i < k) : q / 2 / 2 ^ (k - (i + 1)) = q / 2 ^ (k - i) := by
  rw [show k - i = (k - (i + 1)) + 1 by omega, Nat.pow_succ, Nat.mul_comm, ← Nat.div_div_eq_div_mul]
/-- THE CUT: what the greatest open blocks are where one block (order o, number p) within a greatest open one (order k, number K) is closed. -/
theorem cut {op : Nat → Bool} {o p k K : Nat} (hm : mx op k K) (ho : o ≤ k) (hk : k ≤ 6) (hp : p / 2 ^ (k - o) = K) (i q : Nat) (hi : i ≤ 6) :
    mx (shut op o p) i q ↔ (mx op i q ∧ ¬ (i = k ∧ q = K)) ∨ (o ≤ i ∧ i < k ∧ q = sib (p / 2 ^ (i - o))) := by
  -- nothing above the greatest one is open
  have above : ∀ j r, k < j → j ≤ 6 → meets j r k K → ¬ wh op j r := by
    intro j r h1 h2 h3 h4
    rw [meets_ge (by omega)] at h3
    refine hm.2 (by omega) (wh_down h4 (show k + 1 ≤ j by omega) ?_)
    rw [half_up K k j h1]
    exact h3
  have inK : ∀ j r, meets j r o p → meets j r k K := by
    rintro j r ⟨x, h1, h2⟩
    exact ⟨x, h1, by rw [div_up x o k ho, h2, hp]⟩
  -- a block apart from K: as it was
  have apart : ∀ j r, ¬ meets j r k K → (wh (shut op o p) j r ↔ wh op j r) := by
    intro j r h
    rw [wh_shut]
    exact ⟨fun a => a.1, fun a => ⟨a, fun b => h (inK j r b)⟩⟩
  have notup : ∀ j r, k < j → j ≤ 6 → meets j r k K → ¬ wh (shut op o p) j r := fun j r h1 h2 h3 h4 => above j r h1 h2 h3 ((wh_shut _ _ _ _ _).1 h4).1
  have up : ∀ j r, k ≤ j → j ≤ 6 → ¬ meets j r k K → (mx (shut op o p) j r ↔ mx op j r) := by
    intro j r h1 h2 h3
    unfold mx
    rw [apart j r h3]
    by_cases h4 : meets (j + 1) (r / 2) k K
    · constructor
      · exact fun a => ⟨a.1, fun b => above _ _ (by omega) (by omega) h4⟩
      · exact fun a => ⟨a.1, fun b => notup _ _ (by omega) (by omega) h4⟩
    · rw [apart _ _ h4]
  by_cases hik : k ≤ i
  · by_cases hme : meets i q k K
    · have e1 := (meets_ge hik).1 hme
      by_cases e : i = k
      · subst e
        rw [Nat.sub_self, Nat.pow_zero, Nat.div_one] at e1
        subst e1
        constructor
        · intro a
          exact absurd ⟨p * 2 ^ o, by rw [div_up _ o i ho, mul_div, hp], mul_div p o⟩ ((wh_shut _ _ _ _ _).1 a.1).2
        · rintro (a | a)
          · exact absurd ⟨rfl, rfl⟩ a.2
          · omega
      · constructor
        · intro a
          exact absurd a.1 (notup i q (by omega) hi hme)
        · rintro (a | a)
          · exact absurd a.1.1 (above i q (by omega) hi hme)
          · omega
    · rw [up i q hik hi hme]
      constructor
      · intro a
        refine Or.inl ⟨a, ?_⟩
        rintro ⟨rfl, rfl⟩
        exact hme ⟨q * 2 ^ i, mul_div _ _, mul_div _ _⟩
      · rintro (a | a)
        · exact a.1
        · omega
  · have hlt : i < k := by omega
    by_cases hin : q / 2 ^ (k - i) = K
    · have w1 : wh op i q := wh_down hm.1 (by omega) hin
      have w2 : wh op (i + 1) (q / 2) := wh_down hm.1 (by omega) (by rw [half_up q i k hlt, hin])
      have n1 : ¬ mx op i q := fun a => a.2 (by omega) w2
      have L : mx (shut op o p) i q ↔ ¬ meets i q o p ∧ meets (i + 1) (q / 2) o p := by
        unfold mx
        rw [wh_shut, wh_shut]
        constructor
        · intro a
          refine ⟨a.1.2, ?_⟩
          by_cases b : meets (i + 1) (q / 2) o p
          · exact b
          · exact absurd ⟨w2, b⟩ (a.2 (by omega))
        · rintro ⟨a, b⟩
          exact ⟨⟨w1, a⟩, fun _ c => c.2 b⟩
      rw [L]
      by_cases hoi : o ≤ i
      · rw [meets_ge hoi, meets_ge (show o ≤ i + 1 by omega), show i + 1 - o = (i - o) + 1 by omega, Nat.pow_succ, ← Nat.div_div_eq_div_mul, sib_iff]
        constructor
        · intro a
          exact Or.inr ⟨hoi, hlt, a⟩
        · rintro (a | a)
          · exact absurd a.1 n1
          · exact a.2.2
      · rw [meets_le (show i ≤ o by omega), meets_le (show i + 1 ≤ o by omega), half_up q i o (by omega)]
        constructor
        · exact fun a => absurd a.2 a.1
        · rintro (a | a)
          · exact absurd a.1 n1
          · omega
    · have m1 : ¬ meets i q k K := fun a => hin ((meets_le (by omega)).1 a)
      have m2 : ¬ meets (i + 1) (q / 2) k K := fun a => hin (by have := (meets_le (show i + 1 ≤ k by omega)).1 a; rwa [half_up q i k hlt] at this)
      have e : mx (shut op o p) i q ↔ mx op i q := by
        unfold mx
        rw [apart _ _ m1, apart _ _ m2]
      rw [e]
      constructor
      · exact fun a => Or.inl ⟨a, by omega⟩
      · rintro (a | ⟨a, _, b⟩)
        · exact a.1
        · have h2 := (sib_iff _ _).1 b
          refine absurd ?_ hin
          rw [← half_up q i k hlt, ← h2.2, half_up _ i k hlt, Nat.div_div_eq_div_mul, ← Nat.pow_add, show i - o + (k - i) = k - o by omega]
          exact hp
/-- What is opened again is what was. -/
theorem shut_opened {op : Nat → Bool} {o p : Nat} (h : ∀ i, i / 2 ^ o = p → op i = false) : shut (opened op o p) o p = op := by
  funext i
  unfold shut opened
  by_cases e : i / 2 ^ o = p
  · rw [if_pos e, h i e]
  · rw [if_neg e, if_neg e]
theorem opened_shut {op : Nat → Bool} {o p : Nat} (h : wh op o p) : opened (shut op o p) o p = op := by
  funext i
  unfold shut opened
  by_cases e : i / 2 ^ o = p
  · rw [if_pos e, h i e]
  · rw [if_neg e]
    simp [e]
/-- Each open block lies within a greatest one. -/
theorem climb {op : Nat → Bool} : ∀ (d k q : Nat), k + d = 6 → wh op k q → ∃ j, k ≤ j ∧ j ≤ 6 ∧ mx op j (q / 2 ^ (j - k))
  | 0, k, q, h, hw => ⟨k, by omega, by omega, by rw [Nat.sub_self, Nat.pow_zero, Nat.div_one]; exact ⟨hw, by omega⟩⟩
  | d + 1, k, q, h, hw => by
    by_cases e : wh op (k + 1) (q / 2)
    · obtain ⟨j, h1, h2, h3⟩ := climb d (k + 1) (q / 2) (by omega) e
      refine ⟨j, by omega, h2, ?_⟩
      rwa [half_up q k j (by omega)] at h3
    · exact ⟨k, by omega, by omega, by rw [Nat.sub_self, Nat.pow_zero, Nat.div_one]; exact ⟨hw, fun _ => e⟩⟩
/-! ### Lists of the greatest blocks -/
/-- The first places of the greatest open blocks of the order k, rising. -/
def Fit (op : Nat → Bool) (k : Nat) (l : List Nat) : Prop := l.Pairwise (· < ·) ∧ ∀ x, x ∈ l ↔ x % 2 ^ k = 0 ∧ mx op k (x / 2 ^ k)
theorem lt_ext : ∀ (a b : List Nat), a.Pairwise (· < ·) → b.Pairwise (· < ·) → (∀ x, x ∈ a ↔ x ∈ b) → a = b
  | [], [], _, _, _ => rfl
  | [], y :: b, _, _, h => by have := (h y).2 (by simp); simp at this
  | x :: a, [], _, _, h => by have := (h x).1 (by simp); simp at this
  | x :: a, y :: b, ha, hb, h => by
    rw [List.pairwise_cons] at ha hb
    have e : x = y := by
      rcases List.mem_cons.1 ((h x).1 (by simp)) with e | e
      · exact e
      · rcases List.mem_cons.1 ((h y).2 (by simp)) with e' | e'
        · exact e'.symm
        · have h1 := hb.1 x e
          have h2 := ha.1 y e'
          omega
    subst e
    rw [lt_ext a b ha.2 hb.2]
    intro z
    constructor
    · intro hz
      have h1 := ha.1 z hz
      rcases List.mem_cons.1 ((h z).1 (List.mem_cons_of_mem _ hz)) with q | q
      · omega
      · exact q
    · intro hz
      have h1 := hb.1 z hz
      rcases List.mem_cons.1 ((h z).2 (List.mem_cons_of_mem _ hz)) with q | q
      · omega
      · exact q
theorem Fit.uniq {op : Nat → Bool} {k : Nat} {a b : List Nat} (ha : Fit op k a) (hb : Fit op k b) : a = b :=
  lt_ext a b ha.1 hb.1 (fun x => by rw [ha.2, hb.2])
theorem Fit.nodup {op : Nat → Bool} {k : Nat} {a : List Nat} (ha : Fit op k a) : a.Nodup := ha.1.imp (fun h => by omega)
end Go.Proofs.Ytdlkmeopiilmdaa
