/- Blocks of places: which are free wholly, which of these are the greatest, and what becomes of them where one block within a greatest one is taken; no condition but those that each theorem names. -/
import Derived.Test.YtkbpnkjjmipjfaaGreatRows
import Derived.WalkKit
import Derived.Shelf.Spec.SlicesInsertGrow
import Derived.Shelf.Slices.Delete
import Derived.Shelf.Slices.Clone
import Derived.Shelf.Slices.SearchI
import Derived.Shelf.Slices.Empties
namespace Go.Proofs.YtkbpnkjjmipjfaaGreat.B
set_option linter.unusedVariables false

def wh (op : Nat → Bool) (k q : Nat) : Prop := ∀ i, i / 2 ^ k = q → op i = true
def mx (op : Nat → Bool) (k q : Nat) : Prop := wh op k q ∧ (k < 6 → ¬ wh op (k + 1) (q / 2))
def meets (i q o p : Nat) : Prop := ∃ x, x / 2 ^ i = q ∧ x / 2 ^ o = p
def shut (op : Nat → Bool) (o p : Nat) : Nat → Bool := fun i => if i / 2 ^ o = p then false else op i
def opened (op : Nat → Bool) (o p : Nat) : Nat → Bool := fun i => if i / 2 ^ o = p then true else op i
def sib (r : Nat) : Nat := if r % 2 = 0 then r + 1 else r - 1

theorem div_up (x i j : Nat) (h : i ≤ j) : x / 2 ^ j = x / 2 ^ i / 2 ^ (j - i) := by
  rw [Nat.div_div_eq_div_mul, ← Nat.pow_add, show i + (j - i) = j by omega]
theorem div_up1 (x i : Nat) : x / 2 ^ (i + 1) = x / 2 ^ i / 2 := by
  rw [div_up x i (i + 1) (by omega), show i + 1 - i = 1 by omega]
theorem mul_div (q k : Nat) : q * 2 ^ k / 2 ^ k = q := Nat.mul_div_cancel _ (Nat.two_pow_pos k)
theorem meets_le {i q o p : Nat} (h : i ≤ o) : meets i q o p ↔ q / 2 ^ (o - i) = p := by
  constructor
  · rintro ⟨x, rfl, rfl⟩
    exact (div_up x i o h).symm
  · intro e
    exact ⟨q * 2 ^ i, mul_div q i, by rw [div_up _ i o h, mul_div, e]⟩
theorem meets_ge {i q o p : Nat} (h : o ≤ i) : meets i q o p ↔ p / 2 ^ (i - o) = q := by
  constructor
  · rintro ⟨x, rfl, rfl⟩
    exact (div_up x o i h).symm
  · intro e
    exact ⟨p * 2 ^ o, by rw [div_up _ o i h, mul_div, e], mul_div p o⟩
theorem wh_shut (op : Nat → Bool) (o p i q : Nat) : wh (shut op o p) i q ↔ wh op i q ∧ ¬ meets i q o p := by
  constructor
  · intro h
    refine ⟨fun x hx => ?_, ?_⟩
    · have := h x hx
      unfold shut at this
      split at this
      · cases this
      · exact this
    · rintro ⟨x, h1, h2⟩
      have := h x h1
      simp [shut, h2] at this
  · rintro ⟨h1, h2⟩ x hx
    have h3 : ¬ x / 2 ^ o = p := fun e => h2 ⟨x, hx, e⟩
    simp [shut, h3, h1 x hx]
theorem wh_down {op : Nat → Bool} {k q i r : Nat} (h : wh op k q) (hi : i ≤ k) (hr : r / 2 ^ (k - i) = q) : wh op i r := by
  intro x hx
  exact h x (by rw [div_up x i k hi, hx, hr])
theorem sib_iff (r q : Nat) : q = sib r ↔ r ≠ q ∧ r / 2 = q / 2 := by
  unfold sib
  split <;> omega
theorem sib_half (r : Nat) : sib r / 2 = r / 2 := by
  unfold sib
  split <;> omega
theorem half_up (q i k : Nat) (h : i < k) : q / 2 / 2 ^ (k - (i + 1)) = q / 2 ^ (k - i) := by
  rw [show k - i = (k - (i + 1)) + 1 by omega, Nat.pow_succ, Nat.mul_comm, ← Nat.div_div_eq_div_mul]
theorem cut {op : Nat → Bool} {o p k K : Nat} (hm : mx op k K) (ho : o ≤ k) (hk : k ≤ 6) (hp : p / 2 ^ (k - o) = K) (i q : Nat) (hi : i ≤ 6) :
    mx (shut op o p) i q ↔ (mx op i q ∧ ¬ (i = k ∧ q = K)) ∨ (o ≤ i ∧ i < k ∧ q = sib (p / 2 ^ (i - o))) := by
  -- nothing above the greatest one is open
  have above : ∀ j r, k < j → j ≤ 6 → meets j r k K → ¬ wh op j r := by
    intro j r h1 h2 h3 h4
    rw [meets_ge (by omega)] at h3
    refine hm.2 (by omega) (wh_down h4 (show k + 1 ≤ j by omega) ?_)
    rw [half_up K k j h1]
    exact h3
  have inK : ∀ j r, meets j r o p → meets j r k K := by
    rintro j r ⟨x, h1, h2⟩
    exact ⟨x, h1, by rw [div_up x o k ho, h2, hp]⟩
  -- a block apart from K: as it was
  have apart : ∀ j r, ¬ meets j r k K → (wh (shut op o p) j r ↔ wh op j r) := by
    intro j r h
    rw [wh_shut]
    exact ⟨fun a => a.1, fun a => ⟨a, fun b => h (inK j r b)⟩⟩
  have notup : ∀ j r, k < j → j ≤ 6 → meets j r k K → ¬ wh (shut op o p) j r := fun j r h1 h2 h3 h4 => above j r h1 h2 h3 ((wh_shut _ _ _ _ _).1 h4).1
  have up : ∀ j r, k ≤ j → j ≤ 6 → ¬ meets j r k K → (mx (shut op o p) j r ↔ mx op j r) := by
    intro j r h1 h2 h3
    unfold mx
    rw [apart j r h3]
    by_cases h4 : meets (j + 1) (r / 2) k K
    · constructor
      · exact fun a => ⟨a.1, fun b => above _ _ (by omega) (by omega) h4⟩
      · exact fun a => ⟨a.1, fun b => notup _ _ (by omega) (by omega) h4⟩
    · rw [apart _ _ h4]
  by_cases hik : k ≤ i
  · by_cases hme : meets i q k K
    · have e1 := (meets_ge hik).1 hme
      by_cases e : i = k
      · subst e
        rw [Nat.sub_self, Nat.pow_zero, Nat.div_one] at e1
        subst e1
        constructor
        · intro a
          exact absurd ⟨p * 2 ^ o, by rw [div_up _ o i ho, mul_div, hp], mul_div p o⟩ ((wh_shut _ _ _ _ _).1 a.1).2
        · rintro (a | a)
          · exact absurd ⟨rfl, rfl⟩ a.2
          · omega
      · constructor
        · intro a
          exact absurd a.1 (notup i q (by omega) hi hme)
        · rintro (a | a)
          · exact absurd a.1.1 (above i q (by omega) hi hme)
          · omega
    · rw [up i q hik hi hme]
      constructor
      · intro a
        refine Or.inl ⟨a, ?_⟩
        rintro ⟨rfl, rfl⟩
        exact hme ⟨q * 2 ^ i, mul_div _ _, mul_div _ _⟩
      · rintro (a | a)
        · exact a.1
        · omega
  · have hlt : i < k := by omega
    by_cases hin : q / 2 ^ (k - i) = K
    · have w1 : wh op i q := wh_down hm.1 (by omega) hin
      have w2 : wh op (i + 1) (q / 2) := wh_down hm.1 (by omega) (by rw [half_up q i k hlt, hin])
      have n1 : ¬ mx op i q := fun a => a.2 (by omega) w2
      have L : mx (shut op o p) i q ↔ ¬ meets i q o p ∧ meets (i + 1) (q / 2) o p := by
        unfold mx
        rw [wh_shut, wh_shut]
        constructor
        · intro a
          refine ⟨a.1.2, ?_⟩
          by_cases b : meets (i + 1) (q / 2) o p
          · exact b
          · exact absurd ⟨w2, b⟩ (a.2 (by omega))
        · rintro ⟨a, b⟩
          exact ⟨⟨w1, a⟩, fun _ c => c.2 b⟩
      rw [L]
      by_cases hoi : o ≤ i
      · rw [meets_ge hoi, meets_ge (show o ≤ i + 1 by omega), show i + 1 - o = (i - o) + 1 by omega, Nat.pow_succ, ← Nat.div_div_eq_div_mul, sib_iff]
        constructor
        · intro a
          exact Or.inr ⟨hoi, hlt, a⟩
        · rintro (a | a)
          · exact absurd a.1 n1
          · exact a.2.2
      · rw [meets_le (show i ≤ o by omega), meets_le (show i + 1 ≤ o by omega), half_up q i o (by omega)]
        constructor
        · exact fun a => absurd a.2 a.1
        · rintro (a | a)
          · exact absurd a.1 n1
          · omega
    · have m1 : ¬ meets i q k K := fun a => hin ((meets_le (by omega)).1 a)
      have m2 : ¬ meets (i + 1) (q / 2) k K := fun a => hin (by have := (meets_le (show i + 1 ≤ k by omega)).1 a; rwa [half_up q i k hlt] at this)
      have e : mx (shut op o p) i q ↔ mx op i q := by
        unfold mx
        rw [apart _ _ m1, apart _ _ m2]
      rw [e]
      constructor
      · exact fun a => Or.inl ⟨a, by omega⟩
      · rintro (a | ⟨a, _, b⟩)
        · exact a.1
        · have h2 := (sib_iff _ _).1 b
          refine absurd ?_ hin
          rw [← half_up q i k hlt, ← h2.2, half_up _ i k hlt, Nat.div_div_eq_div_mul, ← Nat.pow_add, show i - o + (k - i) = k - o by omega]
          exact hp
theorem shut_opened {op : Nat → Bool} {o p : Nat} (h : ∀ i, i / 2 ^ o = p → op i = false) : shut (opened op o p) o p = op := by
  funext i
  unfold shut opened
  by_cases e : i / 2 ^ o = p
  · rw [if_pos e, h i e]
  · rw [if_neg e, if_neg e]
theorem climb {op : Nat → Bool} : ∀ (d k q : Nat), k + d = 6 → wh op k q → ∃ j, k ≤ j ∧ j ≤ 6 ∧ mx op j (q / 2 ^ (j - k))
  | 0, k, q, h, hw => ⟨k, by omega, by omega, by rw [Nat.sub_self, Nat.pow_zero, Nat.div_one]; exact ⟨hw, by omega⟩⟩
  | d + 1, k, q, h, hw => by
    by_cases e : wh op (k + 1) (q / 2)
    · obtain ⟨j, h1, h2, h3⟩ := climb d (k + 1) (q / 2) (by omega) e
      refine ⟨j, by omega, h2, ?_⟩
      rwa [half_up q k j (by omega)] at h3
    · exact ⟨k, by omega, by omega, by rw [Nat.sub_self, Nat.pow_zero, Nat.div_one]; exact ⟨hw, fun _ => e⟩⟩
def Fit (op : Nat → Bool) (k : Nat) (l : List Nat) : Prop := l.Pairwise (· < ·) ∧ ∀ x, x ∈ l ↔ x % 2 ^ k = 0 ∧ mx op k (x / 2 ^ k)
theorem Fit.nodup {op : Nat → Bool} {k : Nat} {a : List Nat} (ha : Fit op k a) : a.Nodup := ha.1.imp (fun h => by omega)
end Go.Proofs.YtkbpnkjjmipjfaaGreat.B
namespace Go.Proofs.YtkbpnkjjmipjfaaGreat.B
set_option linter.unusedVariables false

def pt {α : Type} (m : Nat → Option α) (j : Nat) (h : Option α) : Nat → Option α := fun i => if i = j then h else m i
def cnt (op : Nat → Bool) : Nat → Nat
  | 0 => 0
  | n + 1 => cnt op n + if op n then 1 else 0
def fr (L : Nat → List Nat) : Nat := (L 0).length + (L 1).length * 2 + (L 2).length * 4 + (L 3).length * 8 + (L 4).length * 16 + (L 5).length * 32 + (L 6).length * 64
structure St (n : Nat) (op : Nat → Bool) (L : Nat → List Nat) (tk : Nat → Option Nat) : Prop where
  fit : ∀ k, k ≤ 6 → Fit op k (L k)
  lt : ∀ i, op i = true → i < n
  tk1 : ∀ x o, tk x = some o → o ≤ 6 ∧ x % 2 ^ o = 0 ∧ x + 2 ^ o ≤ n ∧ ∀ i, i / 2 ^ o = x / 2 ^ o → op i = false
  tk2 : ∀ x o y u i, tk x = some o → tk y = some u → i / 2 ^ o = x / 2 ^ o → i / 2 ^ u = y / 2 ^ u → x = y
  tk3 : ∀ i, i < n → op i = false → ∃ x o, tk x = some o ∧ i / 2 ^ o = x / 2 ^ o
  cn : cnt op n = fr L
theorem six {k : Nat} (h : k ≤ 6) : k = 0 ∨ k = 1 ∨ k = 2 ∨ k = 3 ∨ k = 4 ∨ k = 5 ∨ k = 6 := by omega
theorem mod_mul_div {x k : Nat} (h : x % 2 ^ k = 0) : x / 2 ^ k * 2 ^ k = x := Nat.div_mul_cancel (Nat.dvd_of_mod_eq_zero h)
theorem mul_mod (q k : Nat) : q * 2 ^ k % 2 ^ k = 0 := Nat.mul_mod_left _ _
theorem div_eq_iff {i q k : Nat} : i / 2 ^ k = q ↔ q * 2 ^ k ≤ i ∧ i < q * 2 ^ k + 2 ^ k := by
  have h := Nat.two_pow_pos k
  constructor
  · rintro rfl
    have h1 := Nat.div_add_mod i (2 ^ k)
    have h2 := Nat.mod_lt i h
    rw [Nat.mul_comm] at h1
    omega
  · rintro ⟨h1, h2⟩
    exact Nat.div_eq_of_lt_le h1 (by rw [Nat.add_mul]; omega)
theorem wh_of {op : Nat → Bool} {k x : Nat} (h : x % 2 ^ k = 0) : wh op k (x / 2 ^ k) ↔ ∀ i, x ≤ i → i < x + 2 ^ k → op i = true := by
  have e := mod_mul_div h
  constructor
  · intro a i h1 h2
    exact a i (div_eq_iff.2 (by rw [e]; exact ⟨h1, h2⟩))
  · intro a i hi
    have := div_eq_iff.1 hi
    rw [e] at this
    exact a i this.1 this.2
theorem wh_le {n : Nat} {op : Nat → Bool} (hl : ∀ i, op i = true → i < n) {k x : Nat} (h : x % 2 ^ k = 0) (hw : wh op k (x / 2 ^ k)) : x + 2 ^ k ≤ n := by
  have hp := Nat.two_pow_pos k
  have := hl _ ((wh_of h).1 hw (x + 2 ^ k - 1) (by omega) (by omega))
  omega
theorem cnt_block (o p : Nat) : ∀ n, cnt (fun i => decide (i / 2 ^ o = p)) n = min (n - p * 2 ^ o) (2 ^ o)
  | 0 => by simp [cnt]
  | n + 1 => by
    rw [cnt, cnt_block o p n]
    have h := @div_eq_iff n p o
    by_cases e : n / 2 ^ o = p
    · have := h.1 e
      simp [e]
      omega
    · have : ¬ (p * 2 ^ o ≤ n ∧ n < p * 2 ^ o + 2 ^ o) := fun a => e (h.2 a)
      simp [e]
      omega
theorem cnt_shut {op : Nat → Bool} {o p : Nat} (h : wh op o p) : ∀ n, cnt (shut op o p) n + cnt (fun i => decide (i / 2 ^ o = p)) n = cnt op n
  | 0 => rfl
  | n + 1 => by
    have ih := cnt_shut h n
    simp only [cnt]
    by_cases e : n / 2 ^ o = p
    · have h1 := h n e
      simp [shut, e, h1]
      omega
    · simp only [shut, e]
      simp
      omega
theorem cnt_cut {op : Nat → Bool} {o p n : Nat} (h : wh op o p) (hn : p * 2 ^ o + 2 ^ o ≤ n) : cnt (shut op o p) n + 2 ^ o = cnt op n := by
  rw [← cnt_shut h n, cnt_block]
  omega
theorem fr_cut {a b : Nat → List Nat} {o k : Nat} (ho : o ≤ k) (hk : k ≤ 6) (h1 : (b k).length + 1 = (a k).length) (h2 : ∀ i, o ≤ i → i < k → (b i).length = (a i).length + 1) (h3 : ∀ i, i < o ∨ k < i → (b i).length = (a i).length) : fr b + 2 ^ o = fr a := by
  have g : ∀ i, (o ≤ i ∧ i < k → (b i).length = (a i).length + 1) ∧ (i < o ∨ k < i → (b i).length = (a i).length) := fun i => ⟨fun h => h2 i h.1 h.2, h3 i⟩
  have g0 := g 0
  have g1 := g 1
  have g2 := g 2
  have g3 := g 3
  have g4 := g 4
  have g5 := g 5
  have g6 := g 6
  clear g h2 h3
  unfold fr
  rcases six hk with rfl | rfl | rfl | rfl | rfl | rfl | rfl <;> rcases six (show o ≤ 6 by omega) with rfl | rfl | rfl | rfl | rfl | rfl | rfl <;> simp only [Nat.reducePow] <;> omega
def tkL (L : Nat → List Nat) (o k a : Nat) : Nat → List Nat := fun i => if i = k then (L k).tail else if o ≤ i ∧ i < k then L i ++ [a + 2 ^ i] else L i
theorem pow_dvd_mod {x i k : Nat} (h : x % 2 ^ k = 0) (hi : i ≤ k) : x % 2 ^ i = 0 :=
  Nat.mod_eq_zero_of_dvd (Nat.dvd_trans (Nat.pow_dvd_pow 2 hi) (Nat.dvd_of_mod_eq_zero h))
theorem sib_even {x i k : Nat} (h : x % 2 ^ k = 0) (hi : i < k) : sib (x / 2 ^ i) = x / 2 ^ i + 1 := by
  have h1 := pow_dvd_mod h (show i + 1 ≤ k by omega)
  have h2 : x / 2 ^ i % 2 = 0 := by
    have e1 := mod_mul_div h1
    have e2 : x / 2 ^ i = x / 2 ^ (i + 1) * 2 := by
      conv => lhs; rw [← e1]
      rw [Nat.pow_succ, Nat.mul_comm (2 ^ i) 2, ← Nat.mul_assoc, Nat.mul_div_cancel _ (Nat.two_pow_pos i)]
    omega
  simp [sib, h2]
theorem St.head {n : Nat} {op : Nat → Bool} {L : Nat → List Nat} {tk : Nat → Option Nat} (h : St n op L tk) {k a : Nat} {r : List Nat} (hk : k ≤ 6) (hL : L k = a :: r) : a % 2 ^ k = 0 ∧ mx op k (a / 2 ^ k) ∧ a + 2 ^ k ≤ n := by
  have h1 := ((h.fit k hk).2 a).1 (by rw [hL]; simp)
  exact ⟨h1.1, h1.2, wh_le h.lt h1.1 h1.2.1⟩
theorem St.fit_take {n : Nat} {op : Nat → Bool} {L : Nat → List Nat} {tk : Nat → Option Nat} (h : St n op L tk) {o k a : Nat} {r : List Nat} (ho : o ≤ k) (hk : k ≤ 6) (he : ∀ i, o ≤ i → i < k → L i = []) (hL : L k = a :: r) :
    ∀ i, i ≤ 6 → Fit (shut op o (a / 2 ^ o)) i (tkL L o k a i) := by
  obtain ⟨ha, hm, hn⟩ := h.head hk hL
  have hp : a / 2 ^ o / 2 ^ (k - o) = a / 2 ^ k := (div_up a o k ho).symm
  intro i hi
  have hF := h.fit i hi
  have C := cut hm ho hk hp i
  unfold tkL
  by_cases e : i = k
  · subst e
    rw [if_pos rfl]
    have hF2 := hF
    rw [hL] at hF
    have hpw := List.pairwise_cons.1 hF.1
    rw [hL, List.tail_cons]
    refine ⟨hpw.2, fun x => ?_⟩
    rw [C (x / 2 ^ i) hi]
    constructor
    · intro hx
      have h1 := (hF.2 x).1 (List.mem_cons_of_mem _ hx)
      refine ⟨h1.1, Or.inl ⟨h1.2, ?_⟩⟩
      rintro ⟨_, e2⟩
      have e3 := mod_mul_div h1.1
      have e4 := mod_mul_div ha
      rw [e2, e4] at e3
      have := hpw.1 x hx
      omega
    · rintro ⟨h1, h2 | h2⟩
      · rcases List.mem_cons.1 ((hF.2 x).2 ⟨h1, h2.1⟩) with e3 | e3
        · exact absurd ⟨rfl, by rw [e3]⟩ h2.2
        · exact e3
      · omega
  · rw [if_neg e]
    by_cases e2 : o ≤ i ∧ i < k
    · rw [if_pos e2, he i e2.1 e2.2]
      have hai := pow_dvd_mod ha (show i ≤ k by omega)
      refine ⟨by simp, fun x => ?_⟩
      rw [C (x / 2 ^ i) hi, ← div_up a o i e2.1, sib_even ha e2.2]
      have e3 := mod_mul_div hai
      have hpos := Nat.two_pow_pos i
      simp only [List.nil_append, List.mem_singleton]
      constructor
      · rintro rfl
        refine ⟨by rw [Nat.add_mod_right]; exact hai, Or.inr ⟨e2.1, e2.2, ?_⟩⟩
        rw [Nat.add_div_right _ hpos]
      · rintro ⟨h1, h2 | h2⟩
        · have := (hF.2 x).2 ⟨h1, h2.1⟩
          rw [he i e2.1 e2.2] at this
          simp at this
        · have e4 := mod_mul_div h1
          rw [h2.2.2, Nat.add_mul, e3, Nat.one_mul] at e4
          exact e4.symm
    · rw [if_neg e2]
      refine ⟨hF.1, fun x => ?_⟩
      rw [hF.2 x, C (x / 2 ^ i) hi]
      constructor
      · exact fun a => ⟨a.1, Or.inl ⟨a.2, fun b => e b.1⟩⟩
      · rintro ⟨a, b | b⟩
        · exact ⟨a, b.1⟩
        · exact absurd ⟨b.1, b.2.1⟩ e2
theorem St.take {n : Nat} {op : Nat → Bool} {L : Nat → List Nat} {tk : Nat → Option Nat} (h : St n op L tk) {o k a : Nat} {r : List Nat} (ho : o ≤ k) (hk : k ≤ 6) (he : ∀ i, o ≤ i → i < k → L i = []) (hL : L k = a :: r) :
    St n (shut op o (a / 2 ^ o)) (tkL L o k a) (pt tk a (some o)) ∧ wh op o (a / 2 ^ o) ∧ a % 2 ^ o = 0 ∧ a + 2 ^ o ≤ n ∧ tk a = none ∧ fr (tkL L o k a) + 2 ^ o = fr L := by
  obtain ⟨ha, hm, hn⟩ := h.head hk hL
  have hao := pow_dvd_mod ha ho
  have hw : wh op o (a / 2 ^ o) := wh_down hm.1 ho (div_up a o k ho).symm
  have hn' := wh_le h.lt hao hw
  have hop : ∀ i, i / 2 ^ o = a / 2 ^ o → op i = true := hw
  have hpa : a / 2 ^ o = a / 2 ^ o := rfl
  have htk : tk a = none := by
    cases e : tk a with
    | none => rfl
    | some u =>
      have h1 := (h.tk1 a u e).2.2.2 a rfl
      rw [hw a rfl] at h1
      cases h1
  have hsh : ∀ i, shut op o (a / 2 ^ o) i = true → op i = true := by
    intro i hi
    unfold shut at hi
    split at hi
    · cases hi
    · exact hi
  have hfr : fr (tkL L o k a) + 2 ^ o = fr L := by
    refine fr_cut ho hk ?_ ?_ ?_
    · simp [tkL, hL]
    · intro i h1 h2
      have : i ≠ k := by omega
      simp [tkL, this, h1, h2]
    · intro i h1
      have h2 : i ≠ k := by omega
      have h3 : ¬ (o ≤ i ∧ i < k) := by omega
      simp only [tkL, h2, if_false, h3]
  refine ⟨⟨h.fit_take ho hk he hL, fun i hi => h.lt i (hsh i hi), ?_, ?_, ?_, ?_⟩, hw, hao, hn', htk, hfr⟩
  · intro x u hx
    unfold pt at hx
    by_cases e : x = a
    · subst e
      rw [if_pos rfl] at hx
      cases hx
      refine ⟨by omega, hao, hn', fun i hi => ?_⟩
      simp [shut, hi]
    · rw [if_neg e] at hx
      obtain ⟨h1, h2, h3, h4⟩ := h.tk1 x u hx
      refine ⟨h1, h2, h3, fun i hi => ?_⟩
      have := h4 i hi
      unfold shut
      split
      · rfl
      · exact this
  · intro x u y v i hx hy h1 h2
    unfold pt at hx hy
    by_cases e : x = a
    · subst e
      rw [if_pos rfl] at hx
      cases hx
      by_cases e' : y = x
      · exact e'.symm
      · rw [if_neg e'] at hy
        have h3 := (h.tk1 y v hy).2.2.2 i h2
        rw [hw i h1] at h3
        cases h3
    · rw [if_neg e] at hx
      by_cases e' : y = a
      · subst e'
        rw [if_pos rfl] at hy
        cases hy
        have h3 := (h.tk1 x u hx).2.2.2 i h1
        rw [hw i h2] at h3
        cases h3
      · rw [if_neg e'] at hy
        exact h.tk2 x u y v i hx hy h1 h2
  · intro i hi hc
    by_cases e : i / 2 ^ o = a / 2 ^ o
    · exact ⟨a, o, by simp [pt], e⟩
    · have h1 : op i = false := by simpa [shut, e] using hc
      obtain ⟨x, u, h2, h3⟩ := h.tk3 i hi h1
      refine ⟨x, u, ?_, h3⟩
      unfold pt
      rw [if_neg]
      · exact h2
      · intro e2
        rw [e2, htk] at h2
        cases h2
  · have h1 := cnt_cut (n := n) hw (by rw [mod_mul_div hao]; exact hn')
    have h2 := h.cn
    omega
end Go.Proofs.YtkbpnkjjmipjfaaGreat.B
namespace Go.Proofs.YtkbpnkjjmipjfaaGreat.B
set_option linter.unusedVariables false

def bud (a i : Nat) : Nat := sib (a / 2 ^ i) * 2 ^ i
def ins (c : Nat) (l : List Nat) : List Nat := l.take (l.countP (· < c)) ++ c :: l.drop (l.countP (· < c))
def gvL (L : Nat → List Nat) (o a j : Nat) : Nat → List Nat := fun i => if o ≤ i ∧ i < j then (L i).filter (fun x => x != bud a i) else L i
def gvE (L : Nat → List Nat) (o a j : Nat) : Nat → List Nat := fun i => if i = j then ins (a / 2 ^ j * 2 ^ j) (L j) else gvL L o a j i
structure Top (L : Nat → List Nat) (o a J : Nat) : Prop where
  ge : o ≤ J
  le : J ≤ 6
  mem : ∀ i, o ≤ i → i < J → bud a i ∈ L i
  stop : J < 6 → bud a J ∉ L J
theorem mem_ins (c : Nat) (l : List Nat) (x : Nat) : x ∈ ins c l ↔ x = c ∨ x ∈ l := by
  unfold ins
  rw [List.mem_append, List.mem_cons]
  constructor
  · rintro (h | h | h)
    · exact Or.inr (List.mem_of_mem_take h)
    · exact Or.inl h
    · exact Or.inr (List.mem_of_mem_drop h)
  · rintro (h | h)
    · exact Or.inr (Or.inl h)
    · rw [← List.take_append_drop (l.countP (· < c)) l, List.mem_append] at h
      rcases h with h | h
      · exact Or.inl h
      · exact Or.inr (Or.inr h)
theorem ins_len (c : Nat) (l : List Nat) : (ins c l).length = l.length + 1 := by
  unfold ins
  have := List.countP_le_length (p := fun x => decide (x < c)) (l := l)
  simp
  omega
theorem count_cut : ∀ (l : List Nat) (c : Nat), l.Pairwise (· < ·) → (∀ x ∈ l.take (l.countP (· < c)), x < c) ∧ (∀ x ∈ l.drop (l.countP (· < c)), c ≤ x)
  | [], c, _ => by simp
  | y :: l, c, h => by
    have h' := List.pairwise_cons.1 h
    have ih := count_cut l c h'.2
    by_cases e : y < c
    · rw [List.countP_cons_of_pos (by simpa using e)]
      refine ⟨fun x hx => ?_, fun x hx => ?_⟩
      · rw [List.take_succ_cons, List.mem_cons] at hx
        rcases hx with rfl | hx
        · exact e
        · exact ih.1 x hx
      · rw [List.drop_succ_cons] at hx
        exact ih.2 x hx
    · have h0 : l.countP (· < c) = 0 := by
        rw [List.countP_eq_zero]
        intro x hx
        have := h'.1 x hx
        simp
        omega
      rw [List.countP_cons_of_neg (by simpa using e), h0]
      refine ⟨by simp, fun x hx => ?_⟩
      rw [List.drop_zero, List.mem_cons] at hx
      rcases hx with rfl | hx
      · omega
      · have := h'.1 x hx
        omega
theorem ins_sorted {c : Nat} {l : List Nat} (h : l.Pairwise (· < ·)) (hc : c ∉ l) : (ins c l).Pairwise (· < ·) := by
  have hk := count_cut l c h
  unfold ins
  rw [List.pairwise_append, List.pairwise_cons]
  have hd : l.take (l.countP (· < c)) ++ l.drop (l.countP (· < c)) = l := List.take_append_drop _ _
  have hp := h
  rw [← hd, List.pairwise_append] at hp
  refine ⟨hp.1, ⟨fun x hx => ?_, hp.2.1⟩, fun x hx y hy => ?_⟩
  · have h1 := hk.2 x hx
    have h2 : x ≠ c := fun e => hc (e ▸ List.mem_of_mem_drop hx)
    omega
  · have h1 := hk.1 x hx
    rcases List.mem_cons.1 hy with rfl | hy
    · exact h1
    · have := hk.2 y hy
      omega
theorem bud_mod (a i : Nat) : bud a i % 2 ^ i = 0 := mul_mod _ _
theorem bud_div (a i : Nat) : bud a i / 2 ^ i = sib (a / 2 ^ i) := mul_div _ _
theorem wh_both {op : Nat → Bool} {k r : Nat} (h1 : wh op k r) (h2 : wh op k (sib r)) : wh op (k + 1) (r / 2) := by
  intro x hx
  rw [div_up1] at hx
  by_cases e : r = x / 2 ^ k
  · exact h1 x e.symm
  · exact h2 x ((sib_iff _ _).2 ⟨e, hx.symm⟩)
theorem wh_opened (op : Nat → Bool) (o p : Nat) : wh (opened op o p) o p := fun i hi => by simp [opened, hi]
theorem wh_more {op : Nat → Bool} {o p k q : Nat} (h : wh op k q) : wh (opened op o p) k q := fun i hi => by
  have := h i hi
  simp [opened, this]
theorem top_wh {op : Nat → Bool} {L : Nat → List Nat} {o a J : Nat} (hF : ∀ k, k ≤ 6 → Fit op k (L k)) (ht : Top L o a J) : ∀ j, o ≤ j → j ≤ J → wh (opened op o (a / 2 ^ o)) j (a / 2 ^ j) := by
  intro j h1
  induction j with
  | zero =>
    intro _
    obtain rfl : o = 0 := by omega
    exact wh_opened _ _ _
  | succ j ih =>
    intro h2
    by_cases e : o = j + 1
    · subst e
      exact wh_opened _ _ _
    · have hle := ht.le
      rw [div_up1]
      refine wh_both (ih (by omega) (by omega)) (wh_more ?_)
      have := ((hF j (by omega)).2 _).1 (ht.mem j (by omega) (by omega))
      rw [bud_div] at this
      exact this.2.1
theorem top_mx {op : Nat → Bool} {L : Nat → List Nat} {o a J : Nat} (hF : ∀ k, k ≤ 6 → Fit op k (L k)) (ht : Top L o a J) (hc : ∀ i, i / 2 ^ o = a / 2 ^ o → op i = false) : mx (opened op o (a / 2 ^ o)) J (a / 2 ^ J) := by
  refine ⟨top_wh hF ht J ht.ge (Nat.le_refl _), fun h6 hw => ht.stop h6 ?_⟩
  have hge := ht.ge
  have hle := ht.le
  rw [(hF J hle).2, bud_div]
  refine ⟨bud_mod _ _, ?_, fun _ hp => ?_⟩
  · intro x hx
    have h1 : x / 2 ^ (J + 1) = a / 2 ^ J / 2 := by rw [div_up1, hx, sib_half]
    have h2 := hw x h1
    unfold opened at h2
    split at h2
    · rename_i e
      have h3 : x / 2 ^ J = a / 2 ^ J := by rw [div_up x o J hge, e, ← div_up a o J hge]
      rw [h3] at hx
      exact absurd rfl ((sib_iff _ _).1 hx).1
    · exact h2
  · have h1 := hp a (by rw [div_up1, sib_half])
    rw [hc a rfl] at h1
    cases h1
theorem filter_len_one {l : List Nat} {y : Nat} (hn : l.Nodup) (hy : y ∈ l) : (l.filter (fun x => x != y)).length + 1 = l.length := by
  induction l with
  | nil => simp at hy
  | cons a l ih =>
    have h := List.nodup_cons.1 hn
    by_cases e : a = y
    · subst e
      have : l.filter (fun x => x != a) = l := by
        rw [List.filter_eq_self]
        intro b hb
        simp only [bne_iff_ne]
        intro e
        exact h.1 (e ▸ hb)
      simp [this]
    · have hy' : y ∈ l := by
        rcases List.mem_cons.1 hy with q | q
        · exact absurd q.symm e
        · exact q
      rw [List.filter_cons_of_pos (by simpa using e)]
      have := ih h.2 hy'
      simp
      omega
theorem St.give {n : Nat} {op : Nat → Bool} {L : Nat → List Nat} {tk : Nat → Option Nat} (h : St n op L tk) {o a J : Nat} (hT : tk a = some o) (ht : Top L o a J) :
    St n (opened op o (a / 2 ^ o)) (gvE L o a J) (pt tk a none) ∧ fr (gvE L o a J) = fr L + 2 ^ o := by
  obtain ⟨ho6, hao, han, hc⟩ := h.tk1 a o hT
  have hm := top_mx h.fit ht hc
  have hup := top_wh h.fit ht
  have hsh := shut_opened (op := op) (o := o) (p := a / 2 ^ o) hc
  have hge := ht.ge
  have hle := ht.le
  have C := fun i q (hi : i ≤ 6) => cut hm hge hle (div_up a o J hge).symm i q hi
  rw [hsh] at C
  have hnot : (a / 2 ^ J * 2 ^ J) ∉ L J := by
    intro hx
    have h1 := ((h.fit J hle).2 _).1 hx
    rw [mul_div] at h1
    have := h1.2.1 a rfl
    rw [hc a rfl] at this
    cases this
  have hfr : fr (gvE L o a J) = fr L + 2 ^ o := by
    refine (fr_cut (a := gvE L o a J) (b := L) hge hle ?_ ?_ ?_).symm
    · simp [gvE, ins_len]
    · intro i h1 h2
      have h3 : i ≠ J := by omega
      have := filter_len_one (h.fit i (by omega)).nodup (ht.mem i h1 h2)
      simp only [gvE, h3, if_false, gvL, h1, h2, and_self, if_true]
      exact this.symm
    · intro i h1
      have h2 : i ≠ J := by omega
      have h3 : ¬ (o ≤ i ∧ i < J) := by omega
      simp only [gvE, h2, if_false, gvL, h3]
  refine ⟨⟨?_, ?_, ?_, ?_, ?_, ?_⟩, hfr⟩
  · intro i hi
    have hF := h.fit i hi
    by_cases e : i = J
    · subst e
      simp only [gvE, if_true]
      refine ⟨ins_sorted hF.1 hnot, fun x => ?_⟩
      rw [mem_ins, hF.2 x, C i _ hi]
      constructor
      · rintro (rfl | h1)
        · rw [mul_div]
          exact ⟨mul_mod _ _, hm⟩
        · rcases h1.2 with q | q
          · exact ⟨h1.1, q.1⟩
          · omega
      · rintro ⟨h1, h2⟩
        by_cases e : x / 2 ^ i = a / 2 ^ i
        · left
          rw [← e, mod_mul_div h1]
        · exact Or.inr ⟨h1, Or.inl ⟨h2, fun q => e q.2⟩⟩
    · by_cases e2 : o ≤ i ∧ i < J
      · simp only [gvE, e, if_false, gvL, e2, and_self, if_true]
        refine ⟨hF.1.filter _, fun x => ?_⟩
        rw [List.mem_filter, hF.2 x, C i _ hi, bne_iff_ne]
        have hno : ¬ mx (opened op o (a / 2 ^ o)) i (sib (a / 2 ^ i)) := by
          intro q
          refine q.2 (by omega) ?_
          have := hup (i + 1) (by omega) (by omega)
          rwa [div_up1, ← sib_half] at this
        constructor
        · rintro ⟨⟨h1, h2⟩, h3⟩
          refine ⟨h1, ?_⟩
          rcases h2 with q | q
          · exact q.1
          · exfalso
            apply h3
            rw [← div_up a o i e2.1] at q
            unfold bud
            rw [← q.2.2, mod_mul_div h1]
        · rintro ⟨h1, h2⟩
          refine ⟨⟨h1, Or.inl ⟨h2, fun q => e q.1⟩⟩, ?_⟩
          intro q
          rw [q, bud_div] at h2
          exact hno h2
      · simp only [gvE, e, if_false, gvL, e2]
        refine ⟨hF.1, fun x => ?_⟩
        rw [hF.2 x, C i _ hi]
        constructor
        · rintro ⟨h1, q | q⟩
          · exact ⟨h1, q.1⟩
          · exact absurd ⟨q.1, q.2.1⟩ e2
        · rintro ⟨h1, q⟩
          exact ⟨h1, Or.inl ⟨q, fun b => e b.1⟩⟩
  · intro i hi
    unfold opened at hi
    split at hi
    · rename_i e
      have := div_eq_iff.1 e
      rw [mod_mul_div hao] at this
      omega
    · exact h.lt i hi
  · intro x u hx
    unfold pt at hx
    split at hx
    · cases hx
    · rename_i e
      obtain ⟨h1, h2, h3, h4⟩ := h.tk1 x u hx
      refine ⟨h1, h2, h3, fun i hi => ?_⟩
      unfold opened
      split
      · rename_i e2
        exact absurd (h.tk2 x u a o i hx hT hi e2) e
      · exact h4 i hi
  · intro x u y v i hx hy
    unfold pt at hx hy
    split at hx
    · cases hx
    · split at hy
      · cases hy
      · exact h.tk2 x u y v i hx hy
  · intro i hi hcl
    unfold opened at hcl
    split at hcl
    · cases hcl
    · rename_i e
      obtain ⟨x, u, h2, h3⟩ := h.tk3 i hi hcl
      refine ⟨x, u, ?_, h3⟩
      unfold pt
      rw [if_neg]
      · exact h2
      · intro e2
        subst e2
        rw [hT] at h2
        cases h2
        exact e h3
  · have h1 := cnt_cut (n := n) (wh_opened op o (a / 2 ^ o)) (by rw [mod_mul_div hao]; exact han)
    rw [hsh] at h1
    have := h.cn
    omega
def op0 (n : Nat) : Nat → Bool := fun i => decide (i < n)
def base (n j : Nat) : Nat := if j = 6 then 0 else n / 2 ^ (j + 1) * 2 ^ (j + 1)
def row (b j m : Nat) : List Nat := (List.range m).map (fun t => b + t * 2 ^ j)
def nwL (n j : Nat) : List Nat := row (base n j) j ((n - base n j) / 2 ^ j)
theorem row_succ (b j m : Nat) : row b j (m + 1) = row b j m ++ [b + m * 2 ^ j] := by
  simp [row, List.range_succ]
theorem wh_op0 (n k q : Nat) : wh (op0 n) k q ↔ q * 2 ^ k + 2 ^ k ≤ n := by
  have hp := Nat.two_pow_pos k
  constructor
  · intro h
    have := h (q * 2 ^ k + 2 ^ k - 1) (div_eq_iff.2 (by omega))
    simp [op0] at this
    omega
  · intro h i hi
    have := div_eq_iff.1 hi
    simp [op0]
    omega
theorem nw_fit (n j : Nat) (hj : j ≤ 6) : Fit (op0 n) j (nwL n j) := by
  refine ⟨?_, fun x => ?_⟩
  · unfold nwL row
    rw [List.pairwise_map]
    refine List.Pairwise.imp ?_ List.pairwise_lt_range
    intro a b hab
    have := Nat.mul_lt_mul_of_pos_right hab (Nat.two_pow_pos j)
    omega
  · unfold mx
    rw [wh_op0, wh_op0]
    simp only [nwL, row, List.mem_map, List.mem_range]
    constructor
    · rintro ⟨t, h1, rfl⟩
      rcases six hj with rfl | rfl | rfl | rfl | rfl | rfl | rfl <;> simp only [base, Nat.reducePow, Nat.reduceAdd, Nat.reduceEqDiff, if_true, if_false] at * <;> omega
    · intro h
      refine ⟨(x - base n j) / 2 ^ j, ?_, ?_⟩ <;> rcases six hj with rfl | rfl | rfl | rfl | rfl | rfl | rfl <;> simp only [base, Nat.reducePow, Nat.reduceAdd, Nat.reduceEqDiff, if_true, if_false] at * <;> omega
theorem nw_fr (n : Nat) : fr (nwL n) = n := by
  simp only [fr, nwL, row, List.length_map, List.length_range, base, Nat.reducePow, Nat.reduceAdd, Nat.reduceEqDiff, if_true, if_false]
  omega
theorem cnt_op0 (n : Nat) : ∀ m, m ≤ n → cnt (op0 n) m = m
  | 0, _ => rfl
  | m + 1, h => by
    have := cnt_op0 n m (by omega)
    have h2 : op0 n m = true := by simp [op0]; omega
    simp [cnt, this, h2]
theorem St.new (n : Nat) : St n (op0 n) (nwL n) (fun _ => none) :=
  ⟨fun k hk => nw_fit n k hk, fun i hi => (by simpa [op0] using hi), fun x o h => (by cases h), fun x o y u i h => (by cases h), fun i h1 h2 => (by simp [op0] at h2; omega), (by rw [cnt_op0 n n (Nat.le_refl _), nw_fr])⟩
end Go.Proofs.YtkbpnkjjmipjfaaGreat.B
namespace Go.Proofs.YtkbpnkjjmipjfaaGreat.B
open Go.Shelf
def insA_ren : Go.Shelf.Ren := ⟨fun | 21 => 218 | 27 => 241 | 28 => 242 | 35 => 253 | 39 => 266 | n => n, fun | 22 => 25 | 3 => 3 | 4 => 4 | 0 => 0 | n => n, fun | n => n⟩
theorem insA : Go.Proofs.Lays2.n21 Tryz.prog insA_ren := {
  mixed := by kernel_rfl
  f21 := Tryz.func218.trans (congrArg some (by kernel_rfl))
  f27 := Tryz.func241.trans (congrArg some (by kernel_rfl))
  f28 := Tryz.func242.trans (congrArg some (by kernel_rfl))
  f35 := Tryz.func253.trans (congrArg some (by kernel_rfl))
  f39 := Tryz.func266.trans (congrArg some (by kernel_rfl))
  t0 := Tryz.underlying0
  a0 := Tryz.isAgg0
  z0 := Tryz.sizeOf0
  v0 := Tryz.zeroValue0
  t3 := Tryz.underlying3
  a3 := Tryz.isAgg3
  z3 := Tryz.sizeOf3
  v3 := Tryz.zeroValue3
  t4 := Tryz.underlying4
  a4 := Tryz.isAgg4
  z4 := Tryz.sizeOf4
  v4 := Tryz.zeroValue4
  t22 := Tryz.underlying25
  a22 := Tryz.isAgg25
  z22 := Tryz.sizeOf25
  v22 := Tryz.zeroValue25
  i3 := by kernel_rfl }
def delA_ren : Go.Shelf.Ren := ⟨fun | 23 => 81 | n => n, fun | 22 => 25 | 3 => 3 | 4 => 4 | 0 => 0 | n => n, fun | n => n⟩
theorem delA : Go.Proofs.Lays2.n23 Tryz.prog delA_ren := {
  mixed := by kernel_rfl
  f23 := Tryz.func81.trans (congrArg some (by kernel_rfl))
  t0 := Tryz.underlying0
  a0 := Tryz.isAgg0
  z0 := Tryz.sizeOf0
  v0 := Tryz.zeroValue0
  t3 := Tryz.underlying3
  a3 := Tryz.isAgg3
  z3 := Tryz.sizeOf3
  v3 := Tryz.zeroValue3
  t4 := Tryz.underlying4
  a4 := Tryz.isAgg4
  z4 := Tryz.sizeOf4
  v4 := Tryz.zeroValue4
  t22 := Tryz.underlying25
  a22 := Tryz.isAgg25
  z22 := Tryz.sizeOf25
  v22 := Tryz.zeroValue25
  i3 := by kernel_rfl }
def cloA_ren : Go.Shelf.Ren := ⟨fun | 15 => 44 | n => n, fun | 22 => 25 | 3 => 3 | 4 => 4 | n => n, fun | n => n⟩
theorem cloA : Go.Proofs.Lays2.n15 Tryz.prog cloA_ren := {
  mixed := by kernel_rfl
  f15 := Tryz.func44.trans (congrArg some (by kernel_rfl))
  t3 := Tryz.underlying3
  a3 := Tryz.isAgg3
  z3 := Tryz.sizeOf3
  v3 := Tryz.zeroValue3
  t4 := Tryz.underlying4
  a4 := Tryz.isAgg4
  z4 := Tryz.sizeOf4
  v4 := Tryz.zeroValue4
  t22 := Tryz.underlying25
  a22 := Tryz.isAgg25
  z22 := Tryz.sizeOf25
  v22 := Tryz.zeroValue25
  i3 := by kernel_rfl }
def binA_ren : Go.Shelf.Ren := ⟨fun | 25 => 217 | 31 => 155 | 32 => 240 | 37 => 197 | n => n, fun | 22 => 25 | 3 => 3 | 4 => 4 | 40 => 221 | 0 => 0 | n => n, fun | n => n⟩
theorem binA : Go.Proofs.Lays2.n25 Tryz.prog binA_ren := {
  mixed := by kernel_rfl
  f25 := Tryz.func217.trans (congrArg some (by kernel_rfl))
  f31 := Tryz.func155.trans (congrArg some (by kernel_rfl))
  f32 := Tryz.func240.trans (congrArg some (by kernel_rfl))
  f37 := Tryz.func197.trans (congrArg some (by kernel_rfl))
  t0 := Tryz.underlying0
  a0 := Tryz.isAgg0
  z0 := Tryz.sizeOf0
  v0 := Tryz.zeroValue0
  t3 := Tryz.underlying3
  a3 := Tryz.isAgg3
  z3 := Tryz.sizeOf3
  v3 := Tryz.zeroValue3
  t4 := Tryz.underlying4
  a4 := Tryz.isAgg4
  z4 := Tryz.sizeOf4
  v4 := Tryz.zeroValue4
  t22 := Tryz.underlying25
  a22 := Tryz.isAgg25
  z22 := Tryz.sizeOf25
  v22 := Tryz.zeroValue25
  t40 := Tryz.underlying221
  a40 := Tryz.isAgg221
  z40 := Tryz.sizeOf221
  v40 := Tryz.zeroValue221 }
end Go.Proofs.YtkbpnkjjmipjfaaGreat.B
