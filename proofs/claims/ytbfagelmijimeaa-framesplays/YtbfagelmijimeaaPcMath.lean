/- Numbers and their pieces: a number's bytes cut in two, and put together again. -/
import Derived.Test.YtbfagelmijimeaaLw
namespace Go.Proofs.Ytbfagelmijimeaa
open Go.ChangeShapes Go.WideShapes Go.ChangeAt Go.RowKit
set_option linter.unusedVariables false

theorem num_split (f : Nat → Int) (a c : Nat) : ∀ d, num f a (c + d) = num f a c + num f (a + c) d * 256 ^ c
  | 0 => by simp [num]
  | d + 1 => by
    rw [← Nat.add_assoc]
    simp only [num]
    rw [num_split f a c d, Int.add_mul, Int.pow_add, Int.mul_assoc, Int.mul_comm (256 ^ d), Nat.add_assoc, Int.add_assoc]
theorem byt_high (v : Int) (c i : Nat) : byt (v / 256 ^ c) i = byt v (c + i) := by
  unfold byt
  rw [Int.ediv_ediv_of_nonneg (Int.le_of_lt (pow256 c)), Int.pow_add]
theorem mod_div (v A Q : Int) (hA : 0 < A) (hQ : 0 < Q) : v % (A * Q) / A = v / A % Q := by
  have hAQ := Int.mul_pos hA hQ
  have h1 := Int.emod_add_mul_ediv v (A * Q)
  have h0 := Int.emod_nonneg v (show A * Q ≠ 0 by omega)
  have hl := Int.emod_lt_of_pos v hAQ
  generalize v / (A * Q) = t at *
  generalize v % (A * Q) = r at *
  subst h1
  have h3 : (r + A * Q * t) / A = r / A + Q * t := by rw [Int.mul_assoc]; exact Int.add_mul_ediv_left _ _ (by omega)
  have h4 : 0 ≤ r / A := Int.ediv_nonneg h0 (by omega)
  have h5 : r / A < Q := Int.ediv_lt_of_lt_mul hA (by rw [Int.mul_comm]; exact hl)
  rw [h3, Int.add_mul_emod_self_left, Int.emod_eq_of_lt h4 h5]
theorem byt_low (v : Int) (c i : Nat) (h : i < c) : byt (v % 256 ^ c) i = byt v i := by
  unfold byt
  obtain ⟨d, rfl⟩ : ∃ d, c = i + (d + 1) := ⟨c - i - 1, by omega⟩
  rw [Int.pow_add, Int.pow_succ (256 : Int) d, mod_div v _ _ (pow256 i) (Int.mul_pos (pow256 d) (by decide)), Int.emod_emod_of_dvd _ ⟨256 ^ d, Int.mul_comm _ _⟩]
/-- Two stores of the pieces make what one makes. -/
theorem lay_pieces (f : Nat → Int) (v : Int) (a c s : Nat) (hc : c ≤ s) (i : Nat) : lay (lay f (a + c) (s - c) (byt (v / 256 ^ c))) a c (byt (v % 256 ^ c)) i = lay f a s (byt v) i := by
  unfold lay
  by_cases h1 : a ≤ i ∧ i < a + c
  · rw [if_pos h1, if_pos (by omega), byt_low v c _ (by omega)]
  · rw [if_neg h1]
    show (if a + c ≤ i ∧ i < a + c + (s - c) then _ else _) = _
    by_cases h2 : a + c ≤ i ∧ i < a + c + (s - c)
    · rw [if_pos h2, if_pos (by omega), byt_high, show c + (i - (a + c)) = i - a by omega]
    · rw [if_neg h2, if_neg (by omega)]
theorem pow_le (c : Nat) (h : c ≤ 8) : (256 : Int) ^ c ≤ 18446744073709551616 := by
  have : (256 : Nat) ^ c ≤ 256 ^ 8 := Nat.pow_le_pow_right (by decide) h
  have h2 := Int.ofNat_le.2 this
  rw [Int.natCast_pow, Int.natCast_pow] at h2
  exact h2
theorem pow_lt (c : Nat) (h : c < 8) : (256 : Int) ^ c < 18446744073709551616 := by
  have := pow_le (c + 1) h
  rw [Int.pow_succ] at this
  have := pow256 c
  omega
theorem num_lt (f : Nat → Int) (a m : Nat) (hm : m ≤ 8) (h : ∀ i, i < m → 0 ≤ f (a + i) ∧ f (a + i) < 256) : 0 ≤ num f a m ∧ num f a m < 18446744073709551616 := by
  obtain ⟨h0, h1⟩ := num_bd f a m h m (Nat.le_refl _)
  exact ⟨h0, Int.lt_of_lt_of_le h1 (pow_le m hm)⟩
theorem wrap8 (c : Nat) (h : c ≤ 8) : IntKind.i64.wrap (8 * (c : Int)) = 8 * c := by
  rw [IntKind.wrap_i64]; omega
theorem shl_run (x : Int) (c : Nat) (h : c ≤ 8) (h0 : 0 ≤ x * 256 ^ c) (h1 : x * 256 ^ c < 18446744073709551616) (w : World) : (Op.shift .shl .u64 x .i64 (8 * (c : Int))).run Try.prog w = .ok (.int .u64 (x * 256 ^ c)) w := by
  have e : Op.shift .shl .u64 x .i64 (8 * (c : Int)) = pure (.int .u64 (IntKind.u64.wrap (x * 2 ^ (8 * (c : Int)).toNat))) := shift_shl .u64 .i64 x (8 * (c : Int)) (by omega) (by show 8 * (c : Int) ≤ 64; omega)
  rw [e, show (8 * (c : Int)).toNat = 8 * c by omega, pow8, IntKind.wrap_u64, Int.emod_eq_of_lt h0 h1]
  rfl
theorem shr_run (x : Int) (c : Nat) (h : c ≤ 8) (w : World) : (Op.shift .shr .u64 x .i64 (8 * (c : Int))).run Try.prog w = .ok (.int .u64 (x / 256 ^ c)) w := by
  have e : Op.shift .shr .u64 x .i64 (8 * (c : Int)) = pure (.int .u64 (x / 2 ^ (8 * (c : Int)).toNat)) := shift_shr .u64 .i64 x (8 * (c : Int)) (by omega) (by show 8 * (c : Int) ≤ 64; omega)
  rw [e, show (8 * (c : Int)).toNat = 8 * c by omega, pow8]
  rfl
end Go.Proofs.Ytbfagelmijimeaa
