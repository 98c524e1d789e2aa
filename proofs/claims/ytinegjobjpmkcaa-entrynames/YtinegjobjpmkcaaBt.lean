/- Entries and their words, told by numbers: which entries may be, which words; no condition but the ranges that each theorem names. -/
import Derived.Test.YtinegjobjpmkcaaRows
import Derived.WalkKit
import Derived.ProofKit
import Derived.OpenShut
import Derived.WalkSpells
import Derived.WalkLawsBesides
import Derived.Laws.BitsAllLaws
namespace Go.Proofs.Ytinegjobjpmkcaa
open Go.ChangeShapes Go.WideShapes Go.ChangeAt Go.RowKit
set_option linter.unusedVariables false

theorem own : ownKnob Try.prog.godebug = none := by kernel_rfl
/-- Whether an entry may be, told by what is known of At: whether it is 0, 0 or above, 1023 or below, 4095 or below. -/
def mb (p s r w a d z n q f : Bool) : Bool := (!p && !s && !r && !w && !a && !d && z) || ((p != s) && n && (if s then q else f) && !(w && !r) && !(s && (a || d)))
def may (p s r w a d : Bool) (t : Int) : Bool := mb p s r w a d (t == 0) (decide (0 ≤ t)) (decide (t ≤ 1023)) (decide (t ≤ 4095))
def bi (b : Bool) (k : Int) : Int := if b then k else 0
/-- The word's lowest eight bits. -/
def lo (p s r w a d : Bool) : Int := bi p 1 + bi s 2 + bi r 4 + bi w 8 + bi a 16 + bi d 32
theorem lo_range (p s r w a d : Bool) : 0 ≤ lo p s r w a d ∧ lo p s r w a d < 64 := by
  revert p s r w a d
  decide
theorem may_range {p s r w a d : Bool} {t : Int} (h : may p s r w a d t = true) : 0 ≤ t ∧ t ≤ 4095 := by
  by_cases h0 : 0 ≤ t
  · refine ⟨h0, ?_⟩
    by_cases h1 : t ≤ 4095
    · exact h1
    · exfalso
      have e1 : (t == 0) = false := by simp; omega
      have e2 : decide (t ≤ 1023) = false := by simp; omega
      have e3 : decide (t ≤ 4095) = false := by simp; omega
      unfold may at h
      rw [e1, e2, e3] at h
      revert h
      generalize decide (0 ≤ t) = n
      revert p s r w a d n
      decide
  · exfalso
    have e1 : (t == 0) = false := by simp; omega
    have e2 : decide (0 ≤ t) = false := by simp; omega
    unfold may at h
    rw [e1, e2] at h
    revert h
    generalize decide (t ≤ 1023) = q
    generalize decide (t ≤ 4095) = f
    revert p s r w a d q f
    decide
/-- A bit of a word. -/
def fb (a k : Int) : Bool := bits .and .u64 a k != 0
def fbN (c k : Nat) : Bool := (c &&& k) != 0
theorem and_low (a : Int) (h0 : 0 ≤ a) (h1 : a < 18446744073709551616) (k : Nat) (hk : k < 256) : bits .and .u64 a (k : Int) = (((a % 256).toNat &&& k : Nat) : Int) := by
  rw [u64_and a k h0 h1 (by omega) (by omega)]
  have e : a.toNat &&& (k : Int).toNat = (a % 256).toNat &&& k := by
    have h2 : ((k : Int)).toNat = k := by omega
    rw [h2]
    have h3 : a.toNat &&& k < 2 ^ 8 := Nat.and_lt_two_pow _ (by omega)
    have h4 : (a.toNat &&& k) % 2 ^ 8 = a.toNat &&& k := Nat.mod_eq_of_lt h3
    rw [← h4, Nat.and_mod_two_pow]
    have h5 : k % 2 ^ 8 = k := Nat.mod_eq_of_lt (by omega)
    have h6 : a.toNat % 2 ^ 8 = (a % 256).toNat := by omega
    rw [h5, h6]
  rw [e]
theorem fb_low (a : Int) (h0 : 0 ≤ a) (h1 : a < 18446744073709551616) (k : Nat) (hk : k < 256) : fb a (k : Int) = fbN (a % 256).toNat k := by
  unfold fb fbN
  rw [and_low a h0 h1 k hk, Bool.eq_iff_iff]
  simp
/-- What a mask that is all ones from the bit 8 on, so many of them, leaves of a word. -/
theorem not_mask (a : Int) (h0 : 0 ≤ a) (h1 : a < 18446744073709551616) (m i : Nat) (hm : m < 256) (hi : i ≤ 12) :
    (bits .andNot .u64 a (((2 ^ i - 1) * 256 + m : Nat) : Int) == 0) = (((a % 256).toNat &&& (255 - m)) == 0 && decide (a / 256 < ((2 ^ i : Nat) : Int))) := by
  have hp : 2 ^ i ≤ 2 ^ 12 := Nat.pow_le_pow_right (by decide) hi
  have hp' : 2 ^ 12 = 4096 := by decide
  have hp0 : 0 < 2 ^ i := Nat.pos_of_ne_zero (by simp)
  rw [u64_andNot a _ h0 h1 (by omega) (by omega)]
  have e1 : (((2 ^ i - 1) * 256 + m : Nat) : Int).toNat = (2 ^ i - 1) * 256 + m := by omega
  rw [e1]
  generalize hM : 18446744073709551615 - ((2 ^ i - 1) * 256 + m) = M
  have hM1 : M % 2 ^ 8 = 255 - m := by omega
  have hM2 : M / 2 ^ 8 = 2 ^ 56 - 2 ^ i := by omega
  have hz : (a.toNat &&& M = 0) ↔ ((a.toNat &&& M) % 2 ^ 8 = 0 ∧ (a.toNat &&& M) / 2 ^ 8 = 0) := by omega
  rw [Nat.and_mod_two_pow, Nat.and_div_two_pow, hM1, hM2, nat_midmask 56 i _ (by omega)] at hz
  have h6 : a.toNat % 2 ^ 8 = (a % 256).toNat := by omega
  have h7 : a.toNat / 2 ^ 8 = (a / 256).toNat := by omega
  have h8 : (a / 256).toNat % 2 ^ 56 = (a / 256).toNat := Nat.mod_eq_of_lt (by omega)
  rw [h6, h7, h8] at hz
  have h9 : ((a / 256).toNat / 2 ^ i * 2 ^ i = 0) ↔ (a / 256 < ((2 ^ i : Nat) : Int)) := by
    rw [Nat.mul_eq_zero, Nat.div_eq_zero_iff]
    omega
  rw [h9] at hz
  rw [Bool.eq_iff_iff]
  simp only [beq_iff_eq, Bool.and_eq_true, decide_eq_true_eq]
  rw [← hz]
  omega
/-- Whether a word is an entry's. -/
def mayW (a : Int) : Bool := decide (a % 256 < 64) && may (fb a 1) (fb a 2) (fb a 4) (fb a 8) (fb a 16) (fb a 32) (a / 256)
theorem table_p : ∀ c, c < 256 → ∀ z q f : Bool, fbN c 1 = true → (((c &&& 194) == 0 && f) && ((c &&& 12) != 8)) = (decide (c < 64) && mb (fbN c 1) (fbN c 2) (fbN c 4) (fbN c 8) (fbN c 16) (fbN c 32) z true q f) := by
  decide +kernel
theorem table_s : ∀ c, c < 256 → ∀ z q f : Bool, fbN c 1 = false → fbN c 2 = true → (((c &&& 241) == 0 && q) && ((c &&& 12) != 8)) = (decide (c < 64) && mb (fbN c 1) (fbN c 2) (fbN c 4) (fbN c 8) (fbN c 16) (fbN c 32) z true q f) := by
  decide +kernel
theorem table_n : ∀ c, c < 256 → ∀ z q f : Bool, fbN c 1 = false → fbN c 2 = false → (((c &&& 255) == 0 && z) && ((c &&& 12) != 8)) = (decide (c < 64) && mb (fbN c 1) (fbN c 2) (fbN c 4) (fbN c 8) (fbN c 16) (fbN c 32) z true q f) := by
  decide +kernel
theorem mayW_low (a : Int) (h0 : 0 ≤ a) (h1 : a < 18446744073709551616) : mayW a = (decide ((a % 256).toNat < 64) && mb (fbN (a % 256).toNat 1) (fbN (a % 256).toNat 2) (fbN (a % 256).toNat 4) (fbN (a % 256).toNat 8) (fbN (a % 256).toNat 16) (fbN (a % 256).toNat 32) (a / 256 == 0) true (decide (a / 256 ≤ 1023)) (decide (a / 256 ≤ 4095))) := by
  have e1 : decide (a % 256 < 64) = decide ((a % 256).toNat < 64) := by rw [decide_eq_decide]; omega
  have e2 : decide (0 ≤ a / 256) = true := by simp; omega
  have k1 : fb a 1 = fbN (a % 256).toNat 1 := fb_low a h0 h1 1 (by decide)
  have k2 : fb a 2 = fbN (a % 256).toNat 2 := fb_low a h0 h1 2 (by decide)
  have k3 : fb a 4 = fbN (a % 256).toNat 4 := fb_low a h0 h1 4 (by decide)
  have k4 : fb a 8 = fbN (a % 256).toNat 8 := fb_low a h0 h1 8 (by decide)
  have k5 : fb a 16 = fbN (a % 256).toNat 16 := fb_low a h0 h1 16 (by decide)
  have k6 : fb a 32 = fbN (a % 256).toNat 32 := fb_low a h0 h1 32 (by decide)
  unfold mayW may
  rw [e1, e2, k1, k2, k3, k4, k5, k6]
theorem rw_low (a : Int) (h0 : 0 ≤ a) (h1 : a < 18446744073709551616) : (bits .and .u64 a 12 != 8) = (((a % 256).toNat &&& 12) != 8) := by
  have k := and_low a h0 h1 12 (by decide)
  have e : ((12 : Nat) : Int) = 12 := rfl
  rw [e] at k
  rw [k, Bool.eq_iff_iff]
  simp only [bne_iff_ne, ne_eq]
  omega
theorem word_p (a : Int) (h0 : 0 ≤ a) (h1 : a < 18446744073709551616) (h : fb a 1 = true) : ((bits .andNot .u64 a 1048381 == 0) && (bits .and .u64 a 12 != 8)) = mayW a := by
  have k := fb_low a h0 h1 1 (by decide)
  have e : ((1 : Nat) : Int) = 1 := rfl
  rw [e, h] at k
  have m := not_mask a h0 h1 61 12 (by decide) (by decide)
  have e2 : (((2 ^ 12 - 1) * 256 + 61 : Nat) : Int) = 1048381 := by decide
  have e3 : decide (a / 256 < ((2 ^ 12 : Nat) : Int)) = decide (a / 256 ≤ 4095) := by rw [decide_eq_decide]; omega
  rw [e2, e3] at m
  rw [m, rw_low a h0 h1, mayW_low a h0 h1]
  exact table_p _ (by omega) _ _ _ k.symm
theorem word_s (a : Int) (h0 : 0 ≤ a) (h1 : a < 18446744073709551616) (h : fb a 1 = false) (h' : fb a 2 = true) : ((bits .andNot .u64 a 261902 == 0) && (bits .and .u64 a 12 != 8)) = mayW a := by
  have k := fb_low a h0 h1 1 (by decide)
  have k' := fb_low a h0 h1 2 (by decide)
  have e : ((1 : Nat) : Int) = 1 := rfl
  have e' : ((2 : Nat) : Int) = 2 := rfl
  rw [e, h] at k
  rw [e', h'] at k'
  have m := not_mask a h0 h1 14 10 (by decide) (by decide)
  have e2 : (((2 ^ 10 - 1) * 256 + 14 : Nat) : Int) = 261902 := by decide
  have e3 : decide (a / 256 < ((2 ^ 10 : Nat) : Int)) = decide (a / 256 ≤ 1023) := by rw [decide_eq_decide]; omega
  rw [e2, e3] at m
  rw [m, rw_low a h0 h1, mayW_low a h0 h1]
  exact table_s _ (by omega) _ _ _ k.symm k'.symm
theorem word_n (a : Int) (h0 : 0 ≤ a) (h1 : a < 18446744073709551616) (h : fb a 1 = false) (h' : fb a 2 = false) : ((bits .andNot .u64 a 0 == 0) && (bits .and .u64 a 12 != 8)) = mayW a := by
  have k := fb_low a h0 h1 1 (by decide)
  have k' := fb_low a h0 h1 2 (by decide)
  have e : ((1 : Nat) : Int) = 1 := rfl
  have e' : ((2 : Nat) : Int) = 2 := rfl
  rw [e, h] at k
  rw [e', h'] at k'
  have m := not_mask a h0 h1 0 0 (by decide) (by decide)
  have e2 : (((2 ^ 0 - 1) * 256 + 0 : Nat) : Int) = 0 := by decide
  have e3 : decide (a / 256 < ((2 ^ 0 : Nat) : Int)) = (a / 256 == 0) := by rw [Bool.eq_iff_iff]; simp; omega
  rw [e2, e3] at m
  rw [m, rw_low a h0 h1, mayW_low a h0 h1]
  exact table_n _ (by omega) _ _ _ k.symm k'.symm
/-- The word of an entry: its bits are the entry's. -/
theorem fb_word (p s r w a d : Bool) (t : Int) (h0 : 0 ≤ t) (h1 : t ≤ 4095) :
    fb (lo p s r w a d + t * 256) 1 = p ∧ fb (lo p s r w a d + t * 256) 2 = s ∧ fb (lo p s r w a d + t * 256) 4 = r ∧ fb (lo p s r w a d + t * 256) 8 = w ∧ fb (lo p s r w a d + t * 256) 16 = a ∧ fb (lo p s r w a d + t * 256) 32 = d := by
  have hr := lo_range p s r w a d
  have hm : (lo p s r w a d + t * 256) % 256 = lo p s r w a d := by omega
  have k1 : fb (lo p s r w a d + t * 256) 1 = fbN ((lo p s r w a d + t * 256) % 256).toNat 1 := fb_low (lo p s r w a d + t * 256) (by omega) (by omega) 1 (by decide)
  have k2 : fb (lo p s r w a d + t * 256) 2 = fbN ((lo p s r w a d + t * 256) % 256).toNat 2 := fb_low (lo p s r w a d + t * 256) (by omega) (by omega) 2 (by decide)
  have k3 : fb (lo p s r w a d + t * 256) 4 = fbN ((lo p s r w a d + t * 256) % 256).toNat 4 := fb_low (lo p s r w a d + t * 256) (by omega) (by omega) 4 (by decide)
  have k4 : fb (lo p s r w a d + t * 256) 8 = fbN ((lo p s r w a d + t * 256) % 256).toNat 8 := fb_low (lo p s r w a d + t * 256) (by omega) (by omega) 8 (by decide)
  have k5 : fb (lo p s r w a d + t * 256) 16 = fbN ((lo p s r w a d + t * 256) % 256).toNat 16 := fb_low (lo p s r w a d + t * 256) (by omega) (by omega) 16 (by decide)
  have k6 : fb (lo p s r w a d + t * 256) 32 = fbN ((lo p s r w a d + t * 256) % 256).toNat 32 := fb_low (lo p s r w a d + t * 256) (by omega) (by omega) 32 (by decide)
  rw [hm] at k1 k2 k3 k4 k5 k6
  rw [k1, k2, k3, k4, k5, k6]
  clear hm hr k1 k2 k3 k4 k5 k6
  revert p s r w a d
  decide
theorem mayW_word (p s r w a d : Bool) (t : Int) (h0 : 0 ≤ t) (h1 : t ≤ 4095) : mayW (lo p s r w a d + t * 256) = may p s r w a d t := by
  have hr := lo_range p s r w a d
  obtain ⟨k1, k2, k3, k4, k5, k6⟩ := fb_word p s r w a d t h0 h1
  have e1 : decide ((lo p s r w a d + t * 256) % 256 < 64) = true := by simp; omega
  have e2 : (lo p s r w a d + t * 256) / 256 = t := by omega
  unfold mayW
  rw [k1, k2, k3, k4, k5, k6, e1, e2, Bool.true_and]
theorem low_bits : ∀ c, c < 64 → bi (fbN c 1) 1 + bi (fbN c 2) 2 + bi (fbN c 4) 4 + bi (fbN c 8) 8 + bi (fbN c 16) 16 + bi (fbN c 32) 32 = (c : Int) := by
  decide +kernel
/-- A word that may be is the word of its bits. -/
theorem word_back (a : Int) (h0 : 0 ≤ a) (h1 : a < 18446744073709551616) (h : a % 256 < 64) : lo (fb a 1) (fb a 2) (fb a 4) (fb a 8) (fb a 16) (fb a 32) + a / 256 * 256 = a := by
  have k1 : fb a 1 = fbN (a % 256).toNat 1 := fb_low a h0 h1 1 (by decide)
  have k2 : fb a 2 = fbN (a % 256).toNat 2 := fb_low a h0 h1 2 (by decide)
  have k3 : fb a 4 = fbN (a % 256).toNat 4 := fb_low a h0 h1 4 (by decide)
  have k4 : fb a 8 = fbN (a % 256).toNat 8 := fb_low a h0 h1 8 (by decide)
  have k5 : fb a 16 = fbN (a % 256).toNat 16 := fb_low a h0 h1 16 (by decide)
  have k6 : fb a 32 = fbN (a % 256).toNat 32 := fb_low a h0 h1 32 (by decide)
  unfold lo
  rw [k1, k2, k3, k4, k5, k6, low_bits _ (by omega)]
  omega
end Go.Proofs.Ytinegjobjpmkcaa
