/- Configurations as plain data, and what is wrong with one: the answers of both sides as one list; no condition. -/
import Derived.Test.YtcmgjinjfaialaaGreatFn
namespace Go.Proofs.YtcmgjinjfaialaaGreat
open Go.ChangeShapes Go.WideShapes Go.ChangeAt Go.RowKit
set_option linter.unusedVariables false

/-- A partition: its colours (so many, the i-th), and its numbers. -/
structure Pa where
  n : Nat
  f : Nat → Int
  o : Int
  u : Int
  t : Int
  s : Int
  r : Int
  d : Int
  z : Int
/-- A configuration. -/
structure Cf where
  F : Int
  C : Int
  W : Int
  S : Int
  V : Int
  T : Int
  k : Co
  sl : Int
  pd : Int
  ft : Int
  tn : Nat
  tf : Nat → Int
  pn : Nat
  pf : Nat → Pa
/-- A power of two up to 4096. -/
def pow2 (n : Int) : Bool := n == 1 || n == 2 || n == 4 || n == 8 || n == 16 || n == 32 || n == 64 || n == 128 || n == 256 || n == 512 || n == 1024 || n == 2048 || n == 4096
theorem pow2_iff {n : Int} : pow2 n = true ↔ n = 1 ∨ n = 2 ∨ n = 4 ∨ n = 8 ∨ n = 16 ∨ n = 32 ∨ n = 64 ∨ n = 128 ∨ n = 256 ∨ n = 512 ∨ n = 1024 ∨ n = 2048 ∨ n = 4096 := by
  simp [pow2, or_assoc]
def pwH (n h : Int) : Bool := pow2 n && decide (n ≤ h)
/-- The sizes may be. -/
def mOk (c : Cf) : Bool := pwH c.C 16 && (inB c.F 1 4096 && (decide (c.F % c.C = 0) && (pwH c.S 4096 && (inB c.W 1 16 && (inB c.V 1 16 && (inB c.T 1 64 && inB c.pn 1 8))))))
structure Cf.MOk (c : Cf) : Prop where
  C : c.C = 1 ∨ c.C = 2 ∨ c.C = 4 ∨ c.C = 8 ∨ c.C = 16
  F1 : 1 ≤ c.F
  F2 : c.F ≤ 4096
  FC : c.F % c.C = 0
  S : pow2 c.S = true
  S1 : 1 ≤ c.S
  S2 : c.S ≤ 4096
  W1 : 1 ≤ c.W
  W2 : c.W ≤ 16
  V1 : 1 ≤ c.V
  V2 : c.V ≤ 16
  T1 : 1 ≤ c.T
  T2 : c.T ≤ 64
  p1 : 1 ≤ c.pn
  p2 : c.pn ≤ 8
theorem mOk_iff {c : Cf} : mOk c = true ↔ c.MOk := by
  constructor
  · intro h
    simp only [mOk, pwH, Bool.and_eq_true, decide_eq_true_eq, inB_iff] at h
    obtain ⟨⟨h1, h2⟩, ⟨h3, h4⟩, h5, ⟨h6, h7⟩, ⟨h8, h9⟩, ⟨h10, h11⟩, ⟨h12, h13⟩, h14, h15⟩ := h
    rw [pow2_iff] at h1
    have h6' := pow2_iff.1 h6
    exact ⟨by omega, h3, h4, h5, h6, by omega, h7, h8, h9, h10, h11, h12, h13, by omega, by omega⟩
  · intro h
    have hC : pow2 c.C = true := by rw [pow2_iff]; have := h.C; omega
    have hC' : c.C ≤ 16 := by have := h.C; omega
    simp only [mOk, pwH, Bool.and_eq_true, decide_eq_true_eq, inB_iff]
    exact ⟨⟨hC, hC'⟩, ⟨h.F1, h.F2⟩, h.FC, ⟨h.S, h.S2⟩, ⟨h.W1, h.W2⟩, ⟨h.V1, h.V2⟩, ⟨h.T1, h.T2⟩, by have := h.p1; omega, by have := h.p2; omega⟩
/-- The number ahead of the j-th. -/
def la (f : Nat → Int) (j : Nat) : Int := if j = 0 then -1 else f (j - 1)
theorem la_zero (f : Nat → Int) : la f 0 = -1 := rfl
theorem la_succ (f : Nat → Int) (j : Nat) : la f (j + 1) = f j := by simp [la]
/-- The first j numbers rise from 0 on, below C. -/
def rise (C : Int) (f : Nat → Int) : Nat → Bool
  | 0 => true
  | j + 1 => rise C f j && (decide (la f j < f j) && decide (f j < C))
theorem rise_succ {C : Int} {f : Nat → Int} {j : Nat} : rise C f (j + 1) = true ↔ rise C f j = true ∧ la f j < f j ∧ f j < C := by simp [rise]
theorem rise_less {C : Int} {f : Nat → Int} {j k : Nat} (h : rise C f k = true) (hj : j ≤ k) : rise C f j = true := by
  induction k with
  | zero => obtain rfl : j = 0 := by omega
            rfl
  | succ k ih =>
    by_cases e : j = k + 1
    · rw [e]; exact h
    · exact ih (rise_succ.1 h).1 (by omega)
theorem rise_at {C : Int} {f : Nat → Int} {k i : Nat} (h : rise C f k = true) (hi : i < k) : 0 ≤ f i ∧ f i < C ∧ la f i < f i := by
  induction i with
  | zero =>
    have h1 := rise_succ.1 (rise_less h (show 0 + 1 ≤ k by omega))
    rw [la_zero] at h1
    rw [la_zero]
    omega
  | succ i ih =>
    have h1 := rise_succ.1 (rise_less h (show (i + 1) + 1 ≤ k by omega))
    have h2 := ih (by omega)
    rw [la_succ] at h1
    rw [la_succ]
    omega
theorem rise_mono {C : Int} {f : Nat → Int} {k i j : Nat} (h : rise C f k = true) (hij : i < j) (hj : j < k) : f i < f j := by
  induction j with
  | zero => omega
  | succ j ih =>
    have h1 := (rise_at h hj).2.2
    rw [la_succ] at h1
    by_cases e : i = j
    · rw [e]; exact h1
    · exact Int.lt_trans (ih (by omega) (by omega)) h1
theorem rise_least {C : Int} {f : Nat → Int} {k i : Nat} (h : rise C f k = true) (hi : i < k) : (i : Int) ≤ f i := by
  induction i with
  | zero => exact (rise_at h hi).1
  | succ i ih =>
    have h1 := ih (by omega)
    have h2 := rise_mono h (show i < i + 1 by omega) hi
    omega
/-- As many numbers as colours at most. -/
theorem rise_len {C : Int} {f : Nat → Int} {k : Nat} (h : rise C f k = true) (hk : 0 < k) : (k : Int) ≤ C := by
  have h1 := rise_least h (show k - 1 < k by omega)
  have h2 := (rise_at h (show k - 1 < k by omega)).2.1
  omega
/-- Whether x is one of the numbers. -/
def has (l : Nat) (f : Nat → Int) (x : Int) : Bool := (List.range l).any fun i => f i == x
theorem has_iff {l : Nat} {f : Nat → Int} {x : Int} : has l f x = true ↔ ∃ i, i < l ∧ f i = x := by simp [has]
theorem has_zero (f : Nat → Int) (x : Int) : has 0 f x = false := by simp [has]
theorem has_succ (l : Nat) (f : Nat → Int) (x : Int) : has (l + 1) f x = (has l f x || f l == x) := by simp [has, List.range_succ]
theorem has_not {l : Nat} {f : Nat → Int} {x : Int} (h : has l f x = false) {i : Nat} (hi : i < l) : ¬ f i = x := fun e => by
  rw [has_iff.2 ⟨i, hi, e⟩] at h; cases h
/-- One of the first j colours of q is one of p's. -/
def sh1 (p q : Pa) (j : Nat) : Bool := (List.range j).any fun i => has p.n p.f (q.f i)
theorem sh1_zero (p q : Pa) : sh1 p q 0 = false := rfl
theorem sh1_succ (p q : Pa) (j : Nat) : sh1 p q (j + 1) = (sh1 p q j || has p.n p.f (q.f j)) := by simp [sh1, List.range_succ]
/-- One of the first k partitions has a colour of p's. -/
def sh (c : Cf) (p : Pa) (k : Nat) : Bool := (List.range k).any fun i => sh1 p (c.pf i) (c.pf i).n
theorem sh_zero (c : Cf) (p : Pa) : sh c p 0 = false := rfl
theorem sh_succ (c : Cf) (p : Pa) (k : Nat) : sh c p (k + 1) = (sh c p k || sh1 p (c.pf k) (c.pf k).n) := by simp [sh, List.range_succ]
theorem sh_iff {c : Cf} {p : Pa} {k : Nat} : sh c p k = true ↔ ∃ i, i < k ∧ ∃ j, j < (c.pf i).n ∧ has p.n p.f ((c.pf i).f j) = true := by simp [sh, sh1]
/-- The colours of a partition may be. -/
def okCol (c : Cf) (p : Nat) : Bool := rise c.C (c.pf p).f (c.pf p).n && (decide (0 < (c.pf p).n) && !sh c (c.pf p) p)
def qOk (x : Pa) : Bool := inB x.o 0 3 && (inB x.u 2 4096 && (inB x.t 4 4096 && (inB x.s 1 4096 && (inB x.r 1 4096 && inB x.d 1 4096))))
def zOk (x : Pa) : Bool := inB x.z 1 1024
/-- The slots of the first k partitions, of those that may be. -/
def sm (c : Cf) : Nat → Int
  | 0 => 0
  | k + 1 => sm c k + (bif zOk (c.pf k) then (c.pf k).z else 0)
/-- 2^Order. -/
def im (x : Pa) : Int := 2 ^ x.o.toNat
def fit (c : Cf) (x : Pa) : Bool := decide (im x ≤ c.F / c.C) && decide (im x + x.u + x.t + x.s + x.r + x.d ≤ x.n * (c.F / c.C))
def okQ (c : Cf) (p : Nat) : Bool := qOk (c.pf p) && (zOk (c.pf p) && (decide (sm c p + (c.pf p).z ≤ 1024) && (!mOk c || fit c (c.pf p))))
/-- What is wrong with a partition. -/
def pBad (c : Cf) (p : Nat) : Int := bif okCol c p then (bif okQ c p then 0 else 111) else 110
def lim (x : Pa) : Int := min (x.u + x.z - 1) (16 * x.d)
def shp (x : Pa) : Sh := ⟨im x, x.u, lim x, x.t⟩
def s0k (c : Cf) : Bool := inB c.sl 1 4194304 && (decide (c.pd ≤ 4194304) && decide (c.ft < 1099511627776))
end Go.Proofs.YtcmgjinjfaialaaGreat
