/- What cost's functions that hold costs and shapes against their limits, Touch and Switch, and those of the document's answer, give back, each for every number that they may be handed; no condition but the ranges that each theorem names. -/
import Derived.Test.YtkbpnkjjmipjfaaGreatRows
import Derived.WalkKit
import Derived.ProofKit
import Derived.OpenShut
import Derived.WalkSpells
import Derived.WalkLawsBesides
import Derived.Deep.QuietTactic
import Derived.BigQuiet
import Derived.Deep.AppendLies
import Derived.Deep.WholeRow
import Derived.Deep.RegionHeld3
namespace Go.Proofs.YtkbpnkjjmipjfaaGreat
open Go.ChangeShapes Go.WideShapes Go.ChangeAt Go.RowKit
set_option linter.unusedVariables false

theorem own : ownKnob Tryz.prog.godebug = none := by kernel_rfl
theorem ret_bool {a b : Bool} (h : a = b) : Ending.returned (.bool a) = .returned (.bool b) := by rw [h]
theorem ret_int {k : IntKind} {a b : Int} (h : a = b) : Ending.returned (.int k a) = .returned (.int k b) := by rw [h]
theorem ret_two {k k' : IntKind} {a b c d : Int} (h : a = b) (h' : c = d) : Ending.returned (.tuple #[.int k a, .int k' c]) = .returned (.tuple #[.int k b, .int k' d]) := by rw [h, h']
theorem below_new (w : World) (o : Obj) : Below w.heap.size w (w.alloc o) := (Below.refl _ _).alloc (Nat.le_refl _) _
theorem below_two (w : World) (o o' : Obj) : Below w.heap.size w ((w.alloc o).alloc o') := (below_new w o).alloc (by simp) _
theorem below_drewN {B : Nat} {w w' : World} (h : Below B w w') (n : Nat) : Below B w (w'.drewN n) := ⟨h.os, h.tape, h.output, h.size, h.block⟩
def inB (n a b : Int) : Bool := decide (a ≤ n) && decide (n ≤ b)
theorem inB_t {n a b : Int} (h : a ≤ n) (h' : n ≤ b) : inB n a b = true := by simp [inB, h, h']
theorem inB_iff {n a b : Int} : inB n a b = true ↔ a ≤ n ∧ n ≤ b := by simp [inB]
theorem inB_not {n a b : Int} (h : inB n a b = false) : n < a ∨ b < n := by simp [inB] at h; omega
structure Co where
  l1 : Int
  llc : Int
  mi : Int
  fa : Int
  st : Int
  di : Int
structure Sh where
  im : Int
  us : Int
  li : Int
  no : Int
structure Co.Ok (c : Co) : Prop where
  a1 : 1 ≤ c.l1
  a2 : c.l1 ≤ c.llc
  a3 : c.llc ≤ c.mi
  a4 : c.mi ≤ 65536
  b1 : 1 ≤ c.fa
  b2 : c.fa ≤ 65536
  d1 : 1 ≤ c.st
  d2 : c.st ≤ 65536
  e1 : 1 ≤ c.di
  e2 : c.di ≤ 65536
structure Sh.Ok (s : Sh) : Prop where
  im : s.im = 1 ∨ s.im = 2 ∨ s.im = 4 ∨ s.im = 8
  u1 : 2 ≤ s.us
  u2 : s.us ≤ 4096
  l1 : 1 ≤ s.li
  l2 : s.li ≤ 5120
  n1 : 1 ≤ s.no
  n2 : s.no ≤ 4096
def okC (c : Co) : Bool := decide (1 ≤ c.l1) && (decide (c.l1 ≤ c.llc) && (decide (c.llc ≤ c.mi) && (inB c.mi 1 65536 && (inB c.fa 1 65536 && (inB c.st 1 65536 && inB c.di 1 65536)))))
def okI (n : Int) : Bool := decide (n = 1) || (decide (n = 2) || (decide (n = 4) || decide (n = 8)))
def okS (s : Sh) : Bool := okI s.im && (inB s.us 2 4096 && (inB s.li 1 5120 && inB s.no 1 4096))
theorem okC_iff {c : Co} : okC c = true ↔ c.Ok := by
  constructor
  · intro h
    simp [okC, inB] at h
    exact ⟨by omega, by omega, by omega, by omega, by omega, by omega, by omega, by omega, by omega, by omega⟩
  · rintro ⟨_, _, _, _, _, _, _, _, _, _⟩
    simp [okC, inB]
    omega
theorem okS_iff {s : Sh} : okS s = true ↔ s.Ok := by
  constructor
  · intro h
    simp [okS, okI, inB] at h
    exact ⟨by omega, by omega, by omega, by omega, by omega, by omega, by omega⟩
  · rintro ⟨_, _, _, _, _, _, _⟩
    simp [okS, okI, inB]
    omega
def er (c : Co) : Int := if okC c then 0 else 100
def ers (c : Co) (s : Sh) : Int := if okC c then (if okS s then 0 else 2) else 100
def One (v : Value) (w : World) (x : Ending) (w' : World) : Prop := x = .returned v ∧ Below w.heap.size w w'
def Two (a e : Int) (w : World) (x : Ending) (w' : World) : Prop := x = .returned (.tuple #[.int .u64 a, .int .i64 e]) ∧ Below w.heap.size w w'

theorem costMayBe_any (a : Int) (w : World) : Calls Tryz.prog 212 #[.int .u64 a] w fun e w' => e = .returned (.bool (inB a 1 65536)) ∧ w' = w := by
  go_enter Tryz.func212, Tryz.ntmps212
  go_wp2
  all_goals (go_ret; exact ⟨ret_bool (by rw [Bool.eq_iff_iff]; simp [inB]; omega), rfl⟩)
theorem okC_ways (c : Co) : okC c = false ∧ (c.l1 < 1 ∨ (¬ c.l1 < 1 ∧ c.llc < c.l1) ∨ (¬ c.l1 < 1 ∧ ¬ c.llc < c.l1 ∧ c.mi < c.llc) ∨ (¬ c.l1 < 1 ∧ ¬ c.llc < c.l1 ∧ ¬ c.mi < c.llc ∧ inB c.mi 1 65536 = false)
    ∨ (¬ c.l1 < 1 ∧ ¬ c.llc < c.l1 ∧ ¬ c.mi < c.llc ∧ inB c.mi 1 65536 = true ∧ inB c.fa 1 65536 = false)
    ∨ (¬ c.l1 < 1 ∧ ¬ c.llc < c.l1 ∧ ¬ c.mi < c.llc ∧ inB c.mi 1 65536 = true ∧ inB c.fa 1 65536 = true ∧ inB c.st 1 65536 = false)
    ∨ (¬ c.l1 < 1 ∧ ¬ c.llc < c.l1 ∧ ¬ c.mi < c.llc ∧ inB c.mi 1 65536 = true ∧ inB c.fa 1 65536 = true ∧ inB c.st 1 65536 = true ∧ inB c.di 1 65536 = false))
    ∨ okC c = true ∧ ¬ c.l1 < 1 ∧ ¬ c.llc < c.l1 ∧ ¬ c.mi < c.llc ∧ inB c.mi 1 65536 = true ∧ inB c.fa 1 65536 = true ∧ inB c.st 1 65536 = true ∧ inB c.di 1 65536 = true := by
  unfold okC
  have e1 : decide (1 ≤ c.l1) = !decide (c.l1 < 1) := by rw [Bool.eq_iff_iff]; simp
  have e2 : decide (c.l1 ≤ c.llc) = !decide (c.llc < c.l1) := by rw [Bool.eq_iff_iff]; simp
  have e3 : decide (c.llc ≤ c.mi) = !decide (c.mi < c.llc) := by rw [Bool.eq_iff_iff]; simp
  rw [e1, e2, e3]
  by_cases h1 : c.l1 < 1
  · simp [h1]
  by_cases h2 : c.llc < c.l1
  · simp [h1, h2]
  by_cases h3 : c.mi < c.llc
  · simp [h1, h2, h3]
  cases h4 : inB c.mi 1 65536
  · simp [h1, h2, h3]
  cases h5 : inB c.fa 1 65536
  · simp [h1, h2, h3]
  cases h6 : inB c.st 1 65536
  · simp [h1, h2, h3]
  cases h7 : inB c.di 1 65536
  · simp [h1, h2, h3]
  · simp [h1, h2, h3]
theorem Check_any (c : Co) (w : World) : Calls Tryz.prog 167 #[.agg #[.int .u64 c.l1, .int .u64 c.llc, .int .u64 c.mi, .int .u64 c.fa, .int .u64 c.st, .int .u64 c.di]] w (One (.int .i64 (er c)) w) := by
  have hb := below_new w (.cells #[.int .u64 c.l1, .int .u64 c.llc, .int .u64 c.mi, .int .u64 c.fa, .int .u64 c.st, .int .u64 c.di] 24)
  rcases okC_ways c with ⟨h0, h | ⟨h1, h⟩ | ⟨h1, h2, h⟩ | ⟨h1, h2, h3, h⟩ | ⟨h1, h2, h3, h4, h⟩ | ⟨h1, h2, h3, h4, h5, h⟩ | ⟨h1, h2, h3, h4, h5, h6, h⟩⟩ | ⟨h0, h1, h2, h3, h4, h5, h6, h⟩
  all_goals
    unfold er
    rw [h0]
    go_enter Tryz.func167, Tryz.ntmps167
    go_wp2_with (go_at_call 212; refine (costMayBe_any _ _).mono ?_; rintro e w' ⟨rfl, rfl⟩)
    go_ret
    exact ⟨rfl, hb⟩
theorem shapeMayBe_any (s : Sh) (w : World) : Calls Tryz.prog 254 #[.agg #[.int .i64 s.im, .int .i64 s.us, .int .i64 s.li, .int .i64 s.no]] w (One (.bool (okS s)) w) := by
  have hb := below_new w (.cells #[.int .i64 s.im, .int .i64 s.us, .int .i64 s.li, .int .i64 s.no] 230)
  go_enter Tryz.func254, Tryz.ntmps254
  go_wp2
  all_goals
    go_ret
    refine ⟨ret_bool ?_, below_new _ _⟩
    rw [Bool.eq_iff_iff]
    simp [okS, okI, inB] at *
    try omega
theorem er_t {c : Co} (h : okC c = true) : er c = 0 := by unfold er; rw [h]; rfl
theorem er_f {c : Co} (h : okC c = false) : er c = 100 := by unfold er; rw [h]; rfl
theorem ers_t {c : Co} {s : Sh} (h : okC c = true) (h' : okS s = true) : ers c s = 0 := by unfold ers; rw [h, h']; rfl
theorem ers_f {c : Co} {s : Sh} (h : okC c = false) : ers c s = 100 := by unfold ers; rw [h]; rfl
theorem check_any (c : Co) (s : Sh) (w : World) : Calls Tryz.prog 250 #[.agg #[.int .u64 c.l1, .int .u64 c.llc, .int .u64 c.mi, .int .u64 c.fa, .int .u64 c.st, .int .u64 c.di], .agg #[.int .i64 s.im, .int .i64 s.us, .int .i64 s.li, .int .i64 s.no]] w (One (.int .i64 (ers c s)) w) := by
  have hb := below_two w (.cells #[.int .u64 c.l1, .int .u64 c.llc, .int .u64 c.mi, .int .u64 c.fa, .int .u64 c.st, .int .u64 c.di] 24) (.cells #[.int .i64 s.im, .int .i64 s.us, .int .i64 s.li, .int .i64 s.no] 230)
  have C := Check_any c ((w.alloc (.cells #[.int .u64 c.l1, .int .u64 c.llc, .int .u64 c.mi, .int .u64 c.fa, .int .u64 c.st, .int .u64 c.di] 24)).alloc (.cells #[.int .i64 s.im, .int .i64 s.us, .int .i64 s.li, .int .i64 s.no] 230))
  cases h0 : okC c
  · rw [er_f h0] at C
    rw [ers_f h0]
    clear h0
    go_enter Tryz.func250, Tryz.ntmps250
    go_wp2_with fail
    refine C.mono ?_
    rintro e w1 ⟨rfl, k⟩
    clear C
    go_wp2
    go_ret
    exact ⟨rfl, hb.trans (k.mono (by simp; omega))⟩
  · rw [er_t h0] at C
    obtain ⟨b, x, hs, he, hx⟩ : ∃ b x, okS s = b ∧ ers c s = x ∧ Hid (x = bif b then 0 else 2) := ⟨_, _, rfl, rfl, by show ers c s = _; unfold ers; rw [h0]; cases okS s <;> rfl⟩
    rw [he]
    clear h0 he
    go_enter Tryz.func250, Tryz.ntmps250
    go_wp2_with fail
    refine C.mono ?_
    rintro e w1 ⟨rfl, k⟩
    clear C
    have FIN : Hid (Below w.heap.size w w1) := hb.trans (k.mono (by simp; omega))
    have s0 : w1.cell? ⟨w.heap.size + 1, 0, none⟩ = some (.int .i64 s.im) := (k.cell (by simp)).trans (by simp [go_sem])
    have s1 : w1.cell? ⟨w.heap.size + 1, 1, none⟩ = some (.int .i64 s.us) := (k.cell (by simp)).trans (by simp [go_sem])
    have s2 : w1.cell? ⟨w.heap.size + 1, 2, none⟩ = some (.int .i64 s.li) := (k.cell (by simp)).trans (by simp [go_sem])
    have s3 : w1.cell? ⟨w.heap.size + 1, 3, none⟩ = some (.int .i64 s.no) := (k.cell (by simp)).trans (by simp [go_sem])
    clear k hb
    have D := shapeMayBe_any s w1
    rw [hs] at D
    clear hs
    go_wp2_with fail
    refine D.mono ?_
    rintro e w2 ⟨rfl, k⟩
    clear D s0 s1 s2 s3
    cases b
    · go_wp2
      go_ret
      exact ⟨ret_int hx.out.symm, FIN.out.trans (k.mono FIN.out.size)⟩
    · go_wp2
      go_ret
      exact ⟨ret_int hx.out.symm, FIN.out.trans (k.mono FIN.out.size)⟩
end Go.Proofs.YtkbpnkjjmipjfaaGreat
namespace Go.Proofs.YtkbpnkjjmipjfaaGreat
open Go.ChangeShapes Go.WideShapes Go.ChangeAt Go.RowKit
set_option linter.unusedVariables false

structure Pa where
  n : Nat
  f : Nat → Int
  o : Int
  u : Int
  t : Int
  s : Int
  r : Int
  d : Int
  z : Int
structure Cf where
  F : Int
  C : Int
  W : Int
  S : Int
  V : Int
  T : Int
  k : Co
  sl : Int
  pd : Int
  ft : Int
  tn : Nat
  tf : Nat → Int
  pn : Nat
  pf : Nat → Pa
def pow2 (n : Int) : Bool := n == 1 || n == 2 || n == 4 || n == 8 || n == 16 || n == 32 || n == 64 || n == 128 || n == 256 || n == 512 || n == 1024 || n == 2048 || n == 4096
theorem pow2_iff {n : Int} : pow2 n = true ↔ n = 1 ∨ n = 2 ∨ n = 4 ∨ n = 8 ∨ n = 16 ∨ n = 32 ∨ n = 64 ∨ n = 128 ∨ n = 256 ∨ n = 512 ∨ n = 1024 ∨ n = 2048 ∨ n = 4096 := by
  simp [pow2, or_assoc]
def pwH (n h : Int) : Bool := pow2 n && decide (n ≤ h)
def mOk (c : Cf) : Bool := pwH c.C 16 && (inB c.F 1 4096 && (decide (c.F % c.C = 0) && (pwH c.S 4096 && (inB c.W 1 16 && (inB c.V 1 16 && (inB c.T 1 64 && inB c.pn 1 8))))))
structure Cf.MOk (c : Cf) : Prop where
  C : c.C = 1 ∨ c.C = 2 ∨ c.C = 4 ∨ c.C = 8 ∨ c.C = 16
  F1 : 1 ≤ c.F
  F2 : c.F ≤ 4096
  FC : c.F % c.C = 0
  S : pow2 c.S = true
  S1 : 1 ≤ c.S
  S2 : c.S ≤ 4096
  W1 : 1 ≤ c.W
  W2 : c.W ≤ 16
  V1 : 1 ≤ c.V
  V2 : c.V ≤ 16
  T1 : 1 ≤ c.T
  T2 : c.T ≤ 64
  p1 : 1 ≤ c.pn
  p2 : c.pn ≤ 8
theorem mOk_iff {c : Cf} : mOk c = true ↔ c.MOk := by
  constructor
  · intro h
    simp only [mOk, pwH, Bool.and_eq_true, decide_eq_true_eq, inB_iff] at h
    obtain ⟨⟨h1, h2⟩, ⟨h3, h4⟩, h5, ⟨h6, h7⟩, ⟨h8, h9⟩, ⟨h10, h11⟩, ⟨h12, h13⟩, h14, h15⟩ := h
    rw [pow2_iff] at h1
    have h6' := pow2_iff.1 h6
    exact ⟨by omega, h3, h4, h5, h6, by omega, h7, h8, h9, h10, h11, h12, h13, by omega, by omega⟩
  · intro h
    have hC : pow2 c.C = true := by rw [pow2_iff]; have := h.C; omega
    have hC' : c.C ≤ 16 := by have := h.C; omega
    simp only [mOk, pwH, Bool.and_eq_true, decide_eq_true_eq, inB_iff]
    exact ⟨⟨hC, hC'⟩, ⟨h.F1, h.F2⟩, h.FC, ⟨h.S, h.S2⟩, ⟨h.W1, h.W2⟩, ⟨h.V1, h.V2⟩, ⟨h.T1, h.T2⟩, by have := h.p1; omega, by have := h.p2; omega⟩
def la (f : Nat → Int) (j : Nat) : Int := if j = 0 then -1 else f (j - 1)
theorem la_zero (f : Nat → Int) : la f 0 = -1 := rfl
theorem la_succ (f : Nat → Int) (j : Nat) : la f (j + 1) = f j := by simp [la]
def rise (C : Int) (f : Nat → Int) : Nat → Bool
  | 0 => true
  | j + 1 => rise C f j && (decide (la f j < f j) && decide (f j < C))
theorem rise_succ {C : Int} {f : Nat → Int} {j : Nat} : rise C f (j + 1) = true ↔ rise C f j = true ∧ la f j < f j ∧ f j < C := by simp [rise]
theorem rise_less {C : Int} {f : Nat → Int} {j k : Nat} (h : rise C f k = true) (hj : j ≤ k) : rise C f j = true := by
  induction k with
  | zero => obtain rfl : j = 0 := by omega
            rfl
  | succ k ih =>
    by_cases e : j = k + 1
    · rw [e]; exact h
    · exact ih (rise_succ.1 h).1 (by omega)
theorem rise_at {C : Int} {f : Nat → Int} {k i : Nat} (h : rise C f k = true) (hi : i < k) : 0 ≤ f i ∧ f i < C ∧ la f i < f i := by
  induction i with
  | zero =>
    have h1 := rise_succ.1 (rise_less h (show 0 + 1 ≤ k by omega))
    rw [la_zero] at h1
    rw [la_zero]
    omega
  | succ i ih =>
    have h1 := rise_succ.1 (rise_less h (show (i + 1) + 1 ≤ k by omega))
    have h2 := ih (by omega)
    rw [la_succ] at h1
    rw [la_succ]
    omega
theorem rise_mono {C : Int} {f : Nat → Int} {k i j : Nat} (h : rise C f k = true) (hij : i < j) (hj : j < k) : f i < f j := by
  induction j with
  | zero => omega
  | succ j ih =>
    have h1 := (rise_at h hj).2.2
    rw [la_succ] at h1
    by_cases e : i = j
    · rw [e]; exact h1
    · exact Int.lt_trans (ih (by omega) (by omega)) h1
theorem rise_least {C : Int} {f : Nat → Int} {k i : Nat} (h : rise C f k = true) (hi : i < k) : (i : Int) ≤ f i := by
  induction i with
  | zero => exact (rise_at h hi).1
  | succ i ih =>
    have h1 := ih (by omega)
    have h2 := rise_mono h (show i < i + 1 by omega) hi
    omega
theorem rise_len {C : Int} {f : Nat → Int} {k : Nat} (h : rise C f k = true) (hk : 0 < k) : (k : Int) ≤ C := by
  have h1 := rise_least h (show k - 1 < k by omega)
  have h2 := (rise_at h (show k - 1 < k by omega)).2.1
  omega
def has (l : Nat) (f : Nat → Int) (x : Int) : Bool := (List.range l).any fun i => f i == x
theorem has_iff {l : Nat} {f : Nat → Int} {x : Int} : has l f x = true ↔ ∃ i, i < l ∧ f i = x := by simp [has]
def sh1 (p q : Pa) (j : Nat) : Bool := (List.range j).any fun i => has p.n p.f (q.f i)
theorem sh1_succ (p q : Pa) (j : Nat) : sh1 p q (j + 1) = (sh1 p q j || has p.n p.f (q.f j)) := by simp [sh1, List.range_succ]
def sh (c : Cf) (p : Pa) (k : Nat) : Bool := (List.range k).any fun i => sh1 p (c.pf i) (c.pf i).n
def okCol (c : Cf) (p : Nat) : Bool := rise c.C (c.pf p).f (c.pf p).n && (decide (0 < (c.pf p).n) && !sh c (c.pf p) p)
def qOk (x : Pa) : Bool := inB x.o 0 3 && (inB x.u 2 4096 && (inB x.t 4 4096 && (inB x.s 1 4096 && (inB x.r 1 4096 && inB x.d 1 4096))))
def zOk (x : Pa) : Bool := inB x.z 1 1024
def sm (c : Cf) : Nat → Int
  | 0 => 0
  | k + 1 => sm c k + (bif zOk (c.pf k) then (c.pf k).z else 0)
def im (x : Pa) : Int := 2 ^ x.o.toNat
def fit (c : Cf) (x : Pa) : Bool := decide (im x ≤ c.F / c.C) && decide (im x + x.u + x.t + x.s + x.r + x.d ≤ x.n * (c.F / c.C))
def okQ (c : Cf) (p : Nat) : Bool := qOk (c.pf p) && (zOk (c.pf p) && (decide (sm c p + (c.pf p).z ≤ 1024) && (!mOk c || fit c (c.pf p))))
def pBad (c : Cf) (p : Nat) : Int := bif okCol c p then (bif okQ c p then 0 else 111) else 110
def lim (x : Pa) : Int := min (x.u + x.z - 1) (16 * x.d)
def shp (x : Pa) : Sh := ⟨im x, x.u, lim x, x.t⟩
def s0k (c : Cf) : Bool := inB c.sl 1 4194304 && (decide (c.pd ≤ 4194304) && decide (c.ft < 1099511627776))
end Go.Proofs.YtkbpnkjjmipjfaaGreat
namespace Go.Proofs.YtkbpnkjjmipjfaaGreat
open Go.ChangeShapes Go.WideShapes Go.ChangeAt Go.RowKit
set_option linter.unusedVariables false

structure Six (w : World) (g : Nat) (c : Co) : Prop where
  lt : g < w.heap.size
  c0 : w.cell? ⟨g, 0, none⟩ = some (.int .u64 c.l1)
  c1 : w.cell? ⟨g, 1, none⟩ = some (.int .u64 c.llc)
  c2 : w.cell? ⟨g, 2, none⟩ = some (.int .u64 c.mi)
  c3 : w.cell? ⟨g, 3, none⟩ = some (.int .u64 c.fa)
  c4 : w.cell? ⟨g, 4, none⟩ = some (.int .u64 c.st)
  c5 : w.cell? ⟨g, 5, none⟩ = some (.int .u64 c.di)
structure Fou (w : World) (g : Nat) (s : Sh) : Prop where
  lt : g < w.heap.size
  c0 : w.cell? ⟨g, 0, none⟩ = some (.int .i64 s.im)
  c1 : w.cell? ⟨g, 1, none⟩ = some (.int .i64 s.us)
  c2 : w.cell? ⟨g, 2, none⟩ = some (.int .i64 s.li)
  c3 : w.cell? ⟨g, 3, none⟩ = some (.int .i64 s.no)
theorem cell_new (w : World) (L : List Value) (ty : TypeId) (i : Nat) : (w.alloc (.cells L.toArray ty)).cell? ⟨w.heap.size, i, none⟩ = L[i]? := by
  rw [cell_of_row (w.alloc (.cells L.toArray ty)) w.heap.size i _ ty (0, 0) (heap_alloc_last w _)]; simp
theorem six_new (w : World) (c : Co) : Six (w.alloc (.cells #[.int .u64 c.l1, .int .u64 c.llc, .int .u64 c.mi, .int .u64 c.fa, .int .u64 c.st, .int .u64 c.di] 24)) w.heap.size c :=
  ⟨by simp, cell_new w _ 24 0, cell_new w _ 24 1, cell_new w _ 24 2, cell_new w _ 24 3, cell_new w _ 24 4, cell_new w _ 24 5⟩
theorem fou_new (w : World) (s : Sh) : Fou (w.alloc (.cells #[.int .i64 s.im, .int .i64 s.us, .int .i64 s.li, .int .i64 s.no] 230)) w.heap.size s :=
  ⟨by simp, cell_new w _ 230 0, cell_new w _ 230 1, cell_new w _ 230 2, cell_new w _ 230 3⟩
theorem Six.below {w w' : World} {g : Nat} {c : Co} (h : Six w g c) (k : Below w.heap.size w w') : Six w' g c :=
  ⟨Nat.lt_of_lt_of_le h.lt k.size, (k.cell h.lt).trans h.c0, (k.cell h.lt).trans h.c1, (k.cell h.lt).trans h.c2, (k.cell h.lt).trans h.c3, (k.cell h.lt).trans h.c4, (k.cell h.lt).trans h.c5⟩
theorem Fou.below {w w' : World} {g : Nat} {s : Sh} (h : Fou w g s) (k : Below w.heap.size w w') : Fou w' g s :=
  ⟨Nat.lt_of_lt_of_le h.lt k.size, (k.cell h.lt).trans h.c0, (k.cell h.lt).trans h.c1, (k.cell h.lt).trans h.c2, (k.cell h.lt).trans h.c3⟩
def tc (c : Co) (a b : Bool) : Int := bif a then c.l1 else bif b then c.llc else c.mi
def okL (l t : Int) : Bool := inB l 0 65536 && inB t 0 64
theorem prod_le (a b A B : Int) (h0 : 0 ≤ a) (h1 : a ≤ A) (h2 : 0 ≤ b) (h3 : b ≤ B) : 0 ≤ a * b ∧ a * b ≤ A * B := ⟨Int.mul_nonneg h0 h2, Int.mul_le_mul h1 h3 h2 (Int.le_trans h0 h1)⟩
theorem Switch_ok (c : Co) (h : okC c = true) (l t : Int) (hl : okL l t = true) (w : World) : Calls Tryz.prog 237 #[.agg #[.int .u64 c.l1, .int .u64 c.llc, .int .u64 c.mi, .int .u64 c.fa, .int .u64 c.st, .int .u64 c.di], .int .i64 l, .int .i64 t] w (Two ((l + t) * c.st) 0 w) := by
  have hb := below_new w (.cells #[.int .u64 c.l1, .int .u64 c.llc, .int .u64 c.mi, .int .u64 c.fa, .int .u64 c.st, .int .u64 c.di] 24)
  have S := six_new w c
  have C := Check_any c (w.alloc (.cells #[.int .u64 c.l1, .int .u64 c.llc, .int .u64 c.mi, .int .u64 c.fa, .int .u64 c.st, .int .u64 c.di] 24))
  have k := okC_iff.1 h
  rw [er_t h] at C
  simp [okL, inB] at hl
  obtain ⟨⟨l0, l1⟩, t0, t1⟩ := hl
  have l0 : ¬ l < 0 := by omega
  have l1 : ¬ 65536 < l := by omega
  have t0 : ¬ t < 0 := by omega
  have t1 : ¬ 64 < t := by omega
  have hp := prod_le (l + t) c.st 65600 65536 (by omega) (by omega) (by have := k.d1; omega) k.d2
  clear h k
  go_enter Tryz.func237, Tryz.ntmps237
  go_wp2_with fail
  refine C.mono ?_
  rintro e w1 ⟨rfl, k⟩
  have FIN : Hid (Below w.heap.size w w1) := hb.trans (k.mono (by simp))
  obtain ⟨_, c0, c1, c2, c3, c4, c5⟩ := S.below k
  clear C k S hb
  go_wp2
  go_ret2
  exact ⟨ret_two (by go_num) rfl, FIN.out⟩
end Go.Proofs.YtkbpnkjjmipjfaaGreat
namespace Go.Proofs.YtkbpnkjjmipjfaaGreat
open Go.ChangeShapes Go.WideShapes Go.ChangeAt Go.RowKit
set_option linter.unusedVariables false

def ent (c : Co) (s : Sh) : Int := s.im * c.mi
def fin (c : Co) (s : Sh) : Int := (2 * s.us + 1) * c.st + c.di
def pag (c : Co) : Int := c.st + 2 * c.mi
def bd (c : Co) (s : Sh) : Nat → Int
  | 1 => ent c s + 17 * c.mi
  | 2 => ent c s + s.li * pag c + c.mi
  | 3 => ent c s + c.mi + 16 * s.no * c.mi + s.li * pag c
  | 4 => ent c s + 113 * c.mi
  | 5 => ent c s + 64 * pag c
  | 6 => ent c s + 64 * (c.st + c.mi)
  | 7 => max (ent c s + 113 * c.mi) (ent c s + 64 * pag c)
  | 8 => ent c s + 26 * c.mi + c.fa + fin c s + c.di
  | 9 => ent c s + 64 * c.mi + 2 * c.fa + 2 * fin c s + c.di
  | _ => ent c s
structure Pt (c : Co) (s : Sh) : Prop where
  e0 : c.mi ≤ ent c s
  e1 : ent c s ≤ 524288
  f0 : 1 ≤ fin c s
  f1 : fin c s ≤ 537001984
  p0 : 1 ≤ pag c
  p1 : pag c ≤ 196608
  lp0 : 0 ≤ s.li * pag c
  lp1 : s.li * pag c ≤ 1006632960
  nm0 : 0 ≤ 16 * s.no * c.mi
  nm1 : 16 * s.no * c.mi ≤ 4294967296
  us0 : 0 ≤ (2 * s.us + 1) * c.st
  us1 : (2 * s.us + 1) * c.st ≤ 536936448
theorem pt_of {c : Co} {s : Sh} (h : c.Ok) (k : s.Ok) : Pt c s := by
  obtain ⟨_, _, _, _, _, _, _, _, _, _⟩ := h
  obtain ⟨_, _, _, _, _, _, _⟩ := k
  have he := prod_le s.im c.mi 8 65536 (by omega) (by omega) (by omega) (by omega)
  have hf := prod_le (2 * s.us + 1) c.st 8193 65536 (by omega) (by omega) (by omega) (by omega)
  have hl := prod_le s.li (pag c) 5120 196608 (by omega) (by omega) (by unfold pag; omega) (by unfold pag; omega)
  have hn := prod_le (16 * s.no) c.mi 65536 65536 (by omega) (by omega) (by omega) (by omega)
  have hm : c.mi ≤ s.im * c.mi := by
    have := Int.mul_le_mul_of_nonneg_right (show (1 : Int) ≤ s.im by omega) (show 0 ≤ c.mi by omega)
    omega
  refine ⟨hm, ?_, ?_, ?_, ?_, ?_, hl.1, ?_, hn.1, ?_, hf.1, ?_⟩
  · unfold ent; omega
  · unfold fin; omega
  · unfold fin; omega
  · unfold pag; omega
  · unfold pag; omega
  · omega
  · omega
  · omega
def Blk (w : World) (g : Nat) (ty : TypeId) (L : List Value) : Prop := w.heap[g]? = some (.cells L.toArray ty (0, 0))
theorem Blk.lt {w : World} {g : Nat} {ty : TypeId} {L : List Value} (h : Blk w g ty L) : g < w.heap.size := (Array.getElem?_eq_some_iff.1 h).1
theorem Blk.cell {w : World} {g : Nat} {ty : TypeId} {L : List Value} (h : Blk w g ty L) (i : Nat) : w.cell? ⟨g, i, none⟩ = L[i]? := by
  rw [cell_of_row w g i _ ty (0, 0) h]; simp
theorem Blk.of_eq {w w' : World} {g : Nat} {ty : TypeId} {L : List Value} (h : Blk w g ty L) (e : w'.heap[g]? = w.heap[g]?) : Blk w' g ty L := by unfold Blk at *; rw [e, h]
theorem Blk.below {w w' : World} {g : Nat} {ty : TypeId} {L : List Value} (h : Blk w g ty L) (k : Below w.heap.size w w') : Blk w' g ty L := h.of_eq (k.block g h.lt)
theorem blk_new (w : World) (L : List Value) (ty : TypeId) : Blk (w.alloc (.cells L.toArray ty)) w.heap.size ty L := heap_alloc_last w _
theorem Blk.row {w : World} {g : Nat} {ty : TypeId} {L M : List Value} (h : Blk w g ty L) : Blk (w.setRow g M.toArray) g ty M := setRow_heap w g _ _ ty _ h
theorem Blk.other {w : World} {g b : Nat} {ty : TypeId} {L : List Value} {M : Array Value} (h : Blk w g ty L) (hne : b ≠ g) : Blk (w.setRow b M) g ty L := by
  refine h.of_eq ?_
  simp only [World.setRow, Array.getElem?_modify, if_neg hne]
theorem Blk.six {w : World} {g : Nat} {c : Co} (h : Blk w g 24 [.int .u64 c.l1, .int .u64 c.llc, .int .u64 c.mi, .int .u64 c.fa, .int .u64 c.st, .int .u64 c.di]) : Six w g c :=
  ⟨h.lt, h.cell 0, h.cell 1, h.cell 2, h.cell 3, h.cell 4, h.cell 5⟩
theorem below_row {w0 w : World} {B g : Nat} {M : Array Value} (h : Below B w0 w) (hg : B ≤ g) : Below B w0 (w.setRow g M) :=
  ⟨h.os, h.tape, h.output, by rw [setRow_size]; exact h.size, fun i hi => by
    rw [← h.block i hi]
    simp only [World.setRow, Array.getElem?_modify, if_neg (show ¬ g = i by omega)]⟩
structure Bn (w : World) (gc gl gn ge gf gp go : Nat) (c : Co) (s : Sh) : Prop where
  cs : Six w gc c
  ll : gl < w.heap.size
  l : w.cell? ⟨gl, 0, none⟩ = some (.int .u64 s.li)
  nl : gn < w.heap.size
  n : w.cell? ⟨gn, 0, none⟩ = some (.int .u64 s.no)
  el : ge < w.heap.size
  e : w.cell? ⟨ge, 0, none⟩ = some (.int .u64 (ent c s))
  fl : gf < w.heap.size
  f : w.cell? ⟨gf, 0, none⟩ = some (.int .u64 (fin c s))
  pl : gp < w.heap.size
  p : w.cell? ⟨gp, 0, none⟩ = some (.int .u64 (pag c))
  ol : go < w.heap.size
  o4 : w.cell? ⟨go, 4, none⟩ = some (.func (.func 259) #[] #[.pointer (some ⟨ge, 0, none⟩), .pointer (some ⟨gc, 0, none⟩)])
  o5 : w.cell? ⟨go, 5, none⟩ = some (.func (.func 260) #[] #[.pointer (some ⟨ge, 0, none⟩), .pointer (some ⟨gp, 0, none⟩)])
theorem Bn.below {w w' : World} {gc gl gn ge gf gp go : Nat} {c : Co} {s : Sh} (h : Bn w gc gl gn ge gf gp go c s) (k : Below w.heap.size w w') : Bn w' gc gl gn ge gf gp go c s :=
  ⟨h.cs.below k, Nat.lt_of_lt_of_le h.ll k.size, (k.cell h.ll).trans h.l, Nat.lt_of_lt_of_le h.nl k.size, (k.cell h.nl).trans h.n, Nat.lt_of_lt_of_le h.el k.size, (k.cell h.el).trans h.e, Nat.lt_of_lt_of_le h.fl k.size, (k.cell h.fl).trans h.f,
    Nat.lt_of_lt_of_le h.pl k.size, (k.cell h.pl).trans h.p, Nat.lt_of_lt_of_le h.ol k.size, (k.cell h.ol).trans h.o4, (k.cell h.ol).trans h.o5⟩
structure Tw (w0 w : World) (gl gn : Nat) (c : Co) (s : Sh) : Prop where
  be : Below w0.heap.size w0 w
  cs : Blk w w0.heap.size 24 [.int .u64 c.l1, .int .u64 c.llc, .int .u64 c.mi, .int .u64 c.fa, .int .u64 c.st, .int .u64 c.di]
  r : Blk w (w0.heap.size + 1 + 1) 309 [.nilFunc, .nilFunc, .nilFunc, .nilFunc, .nilFunc, .nilFunc, .nilFunc, .nilFunc, .nilFunc, .nilFunc, .nilFunc]
  l : Blk w gl 22 [.int .u64 s.li]
  n : Blk w gn 22 [.int .u64 s.no]
  e : Blk w (w0.heap.size + 1 + 1 + 1 + 1 + 1) 22 [.int .u64 (ent c s)]
  f : Blk w (w0.heap.size + 1 + 1 + 1 + 1 + 1 + 1) 22 [.int .u64 (fin c s)]
  p : Blk w (w0.heap.size + 1 + 1 + 1 + 1 + 1 + 1 + 1) 22 [.int .u64 (pag c)]
  o : Blk w (w0.heap.size + 1 + 1 + 1 + 1 + 1 + 1 + 1 + 1) 309 [.nilFunc, .nilFunc, .nilFunc, .nilFunc, .nilFunc, .nilFunc, .nilFunc, .nilFunc, .nilFunc, .nilFunc, .nilFunc]
theorem Blk.alloc {w : World} {g : Nat} {ty : TypeId} {L : List Value} (h : Blk w g ty L) (o : Obj) : Blk (w.alloc o) g ty L := h.below (below_new w o)
theorem blk_at {w : World} (L : List Value) (ty : TypeId) {g : Nat} (hg : g = w.heap.size) : Blk (w.alloc (.cells L.toArray ty)) g ty L := by subst hg; exact blk_new w L ty
theorem tow_a (w : World) (c : Co) (s : Sh) : Tw w ((((((((((w.alloc (.cells #[.int .u64 c.l1, .int .u64 c.llc, .int .u64 c.mi, .int .u64 c.fa, .int .u64 c.st, .int .u64 c.di] 24)).alloc (.cells #[.int .i64 s.im, .int .i64 s.us, .int .i64 s.li, .int .i64 s.no] 230)).alloc (.cells #[.nilFunc, .nilFunc, .nilFunc, .nilFunc, .nilFunc, .nilFunc, .nilFunc, .nilFunc, .nilFunc, .nilFunc, .nilFunc] 309)).alloc (.cells #[.int .u64 s.li] 22)).alloc (.cells #[.int .u64 s.no] 22)).alloc (.cells #[.int .u64 (s.im * c.mi)] 22)).alloc (.cells #[.int .u64 ((2 * s.us + 1) * c.st + c.di)] 22)).alloc (.cells #[.int .u64 (c.st + 2 * c.mi)] 22)).alloc (.cells #[.nilFunc, .nilFunc, .nilFunc, .nilFunc, .nilFunc, .nilFunc, .nilFunc, .nilFunc, .nilFunc, .nilFunc, .nilFunc] 309)).drew) (w.heap.size + 1 + 1 + 1) (w.heap.size + 1 + 1 + 1 + 1) c s where
  be := by refine Below.drew ?_; repeat' (first | exact Below.refl _ _ | refine Below.alloc ?_ (by simp [Nat.add_assoc]) _)
  cs := ((((((((blk_at _ 24 rfl).alloc _).alloc _).alloc _).alloc _).alloc _).alloc _).alloc _).alloc _
  r := ((((((blk_at _ 309 (by simp [Nat.add_assoc])).alloc _).alloc _).alloc _).alloc _).alloc _).alloc _
  l := (((((blk_at _ 22 (by simp [Nat.add_assoc])).alloc _).alloc _).alloc _).alloc _).alloc _
  n := ((((blk_at _ 22 (by simp [Nat.add_assoc])).alloc _).alloc _).alloc _).alloc _
  e := (((blk_at _ 22 (by simp [Nat.add_assoc])).alloc _).alloc _).alloc _
  f := ((blk_at _ 22 (by simp [Nat.add_assoc])).alloc _).alloc _
  p := (blk_at _ 22 (by simp [Nat.add_assoc])).alloc _
  o := blk_at _ 309 (by simp [Nat.add_assoc])
theorem tow_b (w : World) (c : Co) (s : Sh) : Tw w ((((((((((w.alloc (.cells #[.int .u64 c.l1, .int .u64 c.llc, .int .u64 c.mi, .int .u64 c.fa, .int .u64 c.st, .int .u64 c.di] 24)).alloc (.cells #[.int .i64 s.im, .int .i64 s.us, .int .i64 s.li, .int .i64 s.no] 230)).alloc (.cells #[.nilFunc, .nilFunc, .nilFunc, .nilFunc, .nilFunc, .nilFunc, .nilFunc, .nilFunc, .nilFunc, .nilFunc, .nilFunc] 309)).alloc (.cells #[.int .u64 s.no] 22)).alloc (.cells #[.int .u64 s.li] 22)).alloc (.cells #[.int .u64 (s.im * c.mi)] 22)).alloc (.cells #[.int .u64 ((2 * s.us + 1) * c.st + c.di)] 22)).alloc (.cells #[.int .u64 (c.st + 2 * c.mi)] 22)).alloc (.cells #[.nilFunc, .nilFunc, .nilFunc, .nilFunc, .nilFunc, .nilFunc, .nilFunc, .nilFunc, .nilFunc, .nilFunc, .nilFunc] 309)).drew) (w.heap.size + 1 + 1 + 1 + 1) (w.heap.size + 1 + 1 + 1) c s where
  be := by refine Below.drew ?_; repeat' (first | exact Below.refl _ _ | refine Below.alloc ?_ (by simp [Nat.add_assoc]) _)
  cs := ((((((((blk_at _ 24 rfl).alloc _).alloc _).alloc _).alloc _).alloc _).alloc _).alloc _).alloc _
  r := ((((((blk_at _ 309 (by simp [Nat.add_assoc])).alloc _).alloc _).alloc _).alloc _).alloc _).alloc _
  l := ((((blk_at _ 22 (by simp [Nat.add_assoc])).alloc _).alloc _).alloc _).alloc _
  n := (((((blk_at _ 22 (by simp [Nat.add_assoc])).alloc _).alloc _).alloc _).alloc _).alloc _
  e := (((blk_at _ 22 (by simp [Nat.add_assoc])).alloc _).alloc _).alloc _
  f := ((blk_at _ 22 (by simp [Nat.add_assoc])).alloc _).alloc _
  p := (blk_at _ 22 (by simp [Nat.add_assoc])).alloc _
  o := blk_at _ 309 (by simp [Nat.add_assoc])
end Go.Proofs.YtkbpnkjjmipjfaaGreat
namespace Go.Proofs.YtkbpnkjjmipjfaaGreat
open Go.ChangeShapes Go.WideShapes Go.ChangeAt Go.RowKit
set_option linter.unusedVariables false

def Arg (w : World) (ao : Option Addr) (l : Nat) (f : Nat → Int) : Prop := l = 0 ∨ ∃ b off, ao = some ⟨b, off, none⟩ ∧ b < w.heap.size ∧ ∀ i, i < l → w.cell? ⟨b, off + i, none⟩ = some (.int .i64 (f i))
theorem Arg.at' {w w' : World} {ao : Option Addr} {l : Nat} {f : Nat → Int} (h : Arg w ao l f) (hb : Below w.heap.size w w') {i : Nat} (hi : i < l) : ∃ b off, ao = some ⟨b, off, none⟩ ∧ w'.cell? ⟨b, off + i, none⟩ = some (.int .i64 (f i)) := by
  rcases h with h | ⟨b, off, e, hl, hr⟩
  · omega
  · exact ⟨b, off, e, (hb.cell (p := ⟨b, off + i, none⟩) hl).trans (hr i hi)⟩
theorem Arg.below {w w' : World} {ao : Option Addr} {l : Nat} {f : Nat → Int} (h : Arg w ao l f) (hb : Below w.heap.size w w') : Arg w' ao l f := by
  rcases h with h | ⟨b, off, e, hl, hr⟩
  · exact Or.inl h
  · exact Or.inr ⟨b, off, e, Nat.lt_of_lt_of_le hl hb.size, fun i hi => (hb.cell (p := ⟨b, off + i, none⟩) hl).trans (hr i hi)⟩
structure Eig (w : World) (b o : Nat) (q : Option Addr) (m : Nat) (x : Pa) : Prop where
  lt : b < w.heap.size
  c0 : w.cell? ⟨b, o, none⟩ = some (.slice q x.n m)
  c1 : w.cell? ⟨b, o + 1, none⟩ = some (.int .i64 x.o)
  c2 : w.cell? ⟨b, o + 2, none⟩ = some (.int .i64 x.u)
  c3 : w.cell? ⟨b, o + 3, none⟩ = some (.int .i64 x.t)
  c4 : w.cell? ⟨b, o + 4, none⟩ = some (.int .i64 x.s)
  c5 : w.cell? ⟨b, o + 5, none⟩ = some (.int .i64 x.r)
  c6 : w.cell? ⟨b, o + 6, none⟩ = some (.int .i64 x.d)
  c7 : w.cell? ⟨b, o + 7, none⟩ = some (.int .i64 x.z)
theorem Eig.below {w w' : World} {b o : Nat} {q : Option Addr} {m : Nat} {x : Pa} (h : Eig w b o q m x) (k : Below w.heap.size w w') : Eig w' b o q m x :=
  ⟨Nat.lt_of_lt_of_le h.lt k.size, (k.cell h.lt).trans h.c0, (k.cell h.lt).trans h.c1, (k.cell h.lt).trans h.c2, (k.cell h.lt).trans h.c3, (k.cell h.lt).trans h.c4, (k.cell h.lt).trans h.c5, (k.cell h.lt).trans h.c6, (k.cell h.lt).trans h.c7⟩
structure Ebx (w : World) (b : Nat) (q : Option Addr) (m : Nat) (x : Pa) : Prop where
  lt : b < w.heap.size
  c0 : w.cell? ⟨b, 0, none⟩ = some (.slice q x.n m)
  c1 : w.cell? ⟨b, 1, none⟩ = some (.int .i64 x.o)
  c2 : w.cell? ⟨b, 2, none⟩ = some (.int .i64 x.u)
  c3 : w.cell? ⟨b, 3, none⟩ = some (.int .i64 x.t)
  c4 : w.cell? ⟨b, 4, none⟩ = some (.int .i64 x.s)
  c5 : w.cell? ⟨b, 5, none⟩ = some (.int .i64 x.r)
  c6 : w.cell? ⟨b, 6, none⟩ = some (.int .i64 x.d)
  c7 : w.cell? ⟨b, 7, none⟩ = some (.int .i64 x.z)
theorem Ebx.below {w w' : World} {b : Nat} {q : Option Addr} {m : Nat} {x : Pa} (h : Ebx w b q m x) (k : Below w.heap.size w w') : Ebx w' b q m x :=
  ⟨Nat.lt_of_lt_of_le h.lt k.size, (k.cell h.lt).trans h.c0, (k.cell h.lt).trans h.c1, (k.cell h.lt).trans h.c2, (k.cell h.lt).trans h.c3, (k.cell h.lt).trans h.c4, (k.cell h.lt).trans h.c5, (k.cell h.lt).trans h.c6, (k.cell h.lt).trans h.c7⟩
theorem ebx_new (w : World) (q : Option Addr) (m : Nat) (x : Pa) : Ebx (w.alloc (.cells #[.slice q x.n m, .int .i64 x.o, .int .i64 x.u, .int .i64 x.t, .int .i64 x.s, .int .i64 x.r, .int .i64 x.d, .int .i64 x.z] 109)) w.heap.size q m x :=
  ⟨by simp, cell_new w _ 109 0, cell_new w _ 109 1, cell_new w _ 109 2, cell_new w _ 109 3, cell_new w _ 109 4, cell_new w _ 109 5, cell_new w _ 109 6, cell_new w _ 109 7⟩
theorem Blk.frozen {w : World} {g : Nat} {ty : TypeId} {L : List Value} (h : Blk w g ty L) (i : Nat) : w.frozen? ⟨g, i, none⟩ = false := by
  unfold Blk at h
  simp [World.frozen?, h]
theorem Blk.set {w : World} {g : Nat} {ty : TypeId} {L : List Value} (h : Blk w g ty L) (i : Nat) (v : Value) : Blk (w.setCell ⟨g, i, none⟩ v) g ty (L.set i v) := by
  unfold Blk at *
  simp only [World.setCell, Array.getElem?_modify, if_true, h]
  simp
theorem grown_setCell' (w : World) (g k : Nat) (v : Value) : w.grownBy (w.setCell ⟨g, k, none⟩ v) (some g) :=
  ⟨rfl, rfl, rfl, by simp [World.setCell], fun i hi hne => Below.heap_setCell _ _ _ _ (by intro h; exact hne (by rw [h]))⟩
theorem below_setCell {B : Nat} {w : World} {g : Nat} (hB : B ≤ g) (hw : B ≤ w.heap.size) (k : Nat) (v : Value) : Below B w (w.setCell ⟨g, k, none⟩ v) :=
  (Below.refl B w).grown (grown_setCell' w g k v) hw (fun t ht => by cases ht; exact hB)
structure Ad where
  ta : Option Addr
  tc : Nat
  pa : Option Addr
  pc : Nat
  ca : Nat → Option Addr
  cc : Nat → Nat
def Prs (w : World) (pa : Option Addr) (n : Nat) (ca : Nat → Option Addr) (cc : Nat → Nat) (pf : Nat → Pa) : Prop :=
  n = 0 ∨ ∃ b off, pa = some ⟨b, off, none⟩ ∧ b < w.heap.size ∧ ∀ i, i < n → Eig w b (off + i * 8) (ca i) (cc i) (pf i) ∧ Arg w (ca i) (pf i).n (pf i).f
theorem Prs.below {w w' : World} {pa : Option Addr} {n : Nat} {ca : Nat → Option Addr} {cc : Nat → Nat} {pf : Nat → Pa} (h : Prs w pa n ca cc pf) (k : Below w.heap.size w w') : Prs w' pa n ca cc pf := by
  rcases h with h | ⟨b, off, e, hl, hr⟩
  · exact Or.inl h
  · exact Or.inr ⟨b, off, e, Nat.lt_of_lt_of_le hl k.size, fun i hi => ⟨(hr i hi).1.below k, (hr i hi).2.below k⟩⟩
theorem Prs.at' {w : World} {pa : Option Addr} {n : Nat} {ca : Nat → Option Addr} {cc : Nat → Nat} {pf : Nat → Pa} (h : Prs w pa n ca cc pf) {i : Nat} (hi : i < n) :
    ∃ b off, pa = some ⟨b, off, none⟩ ∧ Eig w b (off + i * 8) (ca i) (cc i) (pf i) := by
  rcases h with h | ⟨b, off, e, hl, hr⟩
  · omega
  · exact ⟨b, off, e, (hr i hi).1⟩
theorem Prs.col {w : World} {pa : Option Addr} {n : Nat} {ca : Nat → Option Addr} {cc : Nat → Nat} {pf : Nat → Pa} (h : Prs w pa n ca cc pf) {i : Nat} (hi : i < n) : Arg w (ca i) (pf i).n (pf i).f := by
  rcases h with h | ⟨b, off, e, hl, hr⟩
  · omega
  · exact (hr i hi).2
theorem Prs.less {w : World} {pa : Option Addr} {n m : Nat} {ca : Nat → Option Addr} {cc : Nat → Nat} {pf : Nat → Pa} (h : Prs w pa n ca cc pf) (hm : m ≤ n) : Prs w pa m ca cc pf := by
  rcases h with h | ⟨b, off, e, hl, hr⟩
  · exact Or.inl (by omega)
  · exact Or.inr ⟨b, off, e, hl, fun i hi => hr i (by omega)⟩
structure Cin (w : World) (a : Ad) (c : Cf) : Prop where
  t : Arg w a.ta c.tn c.tf
  p : Prs w a.pa c.pn a.ca a.cc c.pf
  tl : c.tn * 8 ≤ 140737488351232
  pl : c.pn * 80 ≤ 140737488351232
  cl : ∀ i, i < c.pn → (c.pf i).n * 8 ≤ 140737488351232
  tz : a.ta = none → c.tn = 0 ∧ a.tc = 0
  pz : a.pa = none → c.pn = 0 ∧ a.pc = 0
  cz : ∀ i, i < c.pn → a.ca i = none → (c.pf i).n = 0 ∧ a.cc i = 0
  ple : c.pn ≤ a.pc
  C0 : -9223372036854775808 ≤ c.C
  C1 : c.C ≤ 9223372036854775807
  S0 : -9223372036854775808 ≤ c.S
  S1 : c.S ≤ 9223372036854775807
theorem Cin.below {w w' : World} {a : Ad} {c : Cf} (h : Cin w a c) (k : Below w.heap.size w w') : Cin w' a c := ⟨h.t.below k, h.p.below k, h.tl, h.pl, h.cl, h.tz, h.pz, h.cz, h.ple, h.C0, h.C1, h.S0, h.S1⟩
structure Sev (w : World) (g : Nat) (a : Ad) (c : Cf) : Prop where
  lt : g < w.heap.size
  c0 : w.cell? ⟨g, 0, none⟩ = some (.int .i64 c.F)
  c1 : w.cell? ⟨g, 1, none⟩ = some (.int .i64 c.C)
  c2 : w.cell? ⟨g, 2, none⟩ = some (.int .i64 c.W)
  c3 : w.cell? ⟨g, 3, none⟩ = some (.int .i64 c.S)
  c4 : w.cell? ⟨g, 4, none⟩ = some (.int .i64 c.V)
  c5 : w.cell? ⟨g, 5, none⟩ = some (.int .i64 c.T)
  c6 : w.cell? ⟨g, 6, none⟩ = some (.int .u64 c.k.l1)
  c7 : w.cell? ⟨g, 7, none⟩ = some (.int .u64 c.k.llc)
  c8 : w.cell? ⟨g, 8, none⟩ = some (.int .u64 c.k.mi)
  c9 : w.cell? ⟨g, 9, none⟩ = some (.int .u64 c.k.fa)
  c10 : w.cell? ⟨g, 10, none⟩ = some (.int .u64 c.k.st)
  c11 : w.cell? ⟨g, 11, none⟩ = some (.int .u64 c.k.di)
  c12 : w.cell? ⟨g, 12, none⟩ = some (.int .u64 c.sl)
  c13 : w.cell? ⟨g, 13, none⟩ = some (.int .u64 c.pd)
  c14 : w.cell? ⟨g, 14, none⟩ = some (.int .u64 c.ft)
  c15 : w.cell? ⟨g, 15, none⟩ = some (.slice a.ta c.tn a.tc)
  c16 : w.cell? ⟨g, 16, none⟩ = some (.slice a.pa c.pn a.pc)
theorem Sev.below {w w' : World} {g : Nat} {a : Ad} {c : Cf} (h : Sev w g a c) (k : Below w.heap.size w w') : Sev w' g a c :=
  ⟨Nat.lt_of_lt_of_le h.lt k.size, (k.cell h.lt).trans h.c0, (k.cell h.lt).trans h.c1, (k.cell h.lt).trans h.c2, (k.cell h.lt).trans h.c3, (k.cell h.lt).trans h.c4, (k.cell h.lt).trans h.c5, (k.cell h.lt).trans h.c6, (k.cell h.lt).trans h.c7, (k.cell h.lt).trans h.c8, (k.cell h.lt).trans h.c9, (k.cell h.lt).trans h.c10, (k.cell h.lt).trans h.c11, (k.cell h.lt).trans h.c12, (k.cell h.lt).trans h.c13, (k.cell h.lt).trans h.c14, (k.cell h.lt).trans h.c15, (k.cell h.lt).trans h.c16⟩
theorem sev_new (w : World) (a : Ad) (c : Cf) : Sev (w.alloc (.cells #[.int .i64 c.F, .int .i64 c.C, .int .i64 c.W, .int .i64 c.S, .int .i64 c.V, .int .i64 c.T, .int .u64 c.k.l1, .int .u64 c.k.llc, .int .u64 c.k.mi, .int .u64 c.k.fa, .int .u64 c.k.st, .int .u64 c.k.di, .int .u64 c.sl, .int .u64 c.pd, .int .u64 c.ft, .slice a.ta c.tn a.tc, .slice a.pa c.pn a.pc] 28)) w.heap.size a c :=
  ⟨by simp, cell_new w _ 28 0, cell_new w _ 28 1, cell_new w _ 28 2, cell_new w _ 28 3, cell_new w _ 28 4, cell_new w _ 28 5, cell_new w _ 28 6, cell_new w _ 28 7, cell_new w _ 28 8, cell_new w _ 28 9, cell_new w _ 28 10, cell_new w _ 28 11, cell_new w _ 28 12, cell_new w _ 28 13, cell_new w _ 28 14, cell_new w _ 28 15, cell_new w _ 28 16⟩
structure Cb (w0 w : World) (g : Nat) (a : Ad) (c : Cf) : Prop where
  be : Below w0.heap.size w0 w
  bx : Sev w g a c
  ci : Cin w a c
theorem Cb.below {w0 w w' : World} {g : Nat} {a : Ad} {c : Cf} (h : Cb w0 w g a c) (k : Below w.heap.size w w') : Cb w0 w' g a c := ⟨h.be.trans (k.mono h.be.size), h.bx.below k, h.ci.below k⟩
theorem cb_new {w : World} {a : Ad} {c : Cf} (h : Cin w a c) : Cb w (w.alloc (.cells #[.int .i64 c.F, .int .i64 c.C, .int .i64 c.W, .int .i64 c.S, .int .i64 c.V, .int .i64 c.T, .int .u64 c.k.l1, .int .u64 c.k.llc, .int .u64 c.k.mi, .int .u64 c.k.fa, .int .u64 c.k.st, .int .u64 c.k.di, .int .u64 c.sl, .int .u64 c.pd, .int .u64 c.ft, .slice a.ta c.tn a.tc, .slice a.pa c.pn a.pc] 28)) w.heap.size a c :=
  ⟨below_new _ _, sev_new w a c, h.below (below_new _ _)⟩
end Go.Proofs.YtkbpnkjjmipjfaaGreat
