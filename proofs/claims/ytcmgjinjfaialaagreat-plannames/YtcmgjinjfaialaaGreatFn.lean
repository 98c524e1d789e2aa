/- What cost's functions that hold costs and shapes against their limits, Touch and Switch, and those of the document's answer, give back, each for every number that they may be handed; no condition but the ranges that each theorem names. -/
import Derived.Test.YtcmgjinjfaialaaGreatRows
import Derived.WalkKit
import Derived.ProofKit
import Derived.OpenShut
import Derived.WalkSpells
import Derived.WalkLawsBesides
import Derived.Deep.QuietTactic
import Derived.BigQuiet
import Derived.Deep.AppendLies
import Derived.Deep.WholeRow
namespace Go.Proofs.YtcmgjinjfaialaaGreat
open Go.ChangeShapes Go.WideShapes Go.ChangeAt Go.RowKit
set_option linter.unusedVariables false

theorem own : ownKnob Tryz.prog.godebug = none := by kernel_rfl
theorem ret_bool {a b : Bool} (h : a = b) : Ending.returned (.bool a) = .returned (.bool b) := by rw [h]
theorem ret_int {k : IntKind} {a b : Int} (h : a = b) : Ending.returned (.int k a) = .returned (.int k b) := by rw [h]
theorem ret_two {k k' : IntKind} {a b c d : Int} (h : a = b) (h' : c = d) : Ending.returned (.tuple #[.int k a, .int k' c]) = .returned (.tuple #[.int k b, .int k' d]) := by rw [h, h']
theorem below_new (w : World) (o : Obj) : Below w.heap.size w (w.alloc o) := (Below.refl _ _).alloc (Nat.le_refl _) _
theorem below_two (w : World) (o o' : Obj) : Below w.heap.size w ((w.alloc o).alloc o') := (below_new w o).alloc (by simp) _
theorem below_drewN {B : Nat} {w w' : World} (h : Below B w w') (n : Nat) : Below B w (w'.drewN n) := ⟨h.os, h.tape, h.output, h.size, h.block⟩
def inB (n a b : Int) : Bool := decide (a ≤ n) && decide (n ≤ b)
theorem inB_t {n a b : Int} (h : a ≤ n) (h' : n ≤ b) : inB n a b = true := by simp [inB, h, h']
theorem inB_f {n a b : Int} (h : n < a ∨ b < n) : inB n a b = false := by simp [inB]; omega
theorem inB_iff {n a b : Int} : inB n a b = true ↔ a ≤ n ∧ n ≤ b := by simp [inB]
theorem inB_not {n a b : Int} (h : inB n a b = false) : n < a ∨ b < n := by simp [inB] at h; omega
/-- Costs. -/
structure Co where
  l1 : Int
  llc : Int
  mi : Int
  fa : Int
  st : Int
  di : Int
/-- A shape. -/
structure Sh where
  im : Int
  us : Int
  li : Int
  no : Int
/-- Costs may be. -/
structure Co.Ok (c : Co) : Prop where
  a1 : 1 ≤ c.l1
  a2 : c.l1 ≤ c.llc
  a3 : c.llc ≤ c.mi
  a4 : c.mi ≤ 65536
  b1 : 1 ≤ c.fa
  b2 : c.fa ≤ 65536
  d1 : 1 ≤ c.st
  d2 : c.st ≤ 65536
  e1 : 1 ≤ c.di
  e2 : c.di ≤ 65536
/-- A shape may be. -/
structure Sh.Ok (s : Sh) : Prop where
  im : s.im = 1 ∨ s.im = 2 ∨ s.im = 4 ∨ s.im = 8
  u1 : 2 ≤ s.us
  u2 : s.us ≤ 4096
  l1 : 1 ≤ s.li
  l2 : s.li ≤ 5120
  n1 : 1 ≤ s.no
  n2 : s.no ≤ 4096
def okC (c : Co) : Bool := decide (1 ≤ c.l1) && (decide (c.l1 ≤ c.llc) && (decide (c.llc ≤ c.mi) && (inB c.mi 1 65536 && (inB c.fa 1 65536 && (inB c.st 1 65536 && inB c.di 1 65536)))))
def okI (n : Int) : Bool := decide (n = 1) || (decide (n = 2) || (decide (n = 4) || decide (n = 8)))
def okS (s : Sh) : Bool := okI s.im && (inB s.us 2 4096 && (inB s.li 1 5120 && inB s.no 1 4096))
theorem okC_iff {c : Co} : okC c = true ↔ c.Ok := by
  constructor
  · intro h
    simp [okC, inB] at h
    exact ⟨by omega, by omega, by omega, by omega, by omega, by omega, by omega, by omega, by omega, by omega⟩
  · rintro ⟨_, _, _, _, _, _, _, _, _, _⟩
    simp [okC, inB]
    omega
theorem okS_iff {s : Sh} : okS s = true ↔ s.Ok := by
  constructor
  · intro h
    simp [okS, okI, inB] at h
    exact ⟨by omega, by omega, by omega, by omega, by omega, by omega, by omega⟩
  · rintro ⟨_, _, _, _, _, _, _⟩
    simp [okS, okI, inB]
    omega
/-- The errno of costs. -/
def er (c : Co) : Int := if okC c then 0 else 100
/-- The errno of costs and a shape. -/
def ers (c : Co) (s : Sh) : Int := if okC c then (if okS s then 0 else 2) else 100
/-- A value that is given back, new memory apart nothing done. -/
def One (v : Value) (w : World) (x : Ending) (w' : World) : Prop := x = .returned v ∧ Below w.heap.size w w'
/-- A number and an errno that are given back. -/
def Two (a e : Int) (w : World) (x : Ending) (w' : World) : Prop := x = .returned (.tuple #[.int .u64 a, .int .i64 e]) ∧ Below w.heap.size w w'

theorem costMayBe_any (a : Int) (w : World) : Calls Tryz.prog 38 #[.int .u64 a] w fun e w' => e = .returned (.bool (inB a 1 65536)) ∧ w' = w := by
  go_enter Tryz.func38, Tryz.ntmps38
  go_wp2
  all_goals (go_ret; exact ⟨ret_bool (by rw [Bool.eq_iff_iff]; simp [inB]; omega), rfl⟩)
theorem one_any (a : Int) (w : World) : Calls Tryz.prog 70 #[.int .u64 a] w fun e w' => e = .returned (.bool (inB a 1 65536)) ∧ w' = w := by
  go_enter Tryz.func70, Tryz.ntmps70
  go_wp2
  all_goals (go_ret; exact ⟨ret_bool (by rw [Bool.eq_iff_iff]; simp [inB]; omega), rfl⟩)
theorem Within_any (n a b : Int) (w : World) : Calls Tryz.prog 93 #[.int .i64 n, .int .i64 a, .int .i64 b] w fun e w' => e = .returned (.bool (inB n a b)) ∧ w' = w := by
  go_enter Tryz.func93, Tryz.ntmps93
  go_wp2
  all_goals (go_ret; exact ⟨ret_bool (by rw [Bool.eq_iff_iff]; simp [inB]; omega), rfl⟩)
/-- How costs may not be, one way after the other. -/
theorem okC_ways (c : Co) : okC c = false ∧ (c.l1 < 1 ∨ (¬ c.l1 < 1 ∧ c.llc < c.l1) ∨ (¬ c.l1 < 1 ∧ ¬ c.llc < c.l1 ∧ c.mi < c.llc) ∨ (¬ c.l1 < 1 ∧ ¬ c.llc < c.l1 ∧ ¬ c.mi < c.llc ∧ inB c.mi 1 65536 = false)
    ∨ (¬ c.l1 < 1 ∧ ¬ c.llc < c.l1 ∧ ¬ c.mi < c.llc ∧ inB c.mi 1 65536 = true ∧ inB c.fa 1 65536 = false)
    ∨ (¬ c.l1 < 1 ∧ ¬ c.llc < c.l1 ∧ ¬ c.mi < c.llc ∧ inB c.mi 1 65536 = true ∧ inB c.fa 1 65536 = true ∧ inB c.st 1 65536 = false)
    ∨ (¬ c.l1 < 1 ∧ ¬ c.llc < c.l1 ∧ ¬ c.mi < c.llc ∧ inB c.mi 1 65536 = true ∧ inB c.fa 1 65536 = true ∧ inB c.st 1 65536 = true ∧ inB c.di 1 65536 = false))
    ∨ okC c = true ∧ ¬ c.l1 < 1 ∧ ¬ c.llc < c.l1 ∧ ¬ c.mi < c.llc ∧ inB c.mi 1 65536 = true ∧ inB c.fa 1 65536 = true ∧ inB c.st 1 65536 = true ∧ inB c.di 1 65536 = true := by
  unfold okC
  have e1 : decide (1 ≤ c.l1) = !decide (c.l1 < 1) := by rw [Bool.eq_iff_iff]; simp
  have e2 : decide (c.l1 ≤ c.llc) = !decide (c.llc < c.l1) := by rw [Bool.eq_iff_iff]; simp
  have e3 : decide (c.llc ≤ c.mi) = !decide (c.mi < c.llc) := by rw [Bool.eq_iff_iff]; simp
  rw [e1, e2, e3]
  by_cases h1 : c.l1 < 1
  · simp [h1]
  by_cases h2 : c.llc < c.l1
  · simp [h1, h2]
  by_cases h3 : c.mi < c.llc
  · simp [h1, h2, h3]
  cases h4 : inB c.mi 1 65536
  · simp [h1, h2, h3]
  cases h5 : inB c.fa 1 65536
  · simp [h1, h2, h3]
  cases h6 : inB c.st 1 65536
  · simp [h1, h2, h3]
  cases h7 : inB c.di 1 65536
  · simp [h1, h2, h3]
  · simp [h1, h2, h3]
theorem Check_any (c : Co) (w : World) : Calls Tryz.prog 13 #[.agg #[.int .u64 c.l1, .int .u64 c.llc, .int .u64 c.mi, .int .u64 c.fa, .int .u64 c.st, .int .u64 c.di]] w (One (.int .i64 (er c)) w) := by
  have hb := below_new w (.cells #[.int .u64 c.l1, .int .u64 c.llc, .int .u64 c.mi, .int .u64 c.fa, .int .u64 c.st, .int .u64 c.di] 25)
  rcases okC_ways c with ⟨h0, h | ⟨h1, h⟩ | ⟨h1, h2, h⟩ | ⟨h1, h2, h3, h⟩ | ⟨h1, h2, h3, h4, h⟩ | ⟨h1, h2, h3, h4, h5, h⟩ | ⟨h1, h2, h3, h4, h5, h6, h⟩⟩ | ⟨h0, h1, h2, h3, h4, h5, h6, h⟩
  all_goals
    unfold er
    rw [h0]
    go_enter Tryz.func13, Tryz.ntmps13
    go_wp2_with (go_at_call 38; refine (costMayBe_any _ _).mono ?_; rintro e w' ⟨rfl, rfl⟩)
    go_ret
    exact ⟨rfl, hb⟩
theorem rCheck_any (c : Co) (w : World) : Calls Tryz.prog 46 #[.agg #[.int .u64 c.l1, .int .u64 c.llc, .int .u64 c.mi, .int .u64 c.fa, .int .u64 c.st, .int .u64 c.di]] w (One (.int .i64 (er c)) w) := by
  have hb := below_new w (.cells #[.int .u64 c.l1, .int .u64 c.llc, .int .u64 c.mi, .int .u64 c.fa, .int .u64 c.st, .int .u64 c.di] 25)
  unfold er
  cases h0 : okC c
  · go_enter Tryz.func46, Tryz.ntmps46
    go_wp2_with (go_at_call 70; refine (one_any _ _).mono ?_; rintro e w' ⟨rfl, rfl⟩)
    all_goals
      go_ret
      refine ⟨?_, hb⟩
      first
        | rfl
        | (exfalso; simp [okC, inB] at *; omega)
  · have k := okC_iff.1 h0
    have h1 := inB_t k.a1 (Int.le_trans k.a2 (Int.le_trans k.a3 k.a4))
    have h2 := inB_t (Int.le_trans k.a1 k.a2) (Int.le_trans k.a3 k.a4)
    have h3 := inB_t (Int.le_trans k.a1 (Int.le_trans k.a2 k.a3)) k.a4
    have h4 : ¬ c.llc < c.l1 := Int.not_lt.2 k.a2
    have h5 : ¬ c.mi < c.llc := Int.not_lt.2 k.a3
    have h6 := inB_t k.b1 k.b2
    have h7 := inB_t k.d1 k.d2
    have h8 := inB_t k.e1 k.e2
    clear k h0
    go_enter Tryz.func46, Tryz.ntmps46
    go_wp2_with (go_at_call 70; refine (one_any _ _).mono ?_; rintro e w' ⟨rfl, rfl⟩)
    go_ret
    exact ⟨rfl, hb⟩
theorem shapeMayBe_any (s : Sh) (w : World) : Calls Tryz.prog 78 #[.agg #[.int .i64 s.im, .int .i64 s.us, .int .i64 s.li, .int .i64 s.no]] w (One (.bool (okS s)) w) := by
  have hb := below_new w (.cells #[.int .i64 s.im, .int .i64 s.us, .int .i64 s.li, .int .i64 s.no] 53)
  go_enter Tryz.func78, Tryz.ntmps78
  go_wp2
  all_goals
    go_ret
    refine ⟨ret_bool ?_, below_new _ _⟩
    rw [Bool.eq_iff_iff]
    simp [okS, okI, inB] at *
    try omega
theorem May_any (s : Sh) (w : World) : Calls Tryz.prog 100 #[.agg #[.int .i64 s.im, .int .i64 s.us, .int .i64 s.li, .int .i64 s.no]] w (One (.bool (okS s)) w) := by
  have hb := below_new w (.cells #[.int .i64 s.im, .int .i64 s.us, .int .i64 s.li, .int .i64 s.no] 53)
  go_enter Tryz.func100, Tryz.ntmps100
  go_wp2_with (go_at_call 93; refine (Within_any _ _ _ _).mono ?_; rintro e w' ⟨rfl, rfl⟩)
  all_goals
    go_ret
    refine ⟨ret_bool ?_, below_new _ _⟩
    rw [Bool.eq_iff_iff]
    simp [okS, okI, inB] at *
    try omega
theorem er_t {c : Co} (h : okC c = true) : er c = 0 := by unfold er; rw [h]; rfl
theorem er_f {c : Co} (h : okC c = false) : er c = 100 := by unfold er; rw [h]; rfl
theorem ers_t {c : Co} {s : Sh} (h : okC c = true) (h' : okS s = true) : ers c s = 0 := by unfold ers; rw [h, h']; rfl
theorem ers_s {c : Co} {s : Sh} (h : okC c = true) (h' : okS s = false) : ers c s = 2 := by unfold ers; rw [h, h']; rfl
theorem ers_f {c : Co} {s : Sh} (h : okC c = false) : ers c s = 100 := by unfold ers; rw [h]; rfl
theorem alloc_size (w : World) (o : Obj) : w.heap.size ≤ (w.alloc o).heap.size := by simp
theorem check_any (c : Co) (s : Sh) (w : World) : Calls Tryz.prog 61 #[.agg #[.int .u64 c.l1, .int .u64 c.llc, .int .u64 c.mi, .int .u64 c.fa, .int .u64 c.st, .int .u64 c.di], .agg #[.int .i64 s.im, .int .i64 s.us, .int .i64 s.li, .int .i64 s.no]] w (One (.int .i64 (ers c s)) w) := by
  have hb := below_two w (.cells #[.int .u64 c.l1, .int .u64 c.llc, .int .u64 c.mi, .int .u64 c.fa, .int .u64 c.st, .int .u64 c.di] 25) (.cells #[.int .i64 s.im, .int .i64 s.us, .int .i64 s.li, .int .i64 s.no] 53)
  have C := Check_any c ((w.alloc (.cells #[.int .u64 c.l1, .int .u64 c.llc, .int .u64 c.mi, .int .u64 c.fa, .int .u64 c.st, .int .u64 c.di] 25)).alloc (.cells #[.int .i64 s.im, .int .i64 s.us, .int .i64 s.li, .int .i64 s.no] 53))
  cases h0 : okC c
  · rw [er_f h0] at C
    rw [ers_f h0]
    clear h0
    go_enter Tryz.func61, Tryz.ntmps61
    go_wp2_with fail
    refine C.mono ?_
    rintro e w1 ⟨rfl, k⟩
    clear C
    go_wp2
    go_ret
    exact ⟨rfl, hb.trans (k.mono (by simp; omega))⟩
  · rw [er_t h0] at C
    obtain ⟨b, x, hs, he, hx⟩ : ∃ b x, okS s = b ∧ ers c s = x ∧ Hid (x = bif b then 0 else 2) := ⟨_, _, rfl, rfl, by show ers c s = _; unfold ers; rw [h0]; cases okS s <;> rfl⟩
    rw [he]
    clear h0 he
    go_enter Tryz.func61, Tryz.ntmps61
    go_wp2_with fail
    refine C.mono ?_
    rintro e w1 ⟨rfl, k⟩
    clear C
    have FIN : Hid (Below w.heap.size w w1) := hb.trans (k.mono (by simp; omega))
    have s0 : w1.cell? ⟨w.heap.size + 1, 0, none⟩ = some (.int .i64 s.im) := (k.cell (by simp)).trans (by simp [go_sem])
    have s1 : w1.cell? ⟨w.heap.size + 1, 1, none⟩ = some (.int .i64 s.us) := (k.cell (by simp)).trans (by simp [go_sem])
    have s2 : w1.cell? ⟨w.heap.size + 1, 2, none⟩ = some (.int .i64 s.li) := (k.cell (by simp)).trans (by simp [go_sem])
    have s3 : w1.cell? ⟨w.heap.size + 1, 3, none⟩ = some (.int .i64 s.no) := (k.cell (by simp)).trans (by simp [go_sem])
    clear k hb
    have D := shapeMayBe_any s w1
    rw [hs] at D
    clear hs
    go_wp2_with fail
    refine D.mono ?_
    rintro e w2 ⟨rfl, k⟩
    clear D s0 s1 s2 s3
    cases b
    · go_wp2
      go_ret
      exact ⟨ret_int hx.out.symm, FIN.out.trans (k.mono FIN.out.size)⟩
    · go_wp2
      go_ret
      exact ⟨ret_int hx.out.symm, FIN.out.trans (k.mono FIN.out.size)⟩
end Go.Proofs.YtcmgjinjfaialaaGreat
