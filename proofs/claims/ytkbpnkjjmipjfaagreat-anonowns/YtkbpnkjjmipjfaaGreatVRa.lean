/- What the document's answer gives for costs at most: behind, Worst, Most. -/
import Derived.Test.YtkbpnkjjmipjfaaGreatVWo
import Derived.Test.YtkbpnkjjmipjfaaGreatVPa
namespace Go.Proofs.YtkbpnkjjmipjfaaGreat
open Go.ChangeShapes Go.WideShapes Go.ChangeAt Go.RowKit
set_option linter.unusedVariables false

theorem ways (n : Nat) : n = 1 ∨ n = 2 ∨ n = 3 ∨ n = 4 ∨ n = 5 ∨ n = 6 ∨ n = 7 ∨ n = 8 ∨ n = 9 ∨ n = 0 ∨ 10 ≤ n := by omega
end Go.Proofs.YtkbpnkjjmipjfaaGreat
namespace Go.Proofs.YtkbpnkjjmipjfaaGreat
open Go.ChangeShapes Go.WideShapes Go.ChangeAt Go.RowKit
set_option linter.unusedVariables false

end Go.Proofs.YtkbpnkjjmipjfaaGreat
namespace Go.Proofs.YtkbpnkjjmipjfaaGreat
open Go.ChangeShapes Go.WideShapes Go.ChangeAt Go.RowKit
set_option linter.unusedVariables false

def fitS (c : Cf) (p : Nat) : Bool := !decide (pBad c p = 0) || decide (mx c.k (shp (c.pf p)) 11 ≤ c.sl)
def allS (c : Cf) : Nat → Bool
  | 0 => true
  | p + 1 => allS c p && fitS c p
theorem allS_iff {c : Cf} {n : Nat} : allS c n = true ↔ ∀ p, p < n → fitS c p = true := by
  induction n with
  | zero => simp [allS]
  | succ n ih =>
    simp only [allS, Bool.and_eq_true, ih]
    constructor
    · rintro ⟨h1, h2⟩ p hp
      by_cases e : p = n
      · rw [e]; exact h2
      · exact h1 p (by omega)
    · exact fun h => ⟨fun p hp => h p (by omega), h n (by omega)⟩
def pdM (c : Cf) : Int := (c.S * c.V + c.T) * c.k.st
def sOk (c : Cf) : Bool := s0k c && (!(mOk c && okC c.k) || (decide (pdM c ≤ c.pd) && allS c c.pn))
def allT (c : Cf) : Nat → Bool
  | 0 => true
  | i + 1 => allT c i && (decide (0 ≤ c.tf i) && decide (c.tf i < (c.pn : Int)))
theorem allT_iff {c : Cf} {n : Nat} : allT c n = true ↔ ∀ i, i < n → 0 ≤ c.tf i ∧ c.tf i < (c.pn : Int) := by
  induction n with
  | zero => simp [allT]
  | succ n ih =>
    simp only [allT, Bool.and_eq_true, ih, decide_eq_true_eq]
    constructor
    · rintro ⟨h1, h2⟩ p hp
      by_cases e : p = n
      · rw [e]; exact h2
      · exact h1 p (by omega)
    · exact fun h => ⟨fun p hp => h p (by omega), h n (by omega)⟩
def tOk (c : Cf) : Bool := inB c.tn 1 64 && allT c c.tn
def fl (e at' : Int) : List (Int × Int) := if e = 0 then [] else [(e, at')]
theorem fl_zero (a : Int) : fl 0 a = [] := rfl
theorem fl_len (e a : Int) : (fl e a).length ≤ 1 := by unfold fl; split <;> simp

def chkP (c : Cf) : Nat → List (Int × Int)
  | 0 => []
  | p + 1 => chkP c p ++ fl (pBad c p) (4 + p)
def chk (c : Cf) : List (Int × Int) := fl (un (mOk c) 114) 0 ++ fl (er c.k) 1 ++ fl (un (sOk c) 113) 2 ++ fl (un (tOk c) 112) 3 ++ chkP c (min c.pn 8)
def may (c : Cf) : Bool := (chk c).isEmpty
theorem chkP_len (c : Cf) (p : Nat) : (chkP c p).length ≤ p := by
  induction p with
  | zero => simp [chkP]
  | succ p ih =>
    have := fl_len (pBad c p) (4 + p)
    simp only [chkP, List.length_append]
    omega
theorem chk_len (c : Cf) : (chk c).length ≤ 12 := by
  have h1 := fl_len (un (mOk c) 114) 0
  have h2 := fl_len (er c.k) 1
  have h3 := fl_len (un (sOk c) 113) 2
  have h4 := fl_len (un (tOk c) 112) 3
  have h5 := chkP_len c (min c.pn 8)
  simp only [chk, List.length_append]
  omega
theorem fl_nil {e a : Int} : fl e a = [] ↔ e = 0 := by unfold fl; split <;> simp_all
theorem chkP_nil {c : Cf} {n : Nat} : chkP c n = [] ↔ ∀ p, p < n → pBad c p = 0 := by
  induction n with
  | zero => simp [chkP]
  | succ n ih =>
    simp only [chkP, List.append_eq_nil_iff, ih, fl_nil]
    constructor
    · rintro ⟨h1, h2⟩ p hp
      by_cases e : p = n
      · rw [e]; exact h2
      · exact h1 p (by omega)
    · exact fun h => ⟨fun p hp => h p (by omega), h n (by omega)⟩
theorem un_zero {b : Bool} {e : Int} (he : e ≠ 0) : un b e = 0 ↔ b = true := by cases b <;> simp [un, he]
theorem er_zero {c : Co} : er c = 0 ↔ okC c = true := by
  cases h : okC c
  · rw [er_f h]; simp
  · rw [er_t h]; simp
structure Cf.Ok (c : Cf) : Prop where
  m : c.MOk
  k : c.k.Ok
  s : s0k c = true
  pd : pdM c ≤ c.pd
  mo : ∀ p, p < c.pn → mx c.k (shp (c.pf p)) 11 ≤ c.sl
  t1 : 1 ≤ c.tn
  t2 : c.tn ≤ 64
  t : ∀ i, i < c.tn → 0 ≤ c.tf i ∧ c.tf i < (c.pn : Int)
  p : ∀ p, p < c.pn → pBad c p = 0
theorem may_iff {c : Cf} : may c = true ↔ c.Ok := by
  unfold may chk
  rw [List.isEmpty_iff]
  simp only [List.append_eq_nil_iff, fl_nil, chkP_nil, un_zero (show (114 : Int) ≠ 0 by decide), un_zero (show (113 : Int) ≠ 0 by decide), un_zero (show (112 : Int) ≠ 0 by decide), er_zero]
  constructor
  · rintro ⟨⟨⟨⟨h1, h2⟩, h3⟩, h4⟩, h5⟩
    have hm := mOk_iff.1 h1
    have hp : ∀ p, p < c.pn → pBad c p = 0 := fun p hp => h5 p (by have := hm.p2; omega)
    simp only [sOk, h1, h2, Bool.and_eq_true, Bool.and_self, Bool.not_true, Bool.false_or, decide_eq_true_eq, allS_iff] at h3
    simp only [tOk, Bool.and_eq_true, inB_iff, allT_iff] at h4
    refine ⟨hm, okC_iff.1 h2, h3.1, h3.2.1, fun p hpn => ?_, by omega, by omega, h4.2, hp⟩
    have := h3.2.2 p hpn
    simp only [fitS, hp p hpn, decide_true, Bool.not_true, Bool.false_or, decide_eq_true_eq] at this
    exact this
  · intro h
    have h1 := mOk_iff.2 h.m
    have h2 := okC_iff.2 h.k
    refine ⟨⟨⟨⟨h1, h2⟩, ?_⟩, ?_⟩, fun p hp => h.p p (by omega)⟩
    · simp only [sOk, h1, h2, Bool.and_eq_true, Bool.and_self, Bool.not_true, Bool.false_or, decide_eq_true_eq, allS_iff]
      exact ⟨h.s, h.pd, fun p hp => by simp [fitS, h.mo p hp]⟩
    · simp only [tOk, Bool.and_eq_true, inB_iff, allT_iff]
      exact ⟨⟨by have := h.t1; omega, by have := h.t2; omega⟩, h.t⟩
structure POk (c : Cf) (p : Nat) : Prop where
  ri : rise c.C (c.pf p).f (c.pf p).n = true
  n0 : 0 < (c.pf p).n
  sh : sh c (c.pf p) p = false
  o0 : 0 ≤ (c.pf p).o
  o1 : (c.pf p).o ≤ 3
  u0 : 2 ≤ (c.pf p).u
  u1 : (c.pf p).u ≤ 4096
  t0 : 4 ≤ (c.pf p).t
  t1 : (c.pf p).t ≤ 4096
  s0 : 1 ≤ (c.pf p).s
  s1 : (c.pf p).s ≤ 4096
  r0 : 1 ≤ (c.pf p).r
  r1 : (c.pf p).r ≤ 4096
  d0 : 1 ≤ (c.pf p).d
  d1 : (c.pf p).d ≤ 4096
  z0 : 1 ≤ (c.pf p).z
  z1 : (c.pf p).z ≤ 1024
  sm : sm c p + (c.pf p).z ≤ 1024
  fit : mOk c = true → fit c (c.pf p) = true
theorem pBad_iff {c : Cf} {p : Nat} : pBad c p = 0 ↔ POk c p := by
  have e : pBad c p = 0 ↔ okCol c p = true ∧ okQ c p = true := by
    unfold pBad
    cases okCol c p <;> cases okQ c p <;> simp
  rw [e]
  simp only [okCol, okQ, qOk, zOk, Bool.and_eq_true, inB_iff, decide_eq_true_eq, Bool.not_eq_true', Bool.or_eq_true]
  constructor
  · rintro ⟨⟨h1, h2, h3⟩, ⟨⟨o0, o1⟩, ⟨u0, u1⟩, ⟨t0, t1⟩, ⟨s0, s1⟩, ⟨r0, r1⟩, d0, d1⟩, ⟨z0, z1⟩, h4, h5⟩
    exact ⟨h1, h2, h3, o0, o1, u0, u1, t0, t1, s0, s1, r0, r1, d0, d1, z0, z1, h4, fun hm => by rcases h5 with h5 | h5; · rw [hm] at h5; cases h5
                                                                                                · exact h5⟩
  · intro h
    refine ⟨⟨h.ri, h.n0, h.sh⟩, ⟨⟨h.o0, h.o1⟩, ⟨h.u0, h.u1⟩, ⟨h.t0, h.t1⟩, ⟨h.s0, h.s1⟩, ⟨h.r0, h.r1⟩, h.d0, h.d1⟩, ⟨h.z0, h.z1⟩, h.sm, ?_⟩
    cases hm : mOk c
    · exact Or.inl rfl
    · exact Or.inr (h.fit hm)
theorem POk.shape {c : Cf} {p : Nat} (h : POk c p) : (shp (c.pf p)).Ok := by
  have h1 := im_ways h.o0 h.o1
  have h2 := h.u0
  have h3 := h.u1
  have h4 := h.t0
  have h5 := h.t1
  have h6 := h.d0
  have h7 := h.z0
  have h8 := h.z1
  exact ⟨by simp only [shp]; omega, h2, h3, by simp only [shp, lim]; omega, by simp only [shp, lim]; omega, by simp only [shp]; omega, h5⟩
theorem sm_nonneg (c : Cf) (p : Nat) : 0 ≤ sm c p := by
  induction p with
  | zero => exact Int.le_refl _
  | succ p ih =>
    simp only [sm]
    cases h : zOk (c.pf p)
    · simpa using ih
    · have := inB_iff.1 h
      simp only [cond_true]
      omega
theorem sm_le (c : Cf) (p : Nat) : sm c p ≤ 1024 * p := by
  induction p with
  | zero => exact Int.le_refl _
  | succ p ih =>
    simp only [sm]
    cases h : zOk (c.pf p)
    · simp only [cond_false]; omega
    · have := inB_iff.1 h
      simp only [cond_true]
      omega
end Go.Proofs.YtkbpnkjjmipjfaaGreat
