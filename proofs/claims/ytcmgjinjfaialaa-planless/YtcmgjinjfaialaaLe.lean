/- A partition with smaller quotas: the configuration still may be, and the greatest bound does not rise; no condition. -/
import Derived.Test.YtcmgjinjfaialaaCk
namespace Go.Proofs.Ytcmgjinjfaialaa
open Go.ChangeShapes Go.WideShapes Go.ChangeAt Go.RowKit
set_option linter.unusedVariables false

theorem mul_mono {a b x y : Int} (h0 : 0 ≤ a) (h1 : a ≤ x) (h2 : 0 ≤ b) (h3 : b ≤ y) : a * b ≤ x * y := Int.mul_le_mul h1 h3 h2 (Int.le_trans h0 h1)
/-- Costs and a shape that rise. -/
structure Le (c d : Co) (s t : Sh) : Prop where
  mi : c.mi ≤ d.mi
  fa : c.fa ≤ d.fa
  st : c.st ≤ d.st
  di : c.di ≤ d.di
  im : s.im = t.im
  us : s.us ≤ t.us
  li : s.li ≤ t.li
  no : s.no ≤ t.no
theorem bd_mono {c d : Co} {s t : Sh} (h : c.Ok) (k : s.Ok) (l : Le c d s t) (n : Nat) : bd c s n ≤ bd d t n := by
  obtain ⟨a1, a2, a3, a4, b1, b2, d1, d2, e1, e2⟩ := h
  obtain ⟨im, u1, u2, l1, l2, n1, n2⟩ := k
  obtain ⟨m1, m2, m3, m4, m5, m6, m7, m8⟩ := l
  have hp : pag c ≤ pag d := by unfold pag; omega
  have hp0 : 0 ≤ pag c := by unfold pag; omega
  have he : ent c s ≤ ent d t := mul_mono (by omega) (by omega) (by omega) m1
  have hf : fin c s ≤ fin d t := by
    have := mul_mono (a := 2 * s.us + 1) (x := 2 * t.us + 1) (b := c.st) (y := d.st) (by omega) (by omega) (by omega) m3
    unfold fin
    omega
  have hl : s.li * pag c ≤ t.li * pag d := mul_mono (by omega) m7 hp0 hp
  have hn : 16 * s.no * c.mi ≤ 16 * t.no * d.mi := mul_mono (by omega) (by omega) (by omega) m1
  rcases ways n with rfl | rfl | rfl | rfl | rfl | rfl | rfl | rfl | rfl | rfl | h
  all_goals try (simp only [bd] <;> omega)
  rw [bd_great c s n h, bd_great d t n h]
  exact he
theorem mx_mono {c : Co} {s t : Sh} (h : c.Ok) (k : s.Ok) (l : Le c c s t) (n : Nat) : mx c s n ≤ mx c t n := by
  induction n with
  | zero => exact Int.le_refl _
  | succ n ih =>
    have := bd_mono h k l n
    simp only [mx]
    omega
/-- Partition p is another one. -/
def put (c : Cf) (p : Nat) (y : Pa) : Cf := { c with pf := fun i => if i = p then y else c.pf i }
/-- Quotas that do not rise, and are not too small. -/
structure Lo (y x : Pa) : Prop where
  n : y.n = x.n
  f : y.f = x.f
  o : y.o = x.o
  u0 : 2 ≤ y.u
  u1 : y.u ≤ x.u
  t0 : 4 ≤ y.t
  t1 : y.t ≤ x.t
  s0 : 1 ≤ y.s
  s1 : y.s ≤ x.s
  r0 : 1 ≤ y.r
  r1 : y.r ≤ x.r
  d0 : 1 ≤ y.d
  d1 : y.d ≤ x.d
  z0 : 1 ≤ y.z
  z1 : y.z ≤ x.z
theorem put_same (c : Cf) (p : Nat) (y : Pa) : (put c p y).pf p = y := by simp [put]
theorem put_other (c : Cf) {p q : Nat} (y : Pa) (h : q ≠ p) : (put c p y).pf q = c.pf q := by simp [put, h]
theorem put_nf {c : Cf} {p : Nat} {y : Pa} (h : Lo y (c.pf p)) (q : Nat) : ((put c p y).pf q).n = (c.pf q).n ∧ ((put c p y).pf q).f = (c.pf q).f := by
  by_cases e : q = p
  · rw [e, put_same, h.n, h.f]; exact ⟨rfl, rfl⟩
  · rw [put_other c y e]; exact ⟨rfl, rfl⟩
theorem put_sh {c : Cf} {p : Nat} {y : Pa} (h : Lo y (c.pf p)) (q k : Nat) : sh (put c p y) ((put c p y).pf q) k = sh c (c.pf q) k := by
  rw [Bool.eq_iff_iff, sh_iff, sh_iff]
  simp only [fun i => (put_nf h i).1, fun i => (put_nf h i).2]
theorem put_sm {c : Cf} {p : Nat} {y : Pa} (h : Lo y (c.pf p)) (hz : zOk (c.pf p) = true) (k : Nat) : sm (put c p y) k ≤ sm c k := by
  induction k with
  | zero => exact Int.le_refl _
  | succ k ih =>
    simp only [sm]
    by_cases e : k = p
    · subst e
      rw [put_same, hz]
      have h1 := h.z1
      have h0 := h.z0
      have hx : 1 ≤ (c.pf k).z := by omega
      cases hy : zOk y <;> simp only [cond_true, cond_false] <;> omega
    · rw [put_other c y e]
      omega
theorem lo_lim {y x : Pa} (h : Lo y x) : 1 ≤ lim y ∧ lim y ≤ lim x := by
  obtain ⟨_, _, _, _, _, _, _, _, _, _, _, _, _, _, _⟩ := h
  unfold lim
  omega
theorem less_may {c : Cf} {p : Nat} {y : Pa} (hm : may c = true) (hp : p < c.pn) (h : Lo y (c.pf p)) : may (put c p y) = true := by
  have hO := may_iff.1 hm
  have P0 := pBad_iff.1 (hO.p p hp)
  have hz : zOk (c.pf p) = true := by simp only [zOk, inB_iff]; exact ⟨P0.z0, P0.z1⟩
  have hM : (put c p y).MOk := ⟨hO.m.C, hO.m.F1, hO.m.F2, hO.m.FC, hO.m.S, hO.m.S1, hO.m.S2, hO.m.W1, hO.m.W2, hO.m.V1, hO.m.V2, hO.m.T1, hO.m.T2, hO.m.p1, hO.m.p2⟩
  refine may_iff.2 ⟨hM, hO.k, hO.s, hO.pd, fun q hq => ?_, hO.t1, hO.t2, hO.t, fun q hq => pBad_iff.2 ?_⟩
  · by_cases e : q = p
    · subst e
      rw [put_same]
      have hl := lo_lim h
      have hk : (shp y).Ok := by
        have ho : im y = im (c.pf q) := by unfold im; rw [h.o]
        have h3 : im (c.pf q) = 1 ∨ im (c.pf q) = 2 ∨ im (c.pf q) = 4 ∨ im (c.pf q) = 8 := by
          have a := P0.o0
          have b := P0.o1
          unfold im
          rcases (by omega : (c.pf q).o.toNat = 0 ∨ (c.pf q).o.toNat = 1 ∨ (c.pf q).o.toNat = 2 ∨ (c.pf q).o.toNat = 3) with e | e | e | e <;> rw [e] <;> simp
        have := h.u0; have := h.u1; have := P0.u1; have := h.t0; have := h.t1; have := P0.t1; have := h.z1; have := P0.z1
        refine ⟨by show im y = 1 ∨ im y = 2 ∨ im y = 4 ∨ im y = 8; rw [ho]; exact h3, h.u0, by show y.u ≤ 4096; omega, hl.1, ?_, by show 1 ≤ y.t; omega, by show y.t ≤ 4096; omega⟩
        show lim y ≤ 5120
        unfold lim
        omega
      have := mx_mono hO.k hk (t := shp (c.pf q)) ⟨Int.le_refl _, Int.le_refl _, Int.le_refl _, Int.le_refl _, by show im y = im (c.pf q); unfold im; rw [h.o], h.u1, hl.2, h.t1⟩ 11
      exact Int.le_trans this (hO.mo q hq)
    · rw [put_other c y e]
      exact hO.mo q hq
  · have Pq := pBad_iff.1 (hO.p q hq)
    have hs := put_sm h hz q
    have hn := (put_nf h q).1
    have hf := (put_nf h q).2
    have hsh := put_sh h q q
    have hri : rise (put c p y).C ((put c p y).pf q).f ((put c p y).pf q).n = true := by rw [hn, hf]; exact Pq.ri
    by_cases e : q = p
    · subst e
      have hft := Pq.fit (mOk_iff.2 hO.m)
      have := h.u0; have := h.u1; have := h.t0; have := h.t1; have := h.s0; have := h.s1; have := h.r0; have := h.r1; have := h.d0; have := h.d1; have := h.z0; have := h.z1
      have := Pq.u1; have := Pq.t1; have := Pq.s1; have := Pq.r1; have := Pq.d1; have := Pq.z1; have := Pq.sm; have := Pq.o0; have := Pq.o1
      have ho := h.o
      have hnn := h.n
      rw [put_same] at hn hf hsh hri
      refine ⟨?_, ?_, ?_, ?_, ?_, ?_, ?_, ?_, ?_, ?_, ?_, ?_, ?_, ?_, ?_, ?_, ?_, ?_, ?_⟩ <;> rw [put_same] <;> first | exact hri | (rw [hnn]; exact Pq.n0) | (rw [hsh]; exact Pq.sh) | omega | skip
      intro _
      have ei : im y = im (c.pf q) := by unfold im; rw [ho]
      unfold fit at hft ⊢
      simp only [Bool.and_eq_true, decide_eq_true_eq] at hft ⊢
      rw [ei, hnn]
      refine ⟨hft.1, ?_⟩
      have := hft.2
      show im (c.pf q) + y.u + y.t + y.s + y.r + y.d ≤ (c.pf q).n * (c.F / c.C)
      omega
    · have e2 := put_other c y e
      refine ⟨hri, ?_, ?_, ?_, ?_, ?_, ?_, ?_, ?_, ?_, ?_, ?_, ?_, ?_, ?_, ?_, ?_, ?_, ?_⟩ <;> rw [e2]
      · exact Pq.n0
      · rw [← e2, hsh]; exact Pq.sh
      · exact Pq.o0
      · exact Pq.o1
      · exact Pq.u0
      · exact Pq.u1
      · exact Pq.t0
      · exact Pq.t1
      · exact Pq.s0
      · exact Pq.s1
      · exact Pq.r0
      · exact Pq.r1
      · exact Pq.d0
      · exact Pq.d1
      · exact Pq.z0
      · exact Pq.z1
      · have := Pq.sm; omega
      · intro _; exact Pq.fit (mOk_iff.2 hO.m)
end Go.Proofs.Ytcmgjinjfaialaa
