/- What plan's shape, total and framesSuffice give back, and colour's Count; no condition but those named. -/
import Derived.Test.YtcmgjinjfaialaaGreatP3
import Derived.Deep.RegionHeld3
import Derived.Deep.RegionWith
namespace Go.Proofs.YtcmgjinjfaialaaGreat
open Go.ChangeShapes Go.WideShapes Go.ChangeAt Go.RowKit
set_option linter.unusedVariables false

theorem cframesMayBe_any (a : Int) (w : World) : Calls Tryz.prog 96 #[.int .i64 a] w fun e w' => e = .returned (.bool (inB a 1 4096)) ∧ w' = w := by
  go_enter Tryz.func96, Tryz.ntmps96
  go_wp2
  all_goals (go_ret; exact ⟨ret_bool (by rw [Bool.eq_iff_iff]; simp [inB]; omega), rfl⟩)
theorem ccoloursMayBe_any (a : Int) (w : World) : Calls Tryz.prog 102 #[.int .i64 a] w fun e w' => e = .returned (.bool (inB a 1 16)) ∧ w' = w := by
  go_enter Tryz.func102, Tryz.ntmps102
  go_wp2
  all_goals (go_ret; exact ⟨ret_bool (by rw [Bool.eq_iff_iff]; simp [inB]; omega), rfl⟩)
theorem ccolourMayBe_ok (c n : Int) (h : inB n 1 16 = true) (w : World) : Calls Tryz.prog 97 #[.int .i64 c, .int .i64 n] w fun e w' => e = .returned (.bool (inB c 0 (n - 1))) ∧ w' = w := by
  go_enter Tryz.func97, Tryz.ntmps97
  go_wp2_with (go_at_call 102; refine (ccoloursMayBe_any _ _).mono ?_; rintro e w' ⟨rfl, rfl⟩)
  all_goals (go_ret; exact ⟨ret_bool (by rw [Bool.eq_iff_iff]; simp [inB]; omega), rfl⟩)
theorem ct_quo {F n c : Int} (hn : n = 1 ∨ n = 2 ∨ n = 4 ∨ n = 8 ∨ n = 16) (hF : F % n = 0) (h0 : 0 ≤ c) (h1 : c < n) : (F - c + n - 1) / n = F / n := by
  rcases hn with rfl | rfl | rfl | rfl | rfl <;> omega
theorem quo_range {F n : Int} (hn : n = 1 ∨ n = 2 ∨ n = 4 ∨ n = 8 ∨ n = 16) (hF : 1 ≤ F) (hF1 : F ≤ 4096) : 0 ≤ F / n ∧ F / n ≤ 4096 := by
  rcases hn with rfl | rfl | rfl | rfl | rfl <;> omega
theorem Count_quo {F n c : Int} (hF : 1 ≤ F) (hF1 : F ≤ 4096) (hn : n = 1 ∨ n = 2 ∨ n = 4 ∨ n = 8 ∨ n = 16) (hm : F % n = 0) (h0 : 0 ≤ c) (h1 : c < n) (w : World) :
    Calls Tryz.prog 77 #[.int .i64 F, .int .i64 n, .int .i64 c] w fun e w' => e = .returned (.tuple #[.int .i64 (F / n), .int .i64 0]) ∧ w' = w := by
  have ha := inB_t hF hF1
  have hb := inB_t h0 (show c ≤ n - 1 by omega)
  have hc : inB n 1 16 = true := inB_t (by omega) (by omega)
  have hq : (F - c + n - 1).tdiv n = F / n := (Int.tdiv_eq_ediv_of_nonneg (by omega)).trans (ct_quo hn hm h0 h1)
  have hn0 : ¬ n = 0 := by omega
  have hn1 : n ≤ 16 := by omega
  obtain ⟨g0, g1⟩ := quo_range hn hF hF1
  have C1 : Hid (∀ w, Calls Tryz.prog 97 #[.int .i64 c, .int .i64 n] w fun e w' => e = .returned (.bool (inB c 0 (n - 1))) ∧ w' = w) := fun w => ccolourMayBe_ok c n hc w
  rw [hb] at C1
  generalize F / n = q at *
  clear hn hm
  go_enter Tryz.func77, Tryz.ntmps77
  go_wp2_with (first | (go_at_call 96; refine (cframesMayBe_any _ _).mono ?_; rintro e w' ⟨rfl, rfl⟩) | (go_at_call 97; refine (C1.out _).mono ?_; rintro e w' ⟨rfl, rfl⟩))
  go_ret2
  exact ⟨rfl, rfl⟩
/-- A configuration's and a partition's box beside what was there. -/
structure Cp (w0 w : World) (g b : Nat) (a : Ad) (c : Cf) (q : Option Addr) (m : Nat) (x : Pa) : Prop where
  be : Below w0.heap.size w0 w
  bx : Sev w g a c
  px : Ebx w b q m x
  ci : Cin w a c
  ag : Arg w q x.n x.f
theorem Cp.below {w0 w w' : World} {g b : Nat} {a : Ad} {c : Cf} {q : Option Addr} {m : Nat} {x : Pa} (h : Cp w0 w g b a c q m x) (k : Below w.heap.size w w') : Cp w0 w' g b a c q m x :=
  ⟨h.be.trans (k.mono h.be.size), h.bx.below k, h.px.below k, h.ci.below k, h.ag.below k⟩
theorem cp_new {w : World} {a : Ad} {c : Cf} {q : Option Addr} {m : Nat} {x : Pa} (h : Cin w a c) (hA : Arg w q x.n x.f) :
    Cp w ((w.alloc (.cells #[.int .i64 c.F, .int .i64 c.C, .int .i64 c.W, .int .i64 c.S, .int .i64 c.V, .int .i64 c.T, .int .u64 c.k.l1, .int .u64 c.k.llc, .int .u64 c.k.mi, .int .u64 c.k.fa, .int .u64 c.k.st, .int .u64 c.k.di, .int .u64 c.sl, .int .u64 c.pd, .int .u64 c.ft, .slice a.ta c.tn a.tc, .slice a.pa c.pn a.pc] 28)).alloc (.cells #[.slice q x.n m, .int .i64 x.o, .int .i64 x.u, .int .i64 x.t, .int .i64 x.s, .int .i64 x.r, .int .i64 x.d, .int .i64 x.z] 40)) w.heap.size (w.heap.size + 1) a c q m x :=
  ⟨below_two _ _ _, (sev_new w a c).below (below_new _ _), by simpa using ebx_new (w.alloc (.cells #[.int .i64 c.F, .int .i64 c.C, .int .i64 c.W, .int .i64 c.S, .int .i64 c.V, .int .i64 c.T, .int .u64 c.k.l1, .int .u64 c.k.llc, .int .u64 c.k.mi, .int .u64 c.k.fa, .int .u64 c.k.st, .int .u64 c.k.di, .int .u64 c.sl, .int .u64 c.pd, .int .u64 c.ft, .slice a.ta c.tn a.tc, .slice a.pa c.pn a.pc] 28)) q m x, (h.below (below_new _ _)).below (below_new _ _), (hA.below (below_new _ _)).below (below_new _ _)⟩
theorem total_ok {w : World} {a : Ad} {c : Cf} {q : Option Addr} {m : Nat} {x : Pa} (hc : Cin w a c) (hM : c.MOk) (hA : Arg w q x.n x.f) (hr : rise c.C x.f x.n = true) :
    Calls Tryz.prog 58 #[.agg #[.int .i64 c.F, .int .i64 c.C, .int .i64 c.W, .int .i64 c.S, .int .i64 c.V, .int .i64 c.T, .int .u64 c.k.l1, .int .u64 c.k.llc, .int .u64 c.k.mi, .int .u64 c.k.fa, .int .u64 c.k.st, .int .u64 c.k.di, .int .u64 c.sl, .int .u64 c.pd, .int .u64 c.ft, .slice a.ta c.tn a.tc, .slice a.pa c.pn a.pc], .agg #[.slice q x.n m, .int .i64 x.o, .int .i64 x.u, .int .i64 x.t, .int .i64 x.s, .int .i64 x.r, .int .i64 x.d, .int .i64 x.z]] w (One (.int .i64 (x.n * (c.F / c.C))) w) := by
  have HB0 := cp_new (m := m) hc hA
  obtain ⟨q0, q1⟩ := quo_range hM.C hM.F1 hM.F2
  have CC : Hid (∀ v w, 0 ≤ v → v < c.C → Calls Tryz.prog 77 #[.int .i64 c.F, .int .i64 c.C, .int .i64 v] w fun e w' => e = .returned (.tuple #[.int .i64 (c.F / c.C), .int .i64 0]) ∧ w' = w) := fun v w h0 h1 => Count_quo hM.F1 hM.F2 hM.C hM.FC h0 h1 w
  have hn : x.n ≤ 16 := by
    by_cases h : 0 < x.n
    · have := rise_len hr h
      have := hM.C
      omega
    · omega
  have HR : Hid (∀ j, j < x.n → 0 ≤ x.f j ∧ x.f j < c.C) := fun j hj => ⟨(rise_at hr hj).1, (rise_at hr hj).2.1⟩
  clear hc hM hA hr
  generalize c.F / c.C = Q at *
  go_enter Tryz.func58, Tryz.ntmps58
  go_wp2
  obtain ⟨W, hW, HB⟩ : ∃ W, ((w.alloc (.cells #[.int .i64 c.F, .int .i64 c.C, .int .i64 c.W, .int .i64 c.S, .int .i64 c.V, .int .i64 c.T, .int .u64 c.k.l1, .int .u64 c.k.llc, .int .u64 c.k.mi, .int .u64 c.k.fa, .int .u64 c.k.st, .int .u64 c.k.di, .int .u64 c.sl, .int .u64 c.pd, .int .u64 c.ft, .slice a.ta c.tn a.tc, .slice a.pa c.pn a.pc] 28)).alloc (.cells #[.slice q x.n m, .int .i64 x.o, .int .i64 x.u, .int .i64 x.t, .int .i64 x.s, .int .i64 x.r, .int .i64 x.d, .int .i64 x.z] 40)) = W ∧ Hid (Cp w W w.heap.size (w.heap.size + 1) a c q m x) := ⟨_, rfl, HB0⟩
  rw [hW]
  clear hW HB0
  go_loopw [5, 13] (fun s i wr => ∃ j : Nat, j ≤ x.n ∧ i = .int .i64 j ∧ s = .int .i64 ((j : Int) * Q) ∧ wr = W) (fun _ i _ => x.n - (intOf i).toNat)
  case atStart => exact ⟨0, by omega, rfl, by simp, rfl⟩
  case round =>
    obtain ⟨j, hj, rfl, rfl, rfl⟩ := hrel
    have p1 := prod_le (j : Int) Q 16 4096 (by omega) (by omega) q0 q1
    have hm : Hid (((j + 1 : Nat) : Int) * Q = (j : Int) * Q + Q) := by unfold Hid; rw [Int.natCast_add, Int.add_mul]; simp
    have he : Hid (j = x.n → (j : Int) * Q = x.n * Q) := fun h => by rw [h]
    generalize (j : Int) * Q = s at *
    by_cases hlt : j < x.n
    · obtain ⟨b, o, hq, d1⟩ := HB.out.ag.at' (Below.refl _ _) hlt
      obtain ⟨v0, v1⟩ := HR.out j hlt
      obtain ⟨_, c0, c1, c2, c3, c4, c5, c6, c7, c8, c9, c10, c11, c12, c13, c14, c15, c16⟩ := HB.out.bx
      clear c2 c3 c4 c5 c6 c7 c8 c9 c10 c11 c12 c13 c14 c15 c16
      generalize x.f j = v at *
      subst hq
      go_wp2_with (go_at_call 77; refine (CC.out _ _ v0 v1).mono ?_; rintro e w' ⟨rfl, rfl⟩)
      go_roundw
      case rel => exact ⟨j + 1, by omega, by go_num, by rw [hm.out], by first | rfl | trivial⟩
      case measure => simp [intOf]; omega
    · go_wp2
      go_ret
      exact ⟨ret_int (he.out (by omega)), HB.out.be⟩
theorem framesSuffice_ok {w : World} {a : Ad} {c : Cf} {q : Option Addr} {m : Nat} {x : Pa} (hc : Cin w a c) (hM : c.MOk) (hA : Arg w q x.n x.f) (hr : rise c.C x.f x.n = true) (hq : qOk x = true) :
    Calls Tryz.prog 67 #[.agg #[.int .i64 c.F, .int .i64 c.C, .int .i64 c.W, .int .i64 c.S, .int .i64 c.V, .int .i64 c.T, .int .u64 c.k.l1, .int .u64 c.k.llc, .int .u64 c.k.mi, .int .u64 c.k.fa, .int .u64 c.k.st, .int .u64 c.k.di, .int .u64 c.sl, .int .u64 c.pd, .int .u64 c.ft, .slice a.ta c.tn a.tc, .slice a.pa c.pn a.pc], .agg #[.slice q x.n m, .int .i64 x.o, .int .i64 x.u, .int .i64 x.t, .int .i64 x.s, .int .i64 x.r, .int .i64 x.d, .int .i64 x.z]] w (One (.bool (fit c x)) w) := by
  have HB0 := cp_new (m := m) hc hA
  have TC : Hid (∀ w', Cp w w' w.heap.size (w.heap.size + 1) a c q m x → Calls Tryz.prog 58 #[.agg #[.int .i64 c.F, .int .i64 c.C, .int .i64 c.W, .int .i64 c.S, .int .i64 c.V, .int .i64 c.T, .int .u64 c.k.l1, .int .u64 c.k.llc, .int .u64 c.k.mi, .int .u64 c.k.fa, .int .u64 c.k.st, .int .u64 c.k.di, .int .u64 c.sl, .int .u64 c.pd, .int .u64 c.ft, .slice a.ta c.tn a.tc, .slice a.pa c.pn a.pc], .agg #[.slice q x.n m, .int .i64 x.o, .int .i64 x.u, .int .i64 x.t, .int .i64 x.s, .int .i64 x.r, .int .i64 x.d, .int .i64 x.z]] w' (One (.int .i64 (x.n * (c.F / c.C))) w')) := fun w' h => total_ok h.ci hM h.ag hr
  obtain ⟨q0, q1⟩ := quo_range hM.C hM.F1 hM.F2
  have hC0 : ¬ c.C = 0 := by have := hM.C; omega
  have hq' : c.F.tdiv c.C = c.F / c.C := Int.tdiv_eq_ediv_of_nonneg (by have := hM.F1; omega)
  simp only [qOk, Bool.and_eq_true, inB_iff] at hq
  obtain ⟨⟨o0, o1⟩, ⟨u0, u1⟩, ⟨t0, t1⟩, ⟨s0, s1⟩, ⟨r0, r1⟩, d0, d1⟩ := hq
  have IC : Hid (∀ w, Calls Tryz.prog 76 #[.agg #[.slice q x.n m, .int .i64 x.o, .int .i64 x.u, .int .i64 x.t, .int .i64 x.s, .int .i64 x.r, .int .i64 x.d, .int .i64 x.z]] w (One (.int .i64 (im x)) w)) := fun w => imageFrames_ok o0 o1
  have hi : 1 ≤ im x ∧ im x ≤ 8 := by have := im_ways o0 o1; omega
  obtain ⟨i0, i1⟩ := hi
  have HF : Hid (fit c x = (decide (im x ≤ c.F / c.C) && decide (im x + x.u + x.t + x.s + x.r + x.d ≤ x.n * (c.F / c.C)))) := rfl
  clear hc hM hA hr
  generalize (x.n : Int) * (c.F / c.C) = TT at *
  generalize c.F / c.C = Q at *
  generalize im x = I at *
  generalize fit c x = res at *
  go_enter Tryz.func67, Tryz.ntmps67
  go_wp2_with fail
  obtain ⟨W, hW, HB⟩ : ∃ W, ((w.alloc (.cells #[.int .i64 c.F, .int .i64 c.C, .int .i64 c.W, .int .i64 c.S, .int .i64 c.V, .int .i64 c.T, .int .u64 c.k.l1, .int .u64 c.k.llc, .int .u64 c.k.mi, .int .u64 c.k.fa, .int .u64 c.k.st, .int .u64 c.k.di, .int .u64 c.sl, .int .u64 c.pd, .int .u64 c.ft, .slice a.ta c.tn a.tc, .slice a.pa c.pn a.pc] 28)).alloc (.cells #[.slice q x.n m, .int .i64 x.o, .int .i64 x.u, .int .i64 x.t, .int .i64 x.s, .int .i64 x.r, .int .i64 x.d, .int .i64 x.z] 40)) = W ∧ Hid (Cp w W w.heap.size (w.heap.size + 1) a c q m x) := ⟨_, rfl, HB0⟩
  rw [hW]
  clear hW HB0
  refine (IC.out _).mono ?_
  rintro e w1 ⟨rfl, k1⟩
  have HB1 : Hid (Cp w w1 w.heap.size (w.heap.size + 1) a c q m x) := HB.out.below k1
  clear HB k1 IC
  obtain ⟨_, c0, c1, c2, c3, c4, c5, c6, c7, c8, c9, c10, c11, c12, c13, c14, c15, c16⟩ := HB1.out.bx
  obtain ⟨_, e0, e1, e2, e3, e4, e5, e6, e7⟩ := HB1.out.px
  by_cases hI : I ≤ Q
  · go_wp2_with fail
    refine (TC.out _ HB1.out).mono ?_
    rintro e w2 ⟨rfl, k2⟩
    have FIN : Hid (Below w.heap.size w w2) := HB1.out.be.trans (k2.mono HB1.out.be.size)
    clear k2 HB1 c0 c1 c2 c3 c4 c5 c6 c7 c8 c9 c10 c11 c12 c13 c14 c15 c16 e0 e1 e2 e3 e4 e5 e6 e7 TC
    go_wp2
    all_goals (go_ret; exact ⟨ret_bool (by rw [HF.out, Bool.eq_iff_iff]; simp; try omega), FIN.out⟩)
  · go_wp2_with fail
    go_ret
    exact ⟨ret_bool (by rw [HF.out, Bool.eq_iff_iff]; simp; omega), HB1.out.be⟩
end Go.Proofs.YtcmgjinjfaialaaGreat
