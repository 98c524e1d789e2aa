/- What plan's partWrong gives back: what is wrong with a partition behind earlier ones; no condition but those named. -/
import Derived.Test.YtdempgjhjcjklaaGreatVPb
namespace Go.Proofs.YtdempgjhjcjklaaGreat
open Go.ChangeShapes Go.WideShapes Go.ChangeAt Go.RowKit
set_option linter.unusedVariables false

theorem okQ_ways : ∀ q z s m f : Bool, (q && (z && (s && (!m || f)))) = (bif q then (bif z then (bif s then (bif m then f else true) else false) else false) else false) := by
  intro q z s m f
  cases q <;> cases z <;> cases s <;> cases m <;> cases f <;> rfl
set_option maxHeartbeats 1000000 in
theorem partWrong_any {w : World} {a : Ad} {c : Cf} {p pc : Nat} (hc : Cin w a c) (hp : p < c.pn) (hp8 : p < 8) (hs : sm c p ≤ 8192 ∧ 0 ≤ sm c p) :
    Calls Tryz.prog 160 #[.agg #[.int .i64 c.F, .int .i64 c.C, .int .i64 c.W, .int .i64 c.S, .int .i64 c.V, .int .i64 c.T, .int .u64 c.k.l1, .int .u64 c.k.llc, .int .u64 c.k.mi, .int .u64 c.k.fa, .int .u64 c.k.st, .int .u64 c.k.di, .int .u64 c.sl, .int .u64 c.pd, .int .u64 c.ft, .slice a.ta c.tn a.tc, .slice a.pa c.pn a.pc], .agg #[.slice (a.ca p) (c.pf p).n (a.cc p), .int .i64 (c.pf p).o, .int .i64 (c.pf p).u, .int .i64 (c.pf p).t, .int .i64 (c.pf p).s, .int .i64 (c.pf p).r, .int .i64 (c.pf p).d, .int .i64 (c.pf p).z], .slice a.pa p pc, .int .i64 (sm c p), .bool (mOk c)] w (One (.int .i64 (pBad c p)) w) := by
  have hA : Arg w (a.ca p) (c.pf p).n (c.pf p).f := hc.p.col hp
  have HB0 := cp_new (m := a.cc p) hc hA
  have hl := hc.cl p hp
  have C1 : Hid (∀ w', Arg w' (a.ca p) (c.pf p).n (c.pf p).f → Calls Tryz.prog 177 #[.slice (a.ca p) (c.pf p).n (a.cc p), .int .i64 c.C] w' fun e w'' => e = .returned (.bool (rise c.C (c.pf p).f (c.pf p).n && decide (0 < (c.pf p).n))) ∧ w'' = w') := fun w' h => coloursMayBe_any c.C hl h
  have C2 : Hid (∀ w', Cin w' a c → rise c.C (c.pf p).f (c.pf p).n = true → 0 < (c.pf p).n → Calls Tryz.prog 178 #[.slice (a.ca p) (c.pf p).n (a.cc p), .slice a.pa p pc] w' (One (.bool (sh c (c.pf p) p)) w')) := fun w' h hr h0 => sharesColour_any hl h0 (h.p.col hp) hr (by omega) (h.p.less (by omega)) (fun i hi => h.cl i (by omega))
  have C3 : Hid (∀ w', Cin w' a c → mOk c = true → rise c.C (c.pf p).f (c.pf p).n = true → qOk (c.pf p) = true → Calls Tryz.prog 180 #[.agg #[.int .i64 c.F, .int .i64 c.C, .int .i64 c.W, .int .i64 c.S, .int .i64 c.V, .int .i64 c.T, .int .u64 c.k.l1, .int .u64 c.k.llc, .int .u64 c.k.mi, .int .u64 c.k.fa, .int .u64 c.k.st, .int .u64 c.k.di, .int .u64 c.sl, .int .u64 c.pd, .int .u64 c.ft, .slice a.ta c.tn a.tc, .slice a.pa c.pn a.pc], .agg #[.slice (a.ca p) (c.pf p).n (a.cc p), .int .i64 (c.pf p).o, .int .i64 (c.pf p).u, .int .i64 (c.pf p).t, .int .i64 (c.pf p).s, .int .i64 (c.pf p).r, .int .i64 (c.pf p).d, .int .i64 (c.pf p).z]] w' (One (.bool (fit c (c.pf p))) w')) := fun w' h hm hr hq => framesSuffice_ok h (mOk_iff.1 hm) (h.p.col hp) hr hq
  have C4 : Hid (∀ w', Calls Tryz.prog 179 #[.agg #[.slice (a.ca p) (c.pf p).n (a.cc p), .int .i64 (c.pf p).o, .int .i64 (c.pf p).u, .int .i64 (c.pf p).t, .int .i64 (c.pf p).s, .int .i64 (c.pf p).r, .int .i64 (c.pf p).d, .int .i64 (c.pf p).z]] w' (One (.bool (qOk (c.pf p))) w')) := fun w' => quotasMayBe_any
  have C5 : Hid (∀ w', Calls Tryz.prog 161 #[.agg #[.slice (a.ca p) (c.pf p).n (a.cc p), .int .i64 (c.pf p).o, .int .i64 (c.pf p).u, .int .i64 (c.pf p).t, .int .i64 (c.pf p).s, .int .i64 (c.pf p).r, .int .i64 (c.pf p).d, .int .i64 (c.pf p).z]] w' (One (.bool (zOk (c.pf p))) w')) := fun w' => slotsMayBe_any
  have HZ : Hid (zOk (c.pf p) = true → 1 ≤ (c.pf p).z ∧ (c.pf p).z ≤ 1024) := fun h => inB_iff.1 h
  have HPB : Hid (pBad c p = bif (rise c.C (c.pf p).f (c.pf p).n && decide (0 < (c.pf p).n)) && !sh c (c.pf p) p then (bif (bif qOk (c.pf p) then (bif zOk (c.pf p) then (bif decide (sm c p + (c.pf p).z ≤ 1024) then (bif mOk c then fit c (c.pf p) else true) else false) else false) else false) then 0 else 111) else 110) := by
    show pBad c p = _
    unfold pBad okCol okQ
    rw [okQ_ways, Bool.and_assoc]
  obtain ⟨s1, s0⟩ := hs
  have hri : (rise c.C (c.pf p).f (c.pf p).n && decide (0 < (c.pf p).n)) = true → rise c.C (c.pf p).f (c.pf p).n = true ∧ 0 < (c.pf p).n := by simp
  have HRI : Hid ((rise c.C (c.pf p).f (c.pf p).n && decide (0 < (c.pf p).n)) = true → rise c.C (c.pf p).f (c.pf p).n = true ∧ 0 < (c.pf p).n) := hri
  clear hc hA hri
  generalize c.pf p = x at *
  generalize a.ca p = q at *
  generalize a.cc p = m at *
  generalize sm c p = S at *
  generalize pBad c p = res at *
  generalize hrv : (rise c.C x.f x.n && decide (0 < x.n)) = rv at *
  clear hrv
  generalize hsv : sh c x p = sv at *
  generalize hqv : qOk x = qv at *
  generalize hzv : zOk x = zv at *
  generalize hmv : mOk c = mv at *
  generalize hfv : fit c x = fv at *
  clear hsv hqv hzv hmv hfv
  go_enter Tryz.func160, Tryz.ntmps160
  go_wp2_with fail
  obtain ⟨W, hW, HB⟩ : ∃ W, ((w.alloc (.cells #[.int .i64 c.F, .int .i64 c.C, .int .i64 c.W, .int .i64 c.S, .int .i64 c.V, .int .i64 c.T, .int .u64 c.k.l1, .int .u64 c.k.llc, .int .u64 c.k.mi, .int .u64 c.k.fa, .int .u64 c.k.st, .int .u64 c.k.di, .int .u64 c.sl, .int .u64 c.pd, .int .u64 c.ft, .slice a.ta c.tn a.tc, .slice a.pa c.pn a.pc] 28)).alloc (.cells #[.slice q x.n m, .int .i64 x.o, .int .i64 x.u, .int .i64 x.t, .int .i64 x.s, .int .i64 x.r, .int .i64 x.d, .int .i64 x.z] 53)) = W ∧ Hid (Cp w W w.heap.size (w.heap.size + 1) a c q m x) := ⟨_, rfl, HB0⟩
  rw [hW]
  clear hW HB0
  refine (C1.out _ HB.out.ag).mono ?_
  rintro e w1 ⟨rfl, rfl⟩
  obtain ⟨_, c0, c1, c2, c3, c4, c5, c6, c7, c8, c9, c10, c11, c12, c13, c14, c15, c16⟩ := HB.out.bx
  obtain ⟨_, e0, e1, e2, e3, e4, e5, e6, e7⟩ := HB.out.px
  cases rv
  · clear c0 c1 c2 c3 c4 c5 c6 c7 c8 c9 c10 c11 c12 c13 c14 c15 c16
    go_wp2
    go_ret
    exact ⟨ret_int (by rw [HPB.out]; rfl), HB.out.be⟩
  obtain ⟨hr, h0⟩ := HRI.out rfl
  have HRr : Hid (rise c.C x.f x.n = true) := hr
  clear hr HRI C1
  go_wp2_with fail
  refine (C2.out _ HB.out.ci HRr.out h0).mono ?_
  rintro e w2 ⟨rfl, k2⟩
  have HB2 : Hid (Cp w w2 w.heap.size (w.heap.size + 1) a c q m x) := HB.out.below k2
  clear HB k2 C2 c0 c1 c2 c3 c4 c5 c6 c7 c8 c9 c10 c11 c12 c13 c14 c15 c16 e0 e1 e2 e3 e4 e5 e6 e7
  obtain ⟨_, e0, e1, e2, e3, e4, e5, e6, e7⟩ := HB2.out.px
  cases sv
  case true =>
    go_wp2
    go_ret
    exact ⟨ret_int (by rw [HPB.out]; rfl), HB2.out.be⟩
  go_wp2_with fail
  refine (C4.out _).mono ?_
  rintro e w3 ⟨rfl, k3⟩
  have HB3 : Hid (Cp w w3 w.heap.size (w.heap.size + 1) a c q m x) := HB2.out.below k3
  clear HB2 k3 C4 e0 e1 e2 e3 e4 e5 e6 e7
  obtain ⟨_, e0, e1, e2, e3, e4, e5, e6, e7⟩ := HB3.out.px
  cases qv
  · go_wp2_with (go_at_call 158; refine (unless_any _ _ _).mono ?_; rintro e w' ⟨rfl, rfl⟩)
    go_ret
    exact ⟨ret_int (by rw [HPB.out]; rfl), HB3.out.be⟩
  go_wp2_with fail
  refine (C5.out _).mono ?_
  rintro e w4 ⟨rfl, k4⟩
  have HB4 : Hid (Cp w w4 w.heap.size (w.heap.size + 1) a c q m x) := HB3.out.below k4
  clear HB3 k4 C5 e0 e1 e2 e3 e4 e5 e6 e7
  obtain ⟨_, e0, e1, e2, e3, e4, e5, e6, e7⟩ := HB4.out.px
  cases zv
  · go_wp2_with (go_at_call 158; refine (unless_any _ _ _).mono ?_; rintro e w' ⟨rfl, rfl⟩)
    go_ret
    exact ⟨ret_int (by rw [HPB.out]; rfl), HB4.out.be⟩
  obtain ⟨z0, z1⟩ := HZ.out rfl
  by_cases hsum : S + x.z ≤ 1024
  · have hd : decide (S + x.z ≤ 1024) = true := by simp [hsum]
    cases mv
    · go_wp2_with (go_at_call 158; refine (unless_any _ _ _).mono ?_; rintro e w' ⟨rfl, rfl⟩)
      go_ret
      exact ⟨ret_int (by rw [HPB.out, hd]; rfl), HB4.out.be⟩
    · obtain ⟨_, c0, c1, c2, c3, c4, c5, c6, c7, c8, c9, c10, c11, c12, c13, c14, c15, c16⟩ := HB4.out.bx
      go_wp2_with fail
      refine (C3.out _ HB4.out.ci (by first | rfl | trivial) HRr.out (by first | rfl | trivial)).mono ?_
      rintro e w5 ⟨rfl, k5⟩
      have FIN : Hid (Below w.heap.size w w5) := HB4.out.be.trans (k5.mono HB4.out.be.size)
      clear HB4 k5 c0 c1 c2 c3 c4 c5 c6 c7 c8 c9 c10 c11 c12 c13 c14 c15 c16 e0 e1 e2 e3 e4 e5 e6 e7 C3
      go_wp2_with (go_at_call 158; refine (unless_any _ _ _).mono ?_; rintro e w' ⟨rfl, rfl⟩)
      go_ret
      exact ⟨ret_int (by rw [HPB.out, hd]; rfl), FIN.out⟩
  · have hd : decide (S + x.z ≤ 1024) = false := by simp [hsum]
    go_wp2_with (go_at_call 158; refine (unless_any _ _ _).mono ?_; rintro e w' ⟨rfl, rfl⟩)
    go_ret
    exact ⟨ret_int (by rw [HPB.out, hd]; rfl), HB4.out.be⟩
end Go.Proofs.YtdempgjhjcjklaaGreat
