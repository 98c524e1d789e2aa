/- Two configurations that are the same, held against one another; no condition but that both lie in memory. -/
import Derived.Test.YtcmgjinjfaialaaGreatSa
import Derived.Deep.RegionHeld3
namespace Go.Proofs.YtcmgjinjfaialaaGreat
open Go.ChangeShapes Go.WideShapes Go.ChangeAt Go.RowKit
set_option linter.unusedVariables false

/-- Two boxes of one configuration beside what was there. -/
structure Sm (w0 w : World) (a b : Ad) (c : Cf) : Prop where
  be : Below w0.heap.size w0 w
  ax : Sev w w0.heap.size a c
  bx : Sev w (w0.heap.size + 1) b c
  ai : Cin w a c
  bi : Cin w b c
theorem Sm.below {w0 w w' : World} {a b : Ad} {c : Cf} (h : Sm w0 w a b c) (k : Below w.heap.size w w') : Sm w0 w' a b c := ⟨h.be.trans (k.mono h.be.size), h.ax.below k, h.bx.below k, h.ai.below k, h.bi.below k⟩
theorem sm_new {w : World} {a b : Ad} {c : Cf} (ha : Cin w a c) (hb : Cin w b c) : Sm w ((w.alloc (.cells #[.int .i64 c.F, .int .i64 c.C, .int .i64 c.W, .int .i64 c.S, .int .i64 c.V, .int .i64 c.T, .int .u64 c.k.l1, .int .u64 c.k.llc, .int .u64 c.k.mi, .int .u64 c.k.fa, .int .u64 c.k.st, .int .u64 c.k.di, .int .u64 c.sl, .int .u64 c.pd, .int .u64 c.ft, .slice a.ta c.tn a.tc, .slice a.pa c.pn a.pc] 28)).alloc (.cells #[.int .i64 c.F, .int .i64 c.C, .int .i64 c.W, .int .i64 c.S, .int .i64 c.V, .int .i64 c.T, .int .u64 c.k.l1, .int .u64 c.k.llc, .int .u64 c.k.mi, .int .u64 c.k.fa, .int .u64 c.k.st, .int .u64 c.k.di, .int .u64 c.sl, .int .u64 c.pd, .int .u64 c.ft, .slice b.ta c.tn b.tc, .slice b.pa c.pn b.pc] 28)) a b c :=
  ⟨below_two _ _ _, (sev_new w a c).below (below_new _ _), by simpa using sev_new (w.alloc (.cells #[.int .i64 c.F, .int .i64 c.C, .int .i64 c.W, .int .i64 c.S, .int .i64 c.V, .int .i64 c.T, .int .u64 c.k.l1, .int .u64 c.k.llc, .int .u64 c.k.mi, .int .u64 c.k.fa, .int .u64 c.k.st, .int .u64 c.k.di, .int .u64 c.sl, .int .u64 c.pd, .int .u64 c.ft, .slice a.ta c.tn a.tc, .slice a.pa c.pn a.pc] 28)) b c, (ha.below (below_new _ _)).below (below_new _ _), (hb.below (below_new _ _)).below (below_new _ _)⟩
theorem two_boxes (w : World) (qa : Option Addr) (ma : Nat) (qb : Option Addr) (mb : Nat) (x : Pa) : Ebx ((w.alloc (.cells #[.slice qa x.n ma, .int .i64 x.o, .int .i64 x.u, .int .i64 x.t, .int .i64 x.s, .int .i64 x.r, .int .i64 x.d, .int .i64 x.z] 40)).alloc (.cells #[.slice qb x.n mb, .int .i64 x.o, .int .i64 x.u, .int .i64 x.t, .int .i64 x.s, .int .i64 x.r, .int .i64 x.d, .int .i64 x.z] 40)).drew w.heap.size qa ma x ∧ Ebx ((w.alloc (.cells #[.slice qa x.n ma, .int .i64 x.o, .int .i64 x.u, .int .i64 x.t, .int .i64 x.s, .int .i64 x.r, .int .i64 x.d, .int .i64 x.z] 40)).alloc (.cells #[.slice qb x.n mb, .int .i64 x.o, .int .i64 x.u, .int .i64 x.t, .int .i64 x.s, .int .i64 x.r, .int .i64 x.d, .int .i64 x.z] 40)).drew (w.heap.size + 1) qb mb x ∧ Below w.heap.size w ((w.alloc (.cells #[.slice qa x.n ma, .int .i64 x.o, .int .i64 x.u, .int .i64 x.t, .int .i64 x.s, .int .i64 x.r, .int .i64 x.d, .int .i64 x.z] 40)).alloc (.cells #[.slice qb x.n mb, .int .i64 x.o, .int .i64 x.u, .int .i64 x.t, .int .i64 x.s, .int .i64 x.r, .int .i64 x.d, .int .i64 x.z] 40)).drew := by
  refine ⟨((ebx_new w qa ma x).below (below_new _ _)).below (below_drew _ _), ?_, (below_two _ _ _).drew⟩
  have h : Ebx ((w.alloc (.cells #[.slice qa x.n ma, .int .i64 x.o, .int .i64 x.u, .int .i64 x.t, .int .i64 x.s, .int .i64 x.r, .int .i64 x.d, .int .i64 x.z] 40)).alloc (.cells #[.slice qb x.n mb, .int .i64 x.o, .int .i64 x.u, .int .i64 x.t, .int .i64 x.s, .int .i64 x.r, .int .i64 x.d, .int .i64 x.z] 40)) (w.heap.size + 1) qb mb x := by simpa using ebx_new (w.alloc (.cells #[.slice qa x.n ma, .int .i64 x.o, .int .i64 x.u, .int .i64 x.t, .int .i64 x.s, .int .i64 x.r, .int .i64 x.d, .int .i64 x.z] 40)) qb mb x
  exact h.below (below_drew _ _)
set_option maxRecDepth 100000 in
set_option maxHeartbeats 4000000 in
theorem Same_any {w : World} {a b : Ad} {c : Cf} (ha : Cin w a c) (hb : Cin w b c) : Calls Tryz.prog 21 #[.agg #[.int .i64 c.F, .int .i64 c.C, .int .i64 c.W, .int .i64 c.S, .int .i64 c.V, .int .i64 c.T, .int .u64 c.k.l1, .int .u64 c.k.llc, .int .u64 c.k.mi, .int .u64 c.k.fa, .int .u64 c.k.st, .int .u64 c.k.di, .int .u64 c.sl, .int .u64 c.pd, .int .u64 c.ft, .slice a.ta c.tn a.tc, .slice a.pa c.pn a.pc], .agg #[.int .i64 c.F, .int .i64 c.C, .int .i64 c.W, .int .i64 c.S, .int .i64 c.V, .int .i64 c.T, .int .u64 c.k.l1, .int .u64 c.k.llc, .int .u64 c.k.mi, .int .u64 c.k.fa, .int .u64 c.k.st, .int .u64 c.k.di, .int .u64 c.sl, .int .u64 c.pd, .int .u64 c.ft, .slice b.ta c.tn b.tc, .slice b.pa c.pn b.pc]] w (One (.bool true) w) := by
  have HS0 := sm_new ha hb
  have hpl := ha.pl
  have htl := ha.tl
  have HCL : Hid (∀ i, i < c.pn → (c.pf i).n * 8 ≤ 140737488351232) := ha.cl
  have hq := neC c.k
  clear ha hb
  go_enter Tryz.func21, Tryz.ntmps21
  go_upto_region 1 with fail
  obtain ⟨W, hW, HS⟩ : ∃ W, ((w.alloc (.cells #[.int .i64 c.F, .int .i64 c.C, .int .i64 c.W, .int .i64 c.S, .int .i64 c.V, .int .i64 c.T, .int .u64 c.k.l1, .int .u64 c.k.llc, .int .u64 c.k.mi, .int .u64 c.k.fa, .int .u64 c.k.st, .int .u64 c.k.di, .int .u64 c.sl, .int .u64 c.pd, .int .u64 c.ft, .slice a.ta c.tn a.tc, .slice a.pa c.pn a.pc] 28)).alloc (.cells #[.int .i64 c.F, .int .i64 c.C, .int .i64 c.W, .int .i64 c.S, .int .i64 c.V, .int .i64 c.T, .int .u64 c.k.l1, .int .u64 c.k.llc, .int .u64 c.k.mi, .int .u64 c.k.fa, .int .u64 c.k.st, .int .u64 c.k.di, .int .u64 c.sl, .int .u64 c.pd, .int .u64 c.ft, .slice b.ta c.tn b.tc, .slice b.pa c.pn b.pc] 28)) = W ∧ Hid (Sm w W a b c) := ⟨_, rfl, HS0⟩
  rw [hW]
  clear hW HS0
  obtain ⟨_, c0, c1, c2, c3, c4, c5, c6, c7, c8, c9, c10, c11, c12, c13, c14, c15, c16⟩ := HS.out.ax
  obtain ⟨_, d0, d1, d2, d3, d4, d5, d6, d7, d8, d9, d10, d11, d12, d13, d14, d15, d16⟩ := HS.out.bx
  go_wp2_with fail
  refine (EqInts_any htl HS.out.ai.t HS.out.bi.t).mono ?_
  rintro _ w1 ⟨rfl, k1⟩
  have H1 : Hid (Sm w w1 a b c) := HS.out.below k1
  clear HS k1 c0 c1 c2 c3 c4 c5 c6 c7 c8 c9 c10 c11 c12 c13 c14 c15 c16 d0 d1 d2 d3 d4 d5 d6 d7 d8 d9 d10 d11 d12 d13 d14 d15 d16 hq
  have c16 := H1.out.ax.c16
  have d16 := H1.out.bx.c16
  go_wp2
  go_loopw [5] (fun i wr => ∃ k : Nat, k ≤ c.pn ∧ i = .int .i64 k ∧ Sm w wr a b c) (fun i _ => c.pn - (intOf i).toNat)
  case atStart => exact ⟨0, by omega, rfl, H1.out⟩
  case round =>
    clear H1 c16 d16
    obtain ⟨k, hk, rfl, hS⟩ := hrel
    have HS : Hid (Sm w wr a b c) := hS
    clear hS
    have c16 := HS.out.ax.c16
    have d16 := HS.out.bx.c16
    by_cases hlt : k < c.pn
    · obtain ⟨ba, oa, hqa, HEa⟩ := HS.out.ai.p.at' hlt
      obtain ⟨bb, ob, hqb, HEb⟩ := HS.out.bi.p.at' hlt
      have hkn : (k : Int) < (c.pn : Int) := by omega
      have hk0 : (0 : Int) ≤ (k : Int) := by omega
      have HCa : Hid (∀ w', Below wr.heap.size wr w' → Arg w' (a.ca k) (c.pf k).n (c.pf k).f ∧ Arg w' (b.ca k) (c.pf k).n (c.pf k).f) := fun w' h => ⟨(HS.out.ai.p.col hlt).below h, (HS.out.bi.p.col hlt).below h⟩
      have hcl := HCL.out k hlt
      have SX : Hid (∀ W', Below wr.heap.size wr W' → W'.cell? ⟨w.heap.size, 16, none⟩ = some (.slice (some ⟨ba, oa, none⟩) c.pn a.pc) ∧ W'.cell? ⟨w.heap.size + 1, 16, none⟩ = some (.slice (some ⟨bb, ob, none⟩) c.pn b.pc) ∧ (W'.cell? ⟨ba, oa + k * 8, none⟩ = some (.slice (a.ca k) (c.pf k).n (a.cc k)) ∧ W'.cell? ⟨ba, oa + k * 8 + 1, none⟩ = some (.int .i64 (c.pf k).o) ∧ W'.cell? ⟨ba, oa + k * 8 + 2, none⟩ = some (.int .i64 (c.pf k).u) ∧ W'.cell? ⟨ba, oa + k * 8 + 3, none⟩ = some (.int .i64 (c.pf k).t) ∧ W'.cell? ⟨ba, oa + k * 8 + 4, none⟩ = some (.int .i64 (c.pf k).s) ∧ W'.cell? ⟨ba, oa + k * 8 + 5, none⟩ = some (.int .i64 (c.pf k).r) ∧ W'.cell? ⟨ba, oa + k * 8 + 6, none⟩ = some (.int .i64 (c.pf k).d) ∧ W'.cell? ⟨ba, oa + k * 8 + 7, none⟩ = some (.int .i64 (c.pf k).z)) ∧ (W'.cell? ⟨bb, ob + k * 8, none⟩ = some (.slice (b.ca k) (c.pf k).n (b.cc k)) ∧ W'.cell? ⟨bb, ob + k * 8 + 1, none⟩ = some (.int .i64 (c.pf k).o) ∧ W'.cell? ⟨bb, ob + k * 8 + 2, none⟩ = some (.int .i64 (c.pf k).u) ∧ W'.cell? ⟨bb, ob + k * 8 + 3, none⟩ = some (.int .i64 (c.pf k).t) ∧ W'.cell? ⟨bb, ob + k * 8 + 4, none⟩ = some (.int .i64 (c.pf k).s) ∧ W'.cell? ⟨bb, ob + k * 8 + 5, none⟩ = some (.int .i64 (c.pf k).r) ∧ W'.cell? ⟨bb, ob + k * 8 + 6, none⟩ = some (.int .i64 (c.pf k).d) ∧ W'.cell? ⟨bb, ob + k * 8 + 7, none⟩ = some (.int .i64 (c.pf k).z))) := fun W' h => by
        have h1 := (HS.out.below h).ax.c16
        have h2 := (HS.out.below h).bx.c16
        rw [hqa] at h1
        rw [hqb] at h2
        obtain ⟨_, e0, e1, e2, e3, e4, e5, e6, e7⟩ := HEa.below h
        obtain ⟨_, f0, f1, f2, f3, f4, f5, f6, f7⟩ := HEb.below h
        exact ⟨h1, h2, ⟨e0, e1, e2, e3, e4, e5, e6, e7⟩, f0, f1, f2, f3, f4, f5, f6, f7⟩
      rw [hqa] at c16
      rw [hqb] at d16
      clear hqa hqb HEa HEb
      generalize c.pf k = x at *
      generalize a.ca k = qa at *
      generalize a.cc k = ma at *
      generalize b.ca k = qb at *
      generalize b.cc k = mb at *
      go_upto_region 8 with fail
      go_cut [6, 7] from 98 to 162 (fun t6 t7 wx => ∃ g6 g7, t6 = .pointer (some ⟨g6, 0, none⟩) ∧ t7 = .pointer (some ⟨g7, 0, none⟩) ∧ Ebx wx g6 qa ma x ∧ Ebx wx g7 qb mb x ∧ Below wr.heap.size wr wx)
      case first =>
        go_region_held3 (fun W' => W'.cell? ⟨w.heap.size, 16, none⟩ = some (.slice (some ⟨ba, oa, none⟩) c.pn a.pc) ∧ W'.cell? ⟨w.heap.size + 1, 16, none⟩ = some (.slice (some ⟨bb, ob, none⟩) c.pn b.pc) ∧ (W'.cell? ⟨ba, oa + k * 8, none⟩ = some (.slice qa x.n ma) ∧ W'.cell? ⟨ba, oa + k * 8 + 1, none⟩ = some (.int .i64 x.o) ∧ W'.cell? ⟨ba, oa + k * 8 + 2, none⟩ = some (.int .i64 x.u) ∧ W'.cell? ⟨ba, oa + k * 8 + 3, none⟩ = some (.int .i64 x.t) ∧ W'.cell? ⟨ba, oa + k * 8 + 4, none⟩ = some (.int .i64 x.s) ∧ W'.cell? ⟨ba, oa + k * 8 + 5, none⟩ = some (.int .i64 x.r) ∧ W'.cell? ⟨ba, oa + k * 8 + 6, none⟩ = some (.int .i64 x.d) ∧ W'.cell? ⟨ba, oa + k * 8 + 7, none⟩ = some (.int .i64 x.z)) ∧ (W'.cell? ⟨bb, ob + k * 8, none⟩ = some (.slice qb x.n mb) ∧ W'.cell? ⟨bb, ob + k * 8 + 1, none⟩ = some (.int .i64 x.o) ∧ W'.cell? ⟨bb, ob + k * 8 + 2, none⟩ = some (.int .i64 x.u) ∧ W'.cell? ⟨bb, ob + k * 8 + 3, none⟩ = some (.int .i64 x.t) ∧ W'.cell? ⟨bb, ob + k * 8 + 4, none⟩ = some (.int .i64 x.s) ∧ W'.cell? ⟨bb, ob + k * 8 + 5, none⟩ = some (.int .i64 x.r) ∧ W'.cell? ⟨bb, ob + k * 8 + 6, none⟩ = some (.int .i64 x.d) ∧ W'.cell? ⟨bb, ob + k * 8 + 7, none⟩ = some (.int .i64 x.z)))
          ((refine SX.out _ ?_; first | exact below_drew _ _ | exact (below_new _ _).drew | exact ((below_new _ _).alloc (by simp) _).drew))
          (fail)
        all_goals
          go_wp2_with fail
          go_meet
          case rel =>
            first
              | exact ⟨wr.heap.size, wr.heap.size + 1, rfl, rfl, (two_boxes wr qa ma qb mb x).1, (two_boxes wr qa ma qb mb x).2.1, (two_boxes wr qa ma qb mb x).2.2⟩
              | exact ⟨wr.heap.size + 1, wr.heap.size, rfl, rfl, (two_boxes wr qb mb qa ma x).2.1, (two_boxes wr qb mb qa ma x).1, (two_boxes wr qb mb qa ma x).2.2⟩
      case rest =>
      obtain ⟨g6, g7, rfl, rfl, h6, h7, kc⟩ := hcut
      have H2 : Hid (Sm w wc a b c) := HS.out.below kc
      obtain ⟨A1, A2⟩ := HCa.out wc kc
      have HA1 : Hid (Arg wc qa x.n x.f) := A1
      have HA2 : Hid (Arg wc qb x.n x.f) := A2
      have H6 : Hid (Ebx wc g6 qa ma x) := h6
      have H7 : Hid (Ebx wc g7 qb mb x) := h7
      clear A1 A2 HCa SX HS c16 d16 kc
      obtain ⟨_, e0, e1, e2, e3, e4, e5, e6, e7⟩ := h6
      obtain ⟨_, f0, f1, f2, f3, f4, f5, f6, f7⟩ := h7
      go_wp2_with fail
      refine (EqInts_any hcl HA1.out HA2.out).mono ?_
      rintro _ w5 ⟨rfl, k5⟩
      have H3 : Hid (Sm w w5 a b c) := H2.out.below k5
      clear e0 e1 e2 e3 e4 e5 e6 e7 f0 f1 f2 f3 f4 f5 f6 f7
      obtain ⟨_, e0, e1, e2, e3, e4, e5, e6, e7⟩ := H6.out.below k5
      obtain ⟨_, f0, f1, f2, f3, f4, f5, f6, f7⟩ := H7.out.below k5
      clear H2 H6 H7 HA1 HA2 k5
      go_wp2
      go_roundw
      case rel => first | exact ⟨k + 1, by omega, by go_num, H3.out⟩ | ((repeat apply Exists.intro); exact ⟨⟨k + 1, by omega, by go_num, H3.out⟩, rfl⟩)
      case measure => simp [intOf]; omega
    · obtain rfl : k = c.pn := by omega
      go_wp2
      go_ret
      exact ⟨rfl, HS.out.be⟩
end Go.Proofs.YtcmgjinjfaialaaGreat
