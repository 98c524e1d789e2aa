/- What the document's answer says of a partition, of its shape and of the slices; no condition but those named. -/
import Derived.Test.YtcmgjinjfaialaaGreatRa
import Derived.Test.YtcmgjinjfaialaaGreatRb
import Derived.Test.YtcmgjinjfaialaaGreatRc
import Derived.Test.YtcmgjinjfaialaaGreatLs
import Derived.Test.YtcmgjinjfaialaaGreatP8
namespace Go.Proofs.YtcmgjinjfaialaaGreat
open Go.ChangeShapes Go.WideShapes Go.ChangeAt Go.RowKit
set_option linter.unusedVariables false

theorem quotas_any {w : World} {a : Ad} {c : Cf} (hc : Cin w a c) (p : Nat) (hp : p < c.pn) (hp8 : p < 8) (hcol : okCol c p = true) : Calls Tryz.prog 74 #[.agg #[.int .i64 c.F, .int .i64 c.C, .int .i64 c.W, .int .i64 c.S, .int .i64 c.V, .int .i64 c.T, .int .u64 c.k.l1, .int .u64 c.k.llc, .int .u64 c.k.mi, .int .u64 c.k.fa, .int .u64 c.k.st, .int .u64 c.k.di, .int .u64 c.sl, .int .u64 c.pd, .int .u64 c.ft, .slice a.ta c.tn a.tc, .slice a.pa c.pn a.pc], .int .i64 p] w (One (.bool (!okQ c p)) w) := by
  cases hh : (qOk (c.pf p) && zOk (c.pf p))
  · exact quotas_bad hc p hp hp8 hcol hh
  by_cases hs : sm c (p + 1) ≤ 1024
  · cases hm : mOk c
    · exact quotas_none hc p hp hp8 hcol hh hs hm
    · by_cases hn1 : c.F / c.C < im (c.pf p)
      · exact quotas_image hc p hp hp8 hcol hh hs hm hn1
      · by_cases hn2 : ((c.pf p).n : Int) * (c.F / c.C) < im (c.pf p) + (c.pf p).u + (c.pf p).t + (c.pf p).s + (c.pf p).r + (c.pf p).d
        · exact quotas_many hc p hp hp8 hcol hh hs hm hn1 hn2
        · exact quotas_good hc p hp hp8 hcol hh hs hm hn1 hn2
  · exact quotas_sum hc p hp hp8 hcol hh hs
set_option maxRecDepth 20000 in
theorem part_any {w : World} {a : Ad} {c : Cf} (hc : Cin w a c) (p : Nat) (hp : p < c.pn) (hp8 : p < 8) : Calls Tryz.prog 49 #[.agg #[.int .i64 c.F, .int .i64 c.C, .int .i64 c.W, .int .i64 c.S, .int .i64 c.V, .int .i64 c.T, .int .u64 c.k.l1, .int .u64 c.k.llc, .int .u64 c.k.mi, .int .u64 c.k.fa, .int .u64 c.k.st, .int .u64 c.k.di, .int .u64 c.sl, .int .u64 c.pd, .int .u64 c.ft, .slice a.ta c.tn a.tc, .slice a.pa c.pn a.pc], .int .i64 p] w (One (.int .i64 (pBad c p)) w) := by
  have HB0 := cb_new hc
  have C1 : Hid (∀ w', Cin w' a c → Calls Tryz.prog 73 #[.agg #[.int .i64 c.F, .int .i64 c.C, .int .i64 c.W, .int .i64 c.S, .int .i64 c.V, .int .i64 c.T, .int .u64 c.k.l1, .int .u64 c.k.llc, .int .u64 c.k.mi, .int .u64 c.k.fa, .int .u64 c.k.st, .int .u64 c.k.di, .int .u64 c.sl, .int .u64 c.pd, .int .u64 c.ft, .slice a.ta c.tn a.tc, .slice a.pa c.pn a.pc], .int .i64 p] w' (One (.bool (!okCol c p)) w')) := fun w' h => colours_any h p hp
  have C2 : Hid (∀ w', Cin w' a c → okCol c p = true → Calls Tryz.prog 74 #[.agg #[.int .i64 c.F, .int .i64 c.C, .int .i64 c.W, .int .i64 c.S, .int .i64 c.V, .int .i64 c.T, .int .u64 c.k.l1, .int .u64 c.k.llc, .int .u64 c.k.mi, .int .u64 c.k.fa, .int .u64 c.k.st, .int .u64 c.k.di, .int .u64 c.sl, .int .u64 c.pd, .int .u64 c.ft, .slice a.ta c.tn a.tc, .slice a.pa c.pn a.pc], .int .i64 p] w' (One (.bool (!okQ c p)) w')) := fun w' h ho => quotas_any h p hp hp8 ho
  have HP : Hid (pBad c p = bif okCol c p then (bif okQ c p then 0 else 111) else 110) := rfl
  have hld0 := HB0.bx.ld
  clear hc
  generalize pBad c p = res at *
  cases ho : okCol c p
  · rw [ho] at C1 HP
    rw [show (!false) = true from rfl] at C1
    clear ho C2
    go_enter Tryz.func49, Tryz.ntmps49
    go_upto_region 1 with fail
    obtain ⟨W, hW, HB⟩ : ∃ W, (w.alloc (.cells #[.int .i64 c.F, .int .i64 c.C, .int .i64 c.W, .int .i64 c.S, .int .i64 c.V, .int .i64 c.T, .int .u64 c.k.l1, .int .u64 c.k.llc, .int .u64 c.k.mi, .int .u64 c.k.fa, .int .u64 c.k.st, .int .u64 c.k.di, .int .u64 c.sl, .int .u64 c.pd, .int .u64 c.ft, .slice a.ta c.tn a.tc, .slice a.pa c.pn a.pc] 28)) = W ∧ Hid (Cb w W w.heap.size a c) := ⟨_, rfl, HB0⟩
    rw [hW] at hld0
    rw [hW]
    clear hW HB0
    go_wp2_with (refine wpList_load_at rfl 28 (.tmp 2) rfl _ _ rfl hld0 ?_)
    refine (C1.out _ HB.out.ci).mono ?_
    rintro e w1 ⟨rfl, k1⟩
    have FIN : Hid (Below w.heap.size w w1) := HB.out.be.trans (k1.mono HB.out.be.size)
    clear k1 HB C1 hld0
    go_wp2
    go_ret
    exact ⟨ret_int (by rw [HP.out]; rfl), FIN.out⟩
  · rw [ho] at C1 HP C2
    rw [show (!true) = false from rfl] at C1
    clear ho
    go_enter Tryz.func49, Tryz.ntmps49
    go_upto_region 1 with fail
    obtain ⟨W, hW, HB⟩ : ∃ W, (w.alloc (.cells #[.int .i64 c.F, .int .i64 c.C, .int .i64 c.W, .int .i64 c.S, .int .i64 c.V, .int .i64 c.T, .int .u64 c.k.l1, .int .u64 c.k.llc, .int .u64 c.k.mi, .int .u64 c.k.fa, .int .u64 c.k.st, .int .u64 c.k.di, .int .u64 c.sl, .int .u64 c.pd, .int .u64 c.ft, .slice a.ta c.tn a.tc, .slice a.pa c.pn a.pc] 28)) = W ∧ Hid (Cb w W w.heap.size a c) := ⟨_, rfl, HB0⟩
    rw [hW] at hld0
    rw [hW]
    clear hW HB0
    go_wp2_with (refine wpList_load_at rfl 28 (.tmp 2) rfl _ _ rfl hld0 ?_)
    refine (C1.out _ HB.out.ci).mono ?_
    rintro e w1 ⟨rfl, k1⟩
    have HB1 : Hid (Cb w w1 w.heap.size a c) := HB.out.below k1
    clear k1 HB C1 hld0
    have hld := HB1.out.bx.ld
    go_wp2_with (refine wpList_load_at rfl 28 (.tmp 2) rfl _ _ rfl hld ?_)
    refine (C2.out _ HB1.out.ci (by first | rfl | trivial)).mono ?_
    rintro e w2 ⟨rfl, k2⟩
    have FIN : Hid (Below w.heap.size w w2) := HB1.out.be.trans (k2.mono HB1.out.be.size)
    clear k2 HB1 C2 hld
    cases hq : okQ c p
    · rw [hq] at HP
      clear hq
      go_wp2
      go_ret
      exact ⟨ret_int (by rw [HP.out]; rfl), FIN.out⟩
    · rw [hq] at HP
      clear hq
      go_wp2
      go_ret
      exact ⟨ret_int (by rw [HP.out]; rfl), FIN.out⟩
/-- A configuration's box, a shape's place and a partition's box beside what was there. -/
structure Fh (w0 w : World) (a : Ad) (c : Cf) (L : List Value) (bb : Nat) (q : Option Addr) (m : Nat) (x : Pa) : Prop where
  be : Below w0.heap.size w0 w
  px : Ebx w bb q m x
  ne : bb ≠ w0.heap.size + 1
  rs : Blk w (w0.heap.size + 1) 53 L
theorem Fh.below {w0 w w' : World} {a : Ad} {c : Cf} {L : List Value} {bb : Nat} {q : Option Addr} {m : Nat} {x : Pa} (h : Fh w0 w a c L bb q m x) (k : Below w.heap.size w w') : Fh w0 w' a c L bb q m x := ⟨h.be.trans (k.mono h.be.size), h.px.below k, h.ne, h.rs.below k⟩
theorem Fh.set {w0 w : World} {a : Ad} {c : Cf} {L : List Value} {bb : Nat} {q : Option Addr} {m : Nat} {x : Pa} (h : Fh w0 w a c L bb q m x) (i : Nat) (v : Value) : Fh w0 (w.setCell ⟨w0.heap.size + 1, i, none⟩ v) a c (L.set i v) bb q m x :=
  ⟨h.be.trans (below_setCell (by omega) h.be.size i v), h.px.other (heap_set_ne h.ne i v), h.ne, h.rs.set i v⟩
def zS' : List Value := [.int .i64 0, .int .i64 0, .int .i64 0, .int .i64 0]
theorem Fh.zs {w0 w : World} {a : Ad} {c : Cf} {v0 v1 v2 v3 : Value} {bb : Nat} {q : Option Addr} {m : Nat} {x : Pa} (h : Fh w0 w a c [v0, v1, v2, v3] bb q m x) :
    (w.cell? ⟨w0.heap.size + 1, 0, none⟩ = some v0 ∧ w.cell? ⟨w0.heap.size + 1, 1, none⟩ = some v1 ∧ w.cell? ⟨w0.heap.size + 1, 2, none⟩ = some v2 ∧ w.cell? ⟨w0.heap.size + 1, 3, none⟩ = some v3) ∧
    w.frozen? ⟨w0.heap.size + 1, 0, none⟩ = false ∧ w.frozen? ⟨w0.heap.size + 1, 1, none⟩ = false ∧ w.frozen? ⟨w0.heap.size + 1, 2, none⟩ = false ∧ w.frozen? ⟨w0.heap.size + 1, 3, none⟩ = false :=
  ⟨⟨h.rs.cell 0, h.rs.cell 1, h.rs.cell 2, h.rs.cell 3⟩, h.rs.frozen 0, h.rs.frozen 1, h.rs.frozen 2, h.rs.frozen 3⟩
set_option maxRecDepth 20000 in
set_option maxHeartbeats 2000000 in
theorem rshape_ok {w : World} {a : Ad} {c : Cf} (hc : Cin w a c) (p : Nat) (hp : p < c.pn) (o0 : 0 ≤ (c.pf p).o) (o1 : (c.pf p).o ≤ 3) (u0 : 0 ≤ (c.pf p).u) (u1 : (c.pf p).u ≤ 4096) (z0 : 0 ≤ (c.pf p).z) (z1 : (c.pf p).z ≤ 1024) (d0 : 0 ≤ (c.pf p).d) (d1 : (c.pf p).d ≤ 4096) :
    Calls Tryz.prog 57 #[.agg #[.int .i64 c.F, .int .i64 c.C, .int .i64 c.W, .int .i64 c.S, .int .i64 c.V, .int .i64 c.T, .int .u64 c.k.l1, .int .u64 c.k.llc, .int .u64 c.k.mi, .int .u64 c.k.fa, .int .u64 c.k.st, .int .u64 c.k.di, .int .u64 c.sl, .int .u64 c.pd, .int .u64 c.ft, .slice a.ta c.tn a.tc, .slice a.pa c.pn a.pc], .int .i64 p] w (One (.agg #[.int .i64 (im (c.pf p)), .int .i64 (c.pf p).u, .int .i64 (lim (c.pf p)), .int .i64 (c.pf p).t]) w) := by
  obtain ⟨b, off, hq, HEg⟩ := hc.p.at' hp
  have hpl := hc.pl
  have hp1 : (p : Int) < (c.pn : Int) := by omega
  have hi := im_ways o0 o1
  have HL : Hid (min ((c.pf p).u + (c.pf p).z - 1) (16 * (c.pf p).d) = lim (c.pf p)) := rfl
  have hb1 : Below w.heap.size w (w.alloc (.cells #[.int .i64 c.F, .int .i64 c.C, .int .i64 c.W, .int .i64 c.S, .int .i64 c.V, .int .i64 c.T, .int .u64 c.k.l1, .int .u64 c.k.llc, .int .u64 c.k.mi, .int .u64 c.k.fa, .int .u64 c.k.st, .int .u64 c.k.di, .int .u64 c.sl, .int .u64 c.pd, .int .u64 c.ft, .slice a.ta c.tn a.tc, .slice a.pa c.pn a.pc] 28)) := below_new _ _
  have hb2 := hb1.alloc hb1.size (.cells #[.int .i64 0, .int .i64 0, .int .i64 0, .int .i64 0] 53)
  have HE2 := (HEg.below (below_new w (.cells #[.int .i64 c.F, .int .i64 c.C, .int .i64 c.W, .int .i64 c.S, .int .i64 c.V, .int .i64 c.T, .int .u64 c.k.l1, .int .u64 c.k.llc, .int .u64 c.k.mi, .int .u64 c.k.fa, .int .u64 c.k.st, .int .u64 c.k.di, .int .u64 c.sl, .int .u64 c.pd, .int .u64 c.ft, .slice a.ta c.tn a.tc, .slice a.pa c.pn a.pc] 28))).below (below_new _ (.cells #[.int .i64 0, .int .i64 0, .int .i64 0, .int .i64 0] 53))
  have hrs : Blk ((w.alloc (.cells #[.int .i64 c.F, .int .i64 c.C, .int .i64 c.W, .int .i64 c.S, .int .i64 c.V, .int .i64 c.T, .int .u64 c.k.l1, .int .u64 c.k.llc, .int .u64 c.k.mi, .int .u64 c.k.fa, .int .u64 c.k.st, .int .u64 c.k.di, .int .u64 c.sl, .int .u64 c.pd, .int .u64 c.ft, .slice a.ta c.tn a.tc, .slice a.pa c.pn a.pc] 28)).alloc (.cells #[.int .i64 0, .int .i64 0, .int .i64 0, .int .i64 0] 53)) (w.heap.size + 1) 53 zS' := by simpa [zS'] using blk_new (w.alloc (.cells #[.int .i64 c.F, .int .i64 c.C, .int .i64 c.W, .int .i64 c.S, .int .i64 c.V, .int .i64 c.T, .int .u64 c.k.l1, .int .u64 c.k.llc, .int .u64 c.k.mi, .int .u64 c.k.fa, .int .u64 c.k.st, .int .u64 c.k.di, .int .u64 c.sl, .int .u64 c.pd, .int .u64 c.ft, .slice a.ta c.tn a.tc, .slice a.pa c.pn a.pc] 28)) zS' 53
  have c16 : ((w.alloc (.cells #[.int .i64 c.F, .int .i64 c.C, .int .i64 c.W, .int .i64 c.S, .int .i64 c.V, .int .i64 c.T, .int .u64 c.k.l1, .int .u64 c.k.llc, .int .u64 c.k.mi, .int .u64 c.k.fa, .int .u64 c.k.st, .int .u64 c.k.di, .int .u64 c.sl, .int .u64 c.pd, .int .u64 c.ft, .slice a.ta c.tn a.tc, .slice a.pa c.pn a.pc] 28)).alloc (.cells #[.int .i64 0, .int .i64 0, .int .i64 0, .int .i64 0] 53)).cell? ⟨w.heap.size, 16, none⟩ = some (.slice (some ⟨b, off, none⟩) c.pn a.pc) := by
    rw [← hq]
    exact ((sev_new w a c).below (below_new _ _)).c16
  clear hc HEg hq
  go_enter Tryz.func57, Tryz.ntmps57
  go_upto_region 1 with fail
  obtain ⟨W, hW⟩ : ∃ W, ((w.alloc (.cells #[.int .i64 c.F, .int .i64 c.C, .int .i64 c.W, .int .i64 c.S, .int .i64 c.V, .int .i64 c.T, .int .u64 c.k.l1, .int .u64 c.k.llc, .int .u64 c.k.mi, .int .u64 c.k.fa, .int .u64 c.k.st, .int .u64 c.k.di, .int .u64 c.sl, .int .u64 c.pd, .int .u64 c.ft, .slice a.ta c.tn a.tc, .slice a.pa c.pn a.pc] 28)).alloc (.cells #[.int .i64 0, .int .i64 0, .int .i64 0, .int .i64 0] 53)) = W := ⟨_, rfl⟩
  rw [hW] at hb2 HE2 hrs c16
  rw [hW]
  clear hW hb1
  obtain ⟨_, e0, e1, e2, e3, e4, e5, e6, e7⟩ := HE2
  generalize lim (c.pf p) = J at *
  generalize im (c.pf p) = I at *
  generalize c.pf p = x at *
  generalize a.ca p = q at *
  generalize a.cc p = m at *
  go_upto_region 2 with fail
  obtain ⟨W2, bb, hW2, hbb, H2⟩ : ∃ W2 bb, W.alloc (.cells #[.slice q x.n m, .int .i64 x.o, .int .i64 x.u, .int .i64 x.t, .int .i64 x.s, .int .i64 x.r, .int .i64 x.d, .int .i64 x.z] 40) = W2 ∧ W.heap.size = bb ∧ Hid (Fh w W2 a c zS' bb q m x) :=
    ⟨_, _, rfl, rfl, hb2.alloc hb2.size _, ebx_new _ _ _ _, by have := hrs.lt; omega, hrs.below (below_new _ _)⟩
  rw [hW2, hbb]
  clear hW2 hbb e0 e1 e2 e3 e4 e5 e6 e7 c16 hrs hb2
  obtain ⟨i0, i1, ho⟩ : 1 ≤ I ∧ I ≤ 8 ∧ ((x.o = 0 ∧ I = 1) ∨ (x.o = 1 ∧ I = 2) ∨ (x.o = 2 ∧ I = 4) ∨ (x.o = 3 ∧ I = 8)) := ⟨by omega, by omega, hi⟩
  clear hi
  have HS : IntKind.i64.wrap (2 ^ x.o.toNat) = I := by
    rcases ho with ⟨h1, h2⟩ | ⟨h1, h2⟩ | ⟨h1, h2⟩ | ⟨h1, h2⟩ <;> rw [h1, h2] <;> rfl
  have v1 : IntKind.i64.wrap (x.u + x.z) = x.u + x.z := by simp (disch := omega) only [IntWalk.i64_in]
  have v2 : IntKind.i64.wrap (x.u + x.z - 1) = x.u + x.z - 1 := by simp (disch := omega) only [IntWalk.i64_in]
  have v3 : IntKind.i64.wrap (16 * x.d) = 16 * x.d := by simp (disch := omega) only [IntWalk.i64_in]
  have hmin := HL.out
  obtain ⟨⟨k0, k1, k2, k3⟩, y0, y1, y2, y3⟩ := H2.out.zs
  go_region_held3 (fun W => W.cell? ⟨bb, 0, none⟩ = some (.slice q x.n m) ∧ W.cell? ⟨bb, 1, none⟩ = some (.int .i64 x.o) ∧ W.cell? ⟨bb, 2, none⟩ = some (.int .i64 x.u) ∧ W.cell? ⟨bb, 3, none⟩ = some (.int .i64 x.t) ∧ W.cell? ⟨bb, 4, none⟩ = some (.int .i64 x.s) ∧ W.cell? ⟨bb, 5, none⟩ = some (.int .i64 x.r) ∧ W.cell? ⟨bb, 6, none⟩ = some (.int .i64 x.d) ∧ W.cell? ⟨bb, 7, none⟩ = some (.int .i64 x.z))
    (first | exact (H2.out.below (below_drew _ _)).px.sx | exact (((((H2.out.below (below_drew _ _)).set 0 _).set 1 _).set 2 _).set 3 _).px.sx)
    (fail)
  all_goals
    have F4 : Hid (Fh w ((((W2.setCell ⟨w.heap.size + 1, 0, none⟩ (.int .i64 I)).setCell ⟨w.heap.size + 1, 1, none⟩ (.int .i64 x.u)).setCell ⟨w.heap.size + 1, 2, none⟩ (.int .i64 J)).setCell ⟨w.heap.size + 1, 3, none⟩ (.int .i64 x.t)).drew a c [.int .i64 I, .int .i64 x.u, .int .i64 J, .int .i64 x.t] bb q m x) :=
      ((((H2.out.set 0 (.int .i64 I)).set 1 (.int .i64 x.u)).set 2 (.int .i64 J)).set 3 (.int .i64 x.t)).below (below_drew _ _)
    clear k0 k1 k2 k3 y0 y1 y2 y3 H2 HS v1 v2 v3 hmin
    generalize ((((W2.setCell ⟨w.heap.size + 1, 0, none⟩ (.int .i64 I)).setCell ⟨w.heap.size + 1, 1, none⟩ (.int .i64 x.u)).setCell ⟨w.heap.size + 1, 2, none⟩ (.int .i64 J)).setCell ⟨w.heap.size + 1, 3, none⟩ (.int .i64 x.t)).drew = w5 at *
    obtain ⟨⟨k0, k1, k2, k3⟩, y0, y1, y2, y3⟩ := F4.out.zs
    go_wp2
    refine bodyPost_ret (v := .agg #[.int .i64 I, .int .i64 x.u, .int .i64 J, .int .i64 x.t]) (by simp [results, Tryz.results57, go_sem, k0, k1, k2, k3]) rfl ⟨rfl, F4.out.be⟩
end Go.Proofs.YtcmgjinjfaialaaGreat
