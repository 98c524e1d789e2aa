/- What the document's answer says of a partition, of its shape and of the slices; no condition but those named. -/
import Derived.Test.YtokaohlgncmoaaaGreatWRu
import Derived.Test.YtokaohlgncmoaaaGreatWRw
import Derived.Test.YtokaohlgncmoaaaGreatWCa
import Derived.Test.YtokaohlgncmoaaaGreatWPr
import Derived.Test.YtokaohlgncmoaaaGreatWPs
import Derived.Test.YtokaohlgncmoaaaGreatWQb
namespace Go.Proofs.YtokaohlgncmoaaaGreat
open Go.ChangeShapes Go.WideShapes Go.ChangeAt Go.RowKit
set_option linter.unusedVariables false

theorem quotas_any {w : World} {a : Ad} {c : Cf} (hc : Cin w a c) (p : Nat) (hp : p < c.pn) (hp8 : p < 8) (hcol : okCol c p = true) : Calls Tryz.prog 143 #[.agg #[.int .i64 c.F, .int .i64 c.C, .int .i64 c.W, .int .i64 c.S, .int .i64 c.V, .int .i64 c.T, .int .u64 c.k.l1, .int .u64 c.k.llc, .int .u64 c.k.mi, .int .u64 c.k.fa, .int .u64 c.k.st, .int .u64 c.k.di, .int .u64 c.sl, .int .u64 c.pd, .int .u64 c.ft, .slice a.ta c.tn a.tc, .slice a.pa c.pn a.pc], .int .i64 p] w (One (.bool (!okQ c p)) w) := by
  cases hh : (qOk (c.pf p) && zOk (c.pf p))
  · exact quotas_bad hc p hp hp8 hcol hh
  by_cases hs : sm c (p + 1) ≤ 1024
  · cases hm : mOk c
    · exact quotas_none hc p hp hp8 hcol hh hs hm
    · by_cases hn1 : c.F / c.C < im (c.pf p)
      · exact quotas_image hc p hp hp8 hcol hh hs hm hn1
      · by_cases hn2 : ((c.pf p).n : Int) * (c.F / c.C) < im (c.pf p) + (c.pf p).u + (c.pf p).t + (c.pf p).s + (c.pf p).r + (c.pf p).d
        · exact quotas_many hc p hp hp8 hcol hh hs hm hn1 hn2
        · exact quotas_good hc p hp hp8 hcol hh hs hm hn1 hn2
  · exact quotas_sum hc p hp hp8 hcol hh hs
set_option maxRecDepth 20000 in
theorem part_any {w : World} {a : Ad} {c : Cf} (hc : Cin w a c) (p : Nat) (hp : p < c.pn) (hp8 : p < 8) : Calls Tryz.prog 118 #[.agg #[.int .i64 c.F, .int .i64 c.C, .int .i64 c.W, .int .i64 c.S, .int .i64 c.V, .int .i64 c.T, .int .u64 c.k.l1, .int .u64 c.k.llc, .int .u64 c.k.mi, .int .u64 c.k.fa, .int .u64 c.k.st, .int .u64 c.k.di, .int .u64 c.sl, .int .u64 c.pd, .int .u64 c.ft, .slice a.ta c.tn a.tc, .slice a.pa c.pn a.pc], .int .i64 p] w (One (.int .i64 (pBad c p)) w) := by
  have HB0 := cb_new hc
  have C1 : Hid (∀ w', Cin w' a c → Calls Tryz.prog 142 #[.agg #[.int .i64 c.F, .int .i64 c.C, .int .i64 c.W, .int .i64 c.S, .int .i64 c.V, .int .i64 c.T, .int .u64 c.k.l1, .int .u64 c.k.llc, .int .u64 c.k.mi, .int .u64 c.k.fa, .int .u64 c.k.st, .int .u64 c.k.di, .int .u64 c.sl, .int .u64 c.pd, .int .u64 c.ft, .slice a.ta c.tn a.tc, .slice a.pa c.pn a.pc], .int .i64 p] w' (One (.bool (!okCol c p)) w')) := fun w' h => colours_any h p hp
  have C2 : Hid (∀ w', Cin w' a c → okCol c p = true → Calls Tryz.prog 143 #[.agg #[.int .i64 c.F, .int .i64 c.C, .int .i64 c.W, .int .i64 c.S, .int .i64 c.V, .int .i64 c.T, .int .u64 c.k.l1, .int .u64 c.k.llc, .int .u64 c.k.mi, .int .u64 c.k.fa, .int .u64 c.k.st, .int .u64 c.k.di, .int .u64 c.sl, .int .u64 c.pd, .int .u64 c.ft, .slice a.ta c.tn a.tc, .slice a.pa c.pn a.pc], .int .i64 p] w' (One (.bool (!okQ c p)) w')) := fun w' h ho => quotas_any h p hp hp8 ho
  have HP : Hid (pBad c p = bif okCol c p then (bif okQ c p then 0 else 111) else 110) := rfl
  have hld0 := HB0.bx.ld
  clear hc
  generalize pBad c p = res at *
  cases ho : okCol c p
  · rw [ho] at C1 HP
    rw [show (!false) = true from rfl] at C1
    clear ho C2
    go_enter Tryz.func118, Tryz.ntmps118
    go_upto_region 1 with fail
    obtain ⟨W, hW, HB⟩ : ∃ W, (w.alloc (.cells #[.int .i64 c.F, .int .i64 c.C, .int .i64 c.W, .int .i64 c.S, .int .i64 c.V, .int .i64 c.T, .int .u64 c.k.l1, .int .u64 c.k.llc, .int .u64 c.k.mi, .int .u64 c.k.fa, .int .u64 c.k.st, .int .u64 c.k.di, .int .u64 c.sl, .int .u64 c.pd, .int .u64 c.ft, .slice a.ta c.tn a.tc, .slice a.pa c.pn a.pc] 28)) = W ∧ Hid (Cb w W w.heap.size a c) := ⟨_, rfl, HB0⟩
    rw [hW] at hld0
    rw [hW]
    clear hW HB0
    go_wp2_with (refine wpList_load_at rfl 28 (.tmp 2) rfl _ _ rfl hld0 ?_)
    refine (C1.out _ HB.out.ci).mono ?_
    rintro e w1 ⟨rfl, k1⟩
    have FIN : Hid (Below w.heap.size w w1) := HB.out.be.trans (k1.mono HB.out.be.size)
    clear k1 HB C1 hld0
    go_wp2
    go_ret
    exact ⟨ret_int (by rw [HP.out]; rfl), FIN.out⟩
  · rw [ho] at C1 HP C2
    rw [show (!true) = false from rfl] at C1
    clear ho
    go_enter Tryz.func118, Tryz.ntmps118
    go_upto_region 1 with fail
    obtain ⟨W, hW, HB⟩ : ∃ W, (w.alloc (.cells #[.int .i64 c.F, .int .i64 c.C, .int .i64 c.W, .int .i64 c.S, .int .i64 c.V, .int .i64 c.T, .int .u64 c.k.l1, .int .u64 c.k.llc, .int .u64 c.k.mi, .int .u64 c.k.fa, .int .u64 c.k.st, .int .u64 c.k.di, .int .u64 c.sl, .int .u64 c.pd, .int .u64 c.ft, .slice a.ta c.tn a.tc, .slice a.pa c.pn a.pc] 28)) = W ∧ Hid (Cb w W w.heap.size a c) := ⟨_, rfl, HB0⟩
    rw [hW] at hld0
    rw [hW]
    clear hW HB0
    go_wp2_with (refine wpList_load_at rfl 28 (.tmp 2) rfl _ _ rfl hld0 ?_)
    refine (C1.out _ HB.out.ci).mono ?_
    rintro e w1 ⟨rfl, k1⟩
    have HB1 : Hid (Cb w w1 w.heap.size a c) := HB.out.below k1
    clear k1 HB C1 hld0
    have hld := HB1.out.bx.ld
    go_wp2_with (refine wpList_load_at rfl 28 (.tmp 2) rfl _ _ rfl hld ?_)
    refine (C2.out _ HB1.out.ci (by first | rfl | trivial)).mono ?_
    rintro e w2 ⟨rfl, k2⟩
    have FIN : Hid (Below w.heap.size w w2) := HB1.out.be.trans (k2.mono HB1.out.be.size)
    clear k2 HB1 C2 hld
    cases hq : okQ c p
    · rw [hq] at HP
      clear hq
      go_wp2
      go_ret
      exact ⟨ret_int (by rw [HP.out]; rfl), FIN.out⟩
    · rw [hq] at HP
      clear hq
      go_wp2
      go_ret
      exact ⟨ret_int (by rw [HP.out]; rfl), FIN.out⟩
structure Fh (w0 w : World) (a : Ad) (c : Cf) (L : List Value) (bb : Nat) (q : Option Addr) (m : Nat) (x : Pa) : Prop where
  be : Below w0.heap.size w0 w
  px : Ebx w bb q m x
  ne : bb ≠ w0.heap.size + 1
  rs : Blk w (w0.heap.size + 1) 177 L
theorem Fh.below {w0 w w' : World} {a : Ad} {c : Cf} {L : List Value} {bb : Nat} {q : Option Addr} {m : Nat} {x : Pa} (h : Fh w0 w a c L bb q m x) (k : Below w.heap.size w w') : Fh w0 w' a c L bb q m x := ⟨h.be.trans (k.mono h.be.size), h.px.below k, h.ne, h.rs.below k⟩
theorem Fh.set {w0 w : World} {a : Ad} {c : Cf} {L : List Value} {bb : Nat} {q : Option Addr} {m : Nat} {x : Pa} (h : Fh w0 w a c L bb q m x) (i : Nat) (v : Value) : Fh w0 (w.setCell ⟨w0.heap.size + 1, i, none⟩ v) a c (L.set i v) bb q m x :=
  ⟨h.be.trans (below_setCell (by omega) h.be.size i v), h.px.other (heap_set_ne h.ne i v), h.ne, h.rs.set i v⟩
def zS' : List Value := [.int .i64 0, .int .i64 0, .int .i64 0, .int .i64 0]
theorem Fh.zs {w0 w : World} {a : Ad} {c : Cf} {v0 v1 v2 v3 : Value} {bb : Nat} {q : Option Addr} {m : Nat} {x : Pa} (h : Fh w0 w a c [v0, v1, v2, v3] bb q m x) :
    (w.cell? ⟨w0.heap.size + 1, 0, none⟩ = some v0 ∧ w.cell? ⟨w0.heap.size + 1, 1, none⟩ = some v1 ∧ w.cell? ⟨w0.heap.size + 1, 2, none⟩ = some v2 ∧ w.cell? ⟨w0.heap.size + 1, 3, none⟩ = some v3) ∧
    w.frozen? ⟨w0.heap.size + 1, 0, none⟩ = false ∧ w.frozen? ⟨w0.heap.size + 1, 1, none⟩ = false ∧ w.frozen? ⟨w0.heap.size + 1, 2, none⟩ = false ∧ w.frozen? ⟨w0.heap.size + 1, 3, none⟩ = false :=
  ⟨⟨h.rs.cell 0, h.rs.cell 1, h.rs.cell 2, h.rs.cell 3⟩, h.rs.frozen 0, h.rs.frozen 1, h.rs.frozen 2, h.rs.frozen 3⟩
set_option maxRecDepth 20000 in
set_option maxHeartbeats 2000000 in
theorem rshape_ok {w : World} {a : Ad} {c : Cf} (hc : Cin w a c) (p : Nat) (hp : p < c.pn) (o0 : 0 ≤ (c.pf p).o) (o1 : (c.pf p).o ≤ 3) (u0 : 0 ≤ (c.pf p).u) (u1 : (c.pf p).u ≤ 4096) (z0 : 0 ≤ (c.pf p).z) (z1 : (c.pf p).z ≤ 1024) (d0 : 0 ≤ (c.pf p).d) (d1 : (c.pf p).d ≤ 4096) :
    Calls Tryz.prog 141 #[.agg #[.int .i64 c.F, .int .i64 c.C, .int .i64 c.W, .int .i64 c.S, .int .i64 c.V, .int .i64 c.T, .int .u64 c.k.l1, .int .u64 c.k.llc, .int .u64 c.k.mi, .int .u64 c.k.fa, .int .u64 c.k.st, .int .u64 c.k.di, .int .u64 c.sl, .int .u64 c.pd, .int .u64 c.ft, .slice a.ta c.tn a.tc, .slice a.pa c.pn a.pc], .int .i64 p] w (One (.agg #[.int .i64 (im (c.pf p)), .int .i64 (c.pf p).u, .int .i64 (lim (c.pf p)), .int .i64 (c.pf p).t]) w) := by
  obtain ⟨b, off, hq, HEg⟩ := hc.p.at' hp
  have hpl := hc.pl
  have hp1 : (p : Int) < (c.pn : Int) := by omega
  have hi := im_ways o0 o1
  have HL : Hid (min ((c.pf p).u + (c.pf p).z - 1) (16 * (c.pf p).d) = lim (c.pf p)) := rfl
  have hb1 : Below w.heap.size w (w.alloc (.cells #[.int .i64 c.F, .int .i64 c.C, .int .i64 c.W, .int .i64 c.S, .int .i64 c.V, .int .i64 c.T, .int .u64 c.k.l1, .int .u64 c.k.llc, .int .u64 c.k.mi, .int .u64 c.k.fa, .int .u64 c.k.st, .int .u64 c.k.di, .int .u64 c.sl, .int .u64 c.pd, .int .u64 c.ft, .slice a.ta c.tn a.tc, .slice a.pa c.pn a.pc] 28)) := below_new _ _
  have hb2 := hb1.alloc hb1.size (.cells #[.int .i64 0, .int .i64 0, .int .i64 0, .int .i64 0] 177)
  have HE2 := (HEg.below (below_new w (.cells #[.int .i64 c.F, .int .i64 c.C, .int .i64 c.W, .int .i64 c.S, .int .i64 c.V, .int .i64 c.T, .int .u64 c.k.l1, .int .u64 c.k.llc, .int .u64 c.k.mi, .int .u64 c.k.fa, .int .u64 c.k.st, .int .u64 c.k.di, .int .u64 c.sl, .int .u64 c.pd, .int .u64 c.ft, .slice a.ta c.tn a.tc, .slice a.pa c.pn a.pc] 28))).below (below_new _ (.cells #[.int .i64 0, .int .i64 0, .int .i64 0, .int .i64 0] 177))
  have hrs : Blk ((w.alloc (.cells #[.int .i64 c.F, .int .i64 c.C, .int .i64 c.W, .int .i64 c.S, .int .i64 c.V, .int .i64 c.T, .int .u64 c.k.l1, .int .u64 c.k.llc, .int .u64 c.k.mi, .int .u64 c.k.fa, .int .u64 c.k.st, .int .u64 c.k.di, .int .u64 c.sl, .int .u64 c.pd, .int .u64 c.ft, .slice a.ta c.tn a.tc, .slice a.pa c.pn a.pc] 28)).alloc (.cells #[.int .i64 0, .int .i64 0, .int .i64 0, .int .i64 0] 177)) (w.heap.size + 1) 177 zS' := by simpa [zS'] using blk_new (w.alloc (.cells #[.int .i64 c.F, .int .i64 c.C, .int .i64 c.W, .int .i64 c.S, .int .i64 c.V, .int .i64 c.T, .int .u64 c.k.l1, .int .u64 c.k.llc, .int .u64 c.k.mi, .int .u64 c.k.fa, .int .u64 c.k.st, .int .u64 c.k.di, .int .u64 c.sl, .int .u64 c.pd, .int .u64 c.ft, .slice a.ta c.tn a.tc, .slice a.pa c.pn a.pc] 28)) zS' 177
  have c16 : ((w.alloc (.cells #[.int .i64 c.F, .int .i64 c.C, .int .i64 c.W, .int .i64 c.S, .int .i64 c.V, .int .i64 c.T, .int .u64 c.k.l1, .int .u64 c.k.llc, .int .u64 c.k.mi, .int .u64 c.k.fa, .int .u64 c.k.st, .int .u64 c.k.di, .int .u64 c.sl, .int .u64 c.pd, .int .u64 c.ft, .slice a.ta c.tn a.tc, .slice a.pa c.pn a.pc] 28)).alloc (.cells #[.int .i64 0, .int .i64 0, .int .i64 0, .int .i64 0] 177)).cell? ⟨w.heap.size, 16, none⟩ = some (.slice (some ⟨b, off, none⟩) c.pn a.pc) := by
    rw [← hq]
    exact ((sev_new w a c).below (below_new _ _)).c16
  clear hc HEg hq
  go_enter Tryz.func141, Tryz.ntmps141
  go_upto_region 1 with fail
  obtain ⟨W, hW⟩ : ∃ W, ((w.alloc (.cells #[.int .i64 c.F, .int .i64 c.C, .int .i64 c.W, .int .i64 c.S, .int .i64 c.V, .int .i64 c.T, .int .u64 c.k.l1, .int .u64 c.k.llc, .int .u64 c.k.mi, .int .u64 c.k.fa, .int .u64 c.k.st, .int .u64 c.k.di, .int .u64 c.sl, .int .u64 c.pd, .int .u64 c.ft, .slice a.ta c.tn a.tc, .slice a.pa c.pn a.pc] 28)).alloc (.cells #[.int .i64 0, .int .i64 0, .int .i64 0, .int .i64 0] 177)) = W := ⟨_, rfl⟩
  rw [hW] at hb2 HE2 hrs c16
  rw [hW]
  clear hW hb1
  obtain ⟨_, e0, e1, e2, e3, e4, e5, e6, e7⟩ := HE2
  generalize lim (c.pf p) = J at *
  generalize im (c.pf p) = I at *
  generalize c.pf p = x at *
  generalize a.ca p = q at *
  generalize a.cc p = m at *
  go_upto_region 2 with fail
  obtain ⟨W2, bb, hW2, hbb, H2⟩ : ∃ W2 bb, W.alloc (.cells #[.slice q x.n m, .int .i64 x.o, .int .i64 x.u, .int .i64 x.t, .int .i64 x.s, .int .i64 x.r, .int .i64 x.d, .int .i64 x.z] 82) = W2 ∧ W.heap.size = bb ∧ Hid (Fh w W2 a c zS' bb q m x) :=
    ⟨_, _, rfl, rfl, hb2.alloc hb2.size _, ebx_new _ _ _ _, by have := hrs.lt; omega, hrs.below (below_new _ _)⟩
  rw [hW2, hbb]
  clear hW2 hbb e0 e1 e2 e3 e4 e5 e6 e7 c16 hrs hb2
  obtain ⟨i0, i1, ho⟩ : 1 ≤ I ∧ I ≤ 8 ∧ ((x.o = 0 ∧ I = 1) ∨ (x.o = 1 ∧ I = 2) ∨ (x.o = 2 ∧ I = 4) ∨ (x.o = 3 ∧ I = 8)) := ⟨by omega, by omega, hi⟩
  clear hi
  have HS : IntKind.i64.wrap (2 ^ x.o.toNat) = I := by
    rcases ho with ⟨h1, h2⟩ | ⟨h1, h2⟩ | ⟨h1, h2⟩ | ⟨h1, h2⟩ <;> rw [h1, h2] <;> rfl
  have v1 : IntKind.i64.wrap (x.u + x.z) = x.u + x.z := by simp (disch := omega) only [IntWalk.i64_in]
  have v2 : IntKind.i64.wrap (x.u + x.z - 1) = x.u + x.z - 1 := by simp (disch := omega) only [IntWalk.i64_in]
  have v3 : IntKind.i64.wrap (16 * x.d) = 16 * x.d := by simp (disch := omega) only [IntWalk.i64_in]
  have hmin := HL.out
  obtain ⟨⟨k0, k1, k2, k3⟩, y0, y1, y2, y3⟩ := H2.out.zs
  go_region_held3 (fun W => W.cell? ⟨bb, 0, none⟩ = some (.slice q x.n m) ∧ W.cell? ⟨bb, 1, none⟩ = some (.int .i64 x.o) ∧ W.cell? ⟨bb, 2, none⟩ = some (.int .i64 x.u) ∧ W.cell? ⟨bb, 3, none⟩ = some (.int .i64 x.t) ∧ W.cell? ⟨bb, 4, none⟩ = some (.int .i64 x.s) ∧ W.cell? ⟨bb, 5, none⟩ = some (.int .i64 x.r) ∧ W.cell? ⟨bb, 6, none⟩ = some (.int .i64 x.d) ∧ W.cell? ⟨bb, 7, none⟩ = some (.int .i64 x.z))
    (first | exact (H2.out.below (below_drew _ _)).px.sx | exact (((((H2.out.below (below_drew _ _)).set 0 _).set 1 _).set 2 _).set 3 _).px.sx)
    (fail)
  all_goals
    have F4 : Hid (Fh w ((((W2.setCell ⟨w.heap.size + 1, 0, none⟩ (.int .i64 I)).setCell ⟨w.heap.size + 1, 1, none⟩ (.int .i64 x.u)).setCell ⟨w.heap.size + 1, 2, none⟩ (.int .i64 J)).setCell ⟨w.heap.size + 1, 3, none⟩ (.int .i64 x.t)).drew a c [.int .i64 I, .int .i64 x.u, .int .i64 J, .int .i64 x.t] bb q m x) :=
      ((((H2.out.set 0 (.int .i64 I)).set 1 (.int .i64 x.u)).set 2 (.int .i64 J)).set 3 (.int .i64 x.t)).below (below_drew _ _)
    clear k0 k1 k2 k3 y0 y1 y2 y3 H2 HS v1 v2 v3 hmin
    generalize ((((W2.setCell ⟨w.heap.size + 1, 0, none⟩ (.int .i64 I)).setCell ⟨w.heap.size + 1, 1, none⟩ (.int .i64 x.u)).setCell ⟨w.heap.size + 1, 2, none⟩ (.int .i64 J)).setCell ⟨w.heap.size + 1, 3, none⟩ (.int .i64 x.t)).drew = w5 at *
    obtain ⟨⟨k0, k1, k2, k3⟩, y0, y1, y2, y3⟩ := F4.out.zs
    go_wp2
    refine bodyPost_ret (v := .agg #[.int .i64 I, .int .i64 x.u, .int .i64 J, .int .i64 x.t]) (by simp [results, Tryz.results141, go_sem, k0, k1, k2, k3]) rfl ⟨rfl, F4.out.be⟩
end Go.Proofs.YtokaohlgncmoaaaGreat
namespace Go.Proofs.YtokaohlgncmoaaaGreat
open Go.ChangeShapes Go.WideShapes Go.ChangeAt Go.RowKit
set_option linter.unusedVariables false

set_option maxRecDepth 20000 in
set_option maxHeartbeats 2000000 in
theorem slices_any {w : World} {a : Ad} {c : Cf} (hc : Cin w a c) : Calls Tryz.prog 116 #[.agg #[.int .i64 c.F, .int .i64 c.C, .int .i64 c.W, .int .i64 c.S, .int .i64 c.V, .int .i64 c.T, .int .u64 c.k.l1, .int .u64 c.k.llc, .int .u64 c.k.mi, .int .u64 c.k.fa, .int .u64 c.k.st, .int .u64 c.k.di, .int .u64 c.sl, .int .u64 c.pd, .int .u64 c.ft, .slice a.ta c.tn a.tc, .slice a.pa c.pn a.pc]] w (One (.bool (!sOk c)) w) := by
  have HB0 := cb_new hc
  have hpl := hc.pl
  have MC : Hid (∀ w', Cin w' a c → Calls Tryz.prog 114 #[.agg #[.int .i64 c.F, .int .i64 c.C, .int .i64 c.W, .int .i64 c.S, .int .i64 c.V, .int .i64 c.T, .int .u64 c.k.l1, .int .u64 c.k.llc, .int .u64 c.k.mi, .int .u64 c.k.fa, .int .u64 c.k.st, .int .u64 c.k.di, .int .u64 c.sl, .int .u64 c.pd, .int .u64 c.ft, .slice a.ta c.tn a.tc, .slice a.pa c.pn a.pc]] w' (One (.bool (!mOk c)) w')) := fun w' h => machine_any h
  have CK : Hid (∀ w', Calls Tryz.prog 115 #[.agg #[.int .u64 c.k.l1, .int .u64 c.k.llc, .int .u64 c.k.mi, .int .u64 c.k.fa, .int .u64 c.k.st, .int .u64 c.k.di]] w' (One (.int .i64 (er c.k)) w')) := fun w' => rCheck_any c.k w'
  have HSO : Hid (sOk c = (s0k c && (!(mOk c && okC c.k) || (decide (pdM c ≤ c.pd) && allS c c.pn)))) := rfl
  have hld := HB0.bx.ld
  rcases s0k_ways c with ⟨h0, hw⟩ | ⟨h0, h1, h2, h3, h4⟩
  · have HR : Hid (sOk c = false) := by unfold Hid; rw [HSO.out, h0]; rfl
    clear h0 HSO MC CK hc hld
    rcases hw with h | ⟨h1, h⟩ | ⟨h1, h2, h⟩ | ⟨h1, h2, h3, h⟩
    all_goals
      go_enter Tryz.func116, Tryz.ntmps116
      go_wp2
      go_ret
      exact ⟨ret_bool (by rw [HR.out]; rfl), HB0.be⟩
  rw [h0] at HSO
  have h4' : ¬ 1099511627776 ≤ c.ft := by omega
  clear h0
  cases hm : mOk c
  · have HR : Hid (sOk c = true) := by unfold Hid; rw [HSO.out, hm]; rfl
    rw [hm] at MC
    rw [show (!false) = true from rfl] at MC
    clear hm HSO CK hc
    go_enter Tryz.func116, Tryz.ntmps116
    go_upto_region 3 with fail
    obtain ⟨W, hW, HB⟩ : ∃ W, (w.alloc (.cells #[.int .i64 c.F, .int .i64 c.C, .int .i64 c.W, .int .i64 c.S, .int .i64 c.V, .int .i64 c.T, .int .u64 c.k.l1, .int .u64 c.k.llc, .int .u64 c.k.mi, .int .u64 c.k.fa, .int .u64 c.k.st, .int .u64 c.k.di, .int .u64 c.sl, .int .u64 c.pd, .int .u64 c.ft, .slice a.ta c.tn a.tc, .slice a.pa c.pn a.pc] 28)) = W ∧ Hid (Cb w W w.heap.size a c) := ⟨_, rfl, HB0⟩
    rw [hW] at hld
    rw [hW]
    clear hW HB0
    go_wp2_with (refine wpList_load_at rfl 28 (.tmp 1) rfl _ _ rfl hld ?_)
    refine (MC.out _ HB.out.ci).mono ?_
    rintro _ w1 ⟨rfl, k1⟩
    have FIN : Hid (Below w.heap.size w w1) := HB.out.be.trans (k1.mono HB.out.be.size)
    clear HB k1 hld MC
    go_wp2
    go_ret
    exact ⟨ret_bool (by rw [HR.out]; rfl), FIN.out⟩
  have hM := mOk_iff.1 hm
  rw [hm] at MC HSO
  rw [show (!true) = false from rfl] at MC
  cases hk : okC c.k
  · have HR : Hid (sOk c = true) := by unfold Hid; rw [HSO.out, hk]; rfl
    rw [er_f hk] at CK
    clear hm HSO hc hM hk
    go_enter Tryz.func116, Tryz.ntmps116
    go_upto_region 3 with fail
    obtain ⟨W, hW, HB⟩ : ∃ W, (w.alloc (.cells #[.int .i64 c.F, .int .i64 c.C, .int .i64 c.W, .int .i64 c.S, .int .i64 c.V, .int .i64 c.T, .int .u64 c.k.l1, .int .u64 c.k.llc, .int .u64 c.k.mi, .int .u64 c.k.fa, .int .u64 c.k.st, .int .u64 c.k.di, .int .u64 c.sl, .int .u64 c.pd, .int .u64 c.ft, .slice a.ta c.tn a.tc, .slice a.pa c.pn a.pc] 28)) = W ∧ Hid (Cb w W w.heap.size a c) := ⟨_, rfl, HB0⟩
    rw [hW] at hld
    rw [hW]
    clear hW HB0
    go_wp2_with (refine wpList_load_at rfl 28 (.tmp 1) rfl _ _ rfl hld ?_)
    refine (MC.out _ HB.out.ci).mono ?_
    rintro _ w1 ⟨rfl, k1⟩
    have H1 : Hid (Cb w w1 w.heap.size a c) := HB.out.below k1
    clear HB k1 hld MC
    obtain ⟨_, c0, c1, c2, c3, c4, c5, c6, c7, c8, c9, c10, c11, c12, c13, c14, c15, c16⟩ := H1.out.bx
    clear c0 c1 c2 c3 c4 c5 c12 c13 c14 c15 c16
    go_wp2_with fail
    refine (CK.out _).mono ?_
    rintro _ w2 ⟨rfl, k2⟩
    have FIN : Hid (Below w.heap.size w w2) := H1.out.be.trans (k2.mono H1.out.be.size)
    clear H1 k2 CK c6 c7 c8 c9 c10 c11
    go_wp2
    go_ret
    exact ⟨ret_bool (by rw [HR.out]; rfl), FIN.out⟩
  rw [hk] at HSO
  rw [er_t hk] at CK
  obtain ⟨r0, r1⟩ := sv_range hM
  have hT1 := hM.T1
  have hT2 := hM.T2
  have hp8 := hM.p2
  have hL : okL (c.S * c.V) c.T = true := by
    generalize c.S * c.V = sv at *
    simp only [okL, Bool.and_eq_true, inB_iff]
    omega
  have SW : Hid (∀ w', Calls Tryz.prog 87 #[.agg #[.int .u64 c.k.l1, .int .u64 c.k.llc, .int .u64 c.k.mi, .int .u64 c.k.fa, .int .u64 c.k.st, .int .u64 c.k.di], .int .i64 (c.S * c.V), .int .i64 c.T] w' (Two (pdM c) 0 w')) := fun w' => by
    have hp : pdM c = (c.S * c.V + c.T) * c.k.st := rfl
    rw [hp]
    exact rSwitch_ok c.k hk (c.S * c.V) c.T hL w'
  have PC : Hid (∀ p w', Cin w' a c → p < c.pn → Calls Tryz.prog 118 #[.agg #[.int .i64 c.F, .int .i64 c.C, .int .i64 c.W, .int .i64 c.S, .int .i64 c.V, .int .i64 c.T, .int .u64 c.k.l1, .int .u64 c.k.llc, .int .u64 c.k.mi, .int .u64 c.k.fa, .int .u64 c.k.st, .int .u64 c.k.di, .int .u64 c.sl, .int .u64 c.pd, .int .u64 c.ft, .slice a.ta c.tn a.tc, .slice a.pa c.pn a.pc], .int .i64 p] w' (One (.int .i64 (pBad c p)) w')) := fun p w' h hp => part_any h p hp (by omega)
  have SH : Hid (∀ p w', Cin w' a c → p < c.pn → pBad c p = 0 → Calls Tryz.prog 141 #[.agg #[.int .i64 c.F, .int .i64 c.C, .int .i64 c.W, .int .i64 c.S, .int .i64 c.V, .int .i64 c.T, .int .u64 c.k.l1, .int .u64 c.k.llc, .int .u64 c.k.mi, .int .u64 c.k.fa, .int .u64 c.k.st, .int .u64 c.k.di, .int .u64 c.sl, .int .u64 c.pd, .int .u64 c.ft, .slice a.ta c.tn a.tc, .slice a.pa c.pn a.pc], .int .i64 p] w' (One (.agg #[.int .i64 (shp (c.pf p)).im, .int .i64 (shp (c.pf p)).us, .int .i64 (shp (c.pf p)).li, .int .i64 (shp (c.pf p)).no]) w')) := fun p w' h hp hb => by
    have k := pBad_iff.1 hb
    exact rshape_ok h p hp k.o0 k.o1 (by have := k.u0; omega) k.u1 (by have := k.z0; omega) k.z1 (by have := k.d0; omega) k.d1
  have MS : Hid (∀ p w', pBad c p = 0 → Calls Tryz.prog 140 #[.agg #[.int .u64 c.k.l1, .int .u64 c.k.llc, .int .u64 c.k.mi, .int .u64 c.k.fa, .int .u64 c.k.st, .int .u64 c.k.di], .agg #[.int .i64 (shp (c.pf p)).im, .int .i64 (shp (c.pf p)).us, .int .i64 (shp (c.pf p)).li, .int .i64 (shp (c.pf p)).no]] w' (Two (mx c.k (shp (c.pf p)) 11) 0 w')) := fun p w' h => rMost_ok c.k (shp (c.pf p)) (okC_iff.1 hk) (pBad_iff.1 h).shape w'
  have HSO2 : Hid (sOk c = (decide (pdM c ≤ c.pd) && allS c c.pn)) := HSO.out
  have HFS : Hid (∀ p, allS c (p + 1) = (allS c p && (!decide (pBad c p = 0) || decide (mx c.k (shp (c.pf p)) 11 ≤ c.sl)))) := fun p => rfl
  have HNo : Hid (∀ p, p < c.pn → (!decide (pBad c p = 0) || decide (mx c.k (shp (c.pf p)) 11 ≤ c.sl)) = false → allS c c.pn = false) := fun p hp h => by
    cases e : allS c c.pn
    · rfl
    · have h2 := allS_iff.1 e p hp
      unfold fitS at h2
      rw [h2] at h; cases h
  clear hm HSO hc hM hk hL
  generalize hsv : c.S * c.V = sv at *
  generalize pdM c = pm at *
  go_enter Tryz.func116, Tryz.ntmps116
  go_upto_region 3 with fail
  obtain ⟨W, hW, HB⟩ : ∃ W, (w.alloc (.cells #[.int .i64 c.F, .int .i64 c.C, .int .i64 c.W, .int .i64 c.S, .int .i64 c.V, .int .i64 c.T, .int .u64 c.k.l1, .int .u64 c.k.llc, .int .u64 c.k.mi, .int .u64 c.k.fa, .int .u64 c.k.st, .int .u64 c.k.di, .int .u64 c.sl, .int .u64 c.pd, .int .u64 c.ft, .slice a.ta c.tn a.tc, .slice a.pa c.pn a.pc] 28)) = W ∧ Hid (Cb w W w.heap.size a c) := ⟨_, rfl, HB0⟩
  rw [hW] at hld
  rw [hW]
  clear hW HB0
  go_wp2_with (refine wpList_load_at rfl 28 (.tmp 1) rfl _ _ rfl hld ?_)
  refine (MC.out _ HB.out.ci).mono ?_
  rintro _ w1 ⟨rfl, k1⟩
  have H1 : Hid (Cb w w1 w.heap.size a c) := HB.out.below k1
  clear HB k1 hld MC
  obtain ⟨_, c0, c1, c2, c3, c4, c5, c6, c7, c8, c9, c10, c11, c12, c13, c14, c15, c16⟩ := H1.out.bx
  clear c0 c1 c2 c3 c4 c5 c12 c13 c14 c15 c16
  go_wp2_with fail
  refine (CK.out _).mono ?_
  rintro _ w2 ⟨rfl, k2⟩
  have H2 : Hid (Cb w w2 w.heap.size a c) := H1.out.below k2
  clear H1 k2 CK c6 c7 c8 c9 c10 c11
  obtain ⟨_, c0, c1, c2, c3, c4, c5, c6, c7, c8, c9, c10, c11, c12, c13, c14, c15, c16⟩ := H2.out.bx
  clear c0 c1 c2 c12 c13 c14 c15 c16
  go_wp2_with fail
  refine (SW.out _).mono ?_
  rintro _ w3 ⟨rfl, k3⟩
  have H3 : Hid (Cb w w3 w.heap.size a c) := H2.out.below k3
  clear H2 k3 SW c3 c4 c5 c6 c7 c8 c9 c10 c11 hsv
  have c13 := H3.out.bx.c13
  by_cases hpd : c.pd < pm
  · have HR : Hid (sOk c = false) := by unfold Hid; rw [HSO2.out, show decide (pm ≤ c.pd) = false by simp; omega]; rfl
    go_wp2
    go_ret
    exact ⟨ret_bool (by rw [HR.out]; rfl), H3.out.be⟩
  have HS3 : Hid (sOk c = allS c c.pn) := by unfold Hid; rw [HSO2.out, show decide (pm ≤ c.pd) = true by simp; omega]; rfl
  clear HSO2
  go_wp2
  go_loopw [5] (fun i wr => ∃ k : Nat, k ≤ c.pn ∧ i = .int .i64 k ∧ allS c k = true ∧ Cb w wr w.heap.size a c) (fun i _ => c.pn - (intOf i).toNat)
  case atStart => exact ⟨0, by omega, rfl, rfl, H3.out⟩
  case round =>
    clear H3 c13
    obtain ⟨k, hk, rfl, hs, hB⟩ := hrel
    have HS : Hid (allS c k = true) := hs
    have HB : Hid (Cb w wr w.heap.size a c) := hB
    clear hs hB
    have c16 := HB.out.bx.c16
    by_cases hlt : k < c.pn
    · have hld := HB.out.bx.ld
      have hkn : (k : Int) < (c.pn : Int) := by omega
      have PCk : Hid (∀ w', Cin w' a c → Calls Tryz.prog 118 #[.agg #[.int .i64 c.F, .int .i64 c.C, .int .i64 c.W, .int .i64 c.S, .int .i64 c.V, .int .i64 c.T, .int .u64 c.k.l1, .int .u64 c.k.llc, .int .u64 c.k.mi, .int .u64 c.k.fa, .int .u64 c.k.st, .int .u64 c.k.di, .int .u64 c.sl, .int .u64 c.pd, .int .u64 c.ft, .slice a.ta c.tn a.tc, .slice a.pa c.pn a.pc], .int .i64 k] w' (One (.int .i64 (pBad c k)) w')) := fun w' h => PC.out k w' h hlt
      have HF1 : Hid (allS c (k + 1) = (allS c k && (!decide (pBad c k = 0) || decide (mx c.k (shp (c.pf k)) 11 ≤ c.sl)))) := HFS.out k
      have HN1 : Hid ((!decide (pBad c k = 0) || decide (mx c.k (shp (c.pf k)) 11 ≤ c.sl)) = false → allS c c.pn = false) := HNo.out k hlt
      have SHk : Hid (∀ w', Cin w' a c → pBad c k = 0 → Calls Tryz.prog 141 #[.agg #[.int .i64 c.F, .int .i64 c.C, .int .i64 c.W, .int .i64 c.S, .int .i64 c.V, .int .i64 c.T, .int .u64 c.k.l1, .int .u64 c.k.llc, .int .u64 c.k.mi, .int .u64 c.k.fa, .int .u64 c.k.st, .int .u64 c.k.di, .int .u64 c.sl, .int .u64 c.pd, .int .u64 c.ft, .slice a.ta c.tn a.tc, .slice a.pa c.pn a.pc], .int .i64 k] w' (One (.agg #[.int .i64 (shp (c.pf k)).im, .int .i64 (shp (c.pf k)).us, .int .i64 (shp (c.pf k)).li, .int .i64 (shp (c.pf k)).no]) w')) := fun w' h hb => SH.out k w' h hlt hb
      have MSk : Hid (∀ w', pBad c k = 0 → Calls Tryz.prog 140 #[.agg #[.int .u64 c.k.l1, .int .u64 c.k.llc, .int .u64 c.k.mi, .int .u64 c.k.fa, .int .u64 c.k.st, .int .u64 c.k.di], .agg #[.int .i64 (shp (c.pf k)).im, .int .i64 (shp (c.pf k)).us, .int .i64 (shp (c.pf k)).li, .int .i64 (shp (c.pf k)).no]] w' (Two (mx c.k (shp (c.pf k)) 11) 0 w')) := fun w' h => MS.out k w' h
      clear HFS HNo SH MS PC
      generalize pBad c k = pb at *
      generalize mx c.k (shp (c.pf k)) 11 = M at *
      generalize shp (c.pf k) = s at *
      go_wp2_with (refine wpList_load_at rfl 28 (.tmp 1) rfl _ _ rfl hld ?_)
      refine (PCk.out _ HB.out.ci).mono ?_
      rintro _ w4 ⟨rfl, k4⟩
      have H4 : Hid (Cb w w4 w.heap.size a c) := HB.out.below k4
      clear HB k4 hld PCk c16
      by_cases hp : pb = 0
      · subst hp
        have hF6 : ∀ i : Idx (fun W => Cb w W w.heap.size a c), i.W.cell? ⟨w.heap.size, 6, none⟩ = some (.int .u64 c.k.l1) := fun i => i.h.bx.c6
        have hF7 : ∀ i : Idx (fun W => Cb w W w.heap.size a c), i.W.cell? ⟨w.heap.size, 7, none⟩ = some (.int .u64 c.k.llc) := fun i => i.h.bx.c7
        have hF8 : ∀ i : Idx (fun W => Cb w W w.heap.size a c), i.W.cell? ⟨w.heap.size, 8, none⟩ = some (.int .u64 c.k.mi) := fun i => i.h.bx.c8
        have hF9 : ∀ i : Idx (fun W => Cb w W w.heap.size a c), i.W.cell? ⟨w.heap.size, 9, none⟩ = some (.int .u64 c.k.fa) := fun i => i.h.bx.c9
        have hF10 : ∀ i : Idx (fun W => Cb w W w.heap.size a c), i.W.cell? ⟨w.heap.size, 10, none⟩ = some (.int .u64 c.k.st) := fun i => i.h.bx.c10
        have hF11 : ∀ i : Idx (fun W => Cb w W w.heap.size a c), i.W.cell? ⟨w.heap.size, 11, none⟩ = some (.int .u64 c.k.di) := fun i => i.h.bx.c11
        have hlq : ∀ i : Idx (fun W => Cb w W w.heap.size a c), (Instr.loadAt 28 (.pointer (some ⟨w.heap.size, 0, none⟩))).run Tryz.prog i.W = .ok (.agg #[.int .i64 c.F, .int .i64 c.C, .int .i64 c.W, .int .i64 c.S, .int .i64 c.V, .int .i64 c.T, .int .u64 c.k.l1, .int .u64 c.k.llc, .int .u64 c.k.mi, .int .u64 c.k.fa, .int .u64 c.k.st, .int .u64 c.k.di, .int .u64 c.sl, .int .u64 c.pd, .int .u64 c.ft, .slice a.ta c.tn a.tc, .slice a.pa c.pn a.pc]) i.W := fun i => i.h.bx.ld
        have SHi : Hid (∀ i : Idx (fun W => Cb w W w.heap.size a c), Calls Tryz.prog 141 #[.agg #[.int .i64 c.F, .int .i64 c.C, .int .i64 c.W, .int .i64 c.S, .int .i64 c.V, .int .i64 c.T, .int .u64 c.k.l1, .int .u64 c.k.llc, .int .u64 c.k.mi, .int .u64 c.k.fa, .int .u64 c.k.st, .int .u64 c.k.di, .int .u64 c.sl, .int .u64 c.pd, .int .u64 c.ft, .slice a.ta c.tn a.tc, .slice a.pa c.pn a.pc], .int .i64 k] i.W (One (.agg #[.int .i64 s.im, .int .i64 s.us, .int .i64 s.li, .int .i64 s.no]) i.W)) := fun i => SHk.out _ i.h.ci rfl
        have MSi : Hid (∀ i : Idx (fun W => Cb w W w.heap.size a c), Calls Tryz.prog 140 #[.agg #[.int .u64 c.k.l1, .int .u64 c.k.llc, .int .u64 c.k.mi, .int .u64 c.k.fa, .int .u64 c.k.st, .int .u64 c.k.di], .agg #[.int .i64 s.im, .int .i64 s.us, .int .i64 s.li, .int .i64 s.no]] i.W (Two M 0 i.W)) := fun i => MSk.out _ rfl
        have hne : Nonempty (Idx (fun W => Cb w W w.heap.size a c)) := ⟨⟨w4, H4.out⟩⟩
        go_upto_region 12 with fail
        refine wp_region_cls (fun W => Cb w W w.heap.size a c) (by kernel_rfl) (by kernel_rfl) (H4.out.below (below_drew _ _)) ?_
        repeat (first | (go_big_quiet_want; refine quiet_load_at 28 (.tmp 1) rfl _ _ rfl hlq ?_; simp only [Act.put, List.setIfInBounds_toArray, List.set_cons_zero, List.set_cons_succ]; go_big_quiet_on) | (go_big_quiet_step (first | (go_at_call 141; exact Calls.cls (SHi.out _) (fun _ _ h k => h.below k)) | (go_at_call 140; exact Calls.cls (MSi.out _) (fun _ _ h k => h.below k)))))
        refine wpQuiet_nil ?_
        rintro w5 ⟨⟨_, hS5⟩, rfl⟩
        have H5 : Hid (Cb w w5 w.heap.size a c) := hS5
        have c12 := hS5.bx.c12
        clear hS5 hF6 hF7 hF8 hF9 hF10 hF11 hlq SHi MSi SHk MSk hne H4
        by_cases hM : c.sl < M
        · have hM2 : (!decide ((0 : Int) = 0) || decide (M ≤ c.sl)) = false := by simp; omega
          have HR : Hid (sOk c = false) := by unfold Hid; rw [HS3.out]; exact HN1.out hM2
          go_wp2
          go_ret
          exact ⟨ret_bool (by rw [HR.out]; rfl), H5.out.be⟩
        · have hM2 : (!decide ((0 : Int) = 0) || decide (M ≤ c.sl)) = true := by simp; omega
          go_wp2
          go_roundw
          case rel => exact ⟨k + 1, by omega, by go_num, by rw [HF1.out, HS.out]; simp; omega, H5.out⟩
          case measure => simp [intOf]; omega
      · have hp1 : decide (pb = 0) = false := by simp [hp]
        go_wp2
        go_roundw
        case rel => exact ⟨k + 1, by omega, by go_num, by rw [HF1.out, HS.out, hp1]; rfl, H4.out⟩
        case measure => simp [intOf]; omega
    · obtain rfl : k = c.pn := by omega
      go_wp2
      go_ret
      exact ⟨ret_bool (by rw [HS3.out, HS.out]; rfl), HB.out.be⟩
end Go.Proofs.YtokaohlgncmoaaaGreat
namespace Go.Proofs.YtokaohlgncmoaaaGreat
open Go.ChangeShapes Go.WideShapes Go.ChangeAt Go.RowKit
set_option linter.unusedVariables false

structure Sr (w0 w : World) (a : Ad) (c : Cf) (v : Value) (L : List (Int × Int)) : Prop where
  be : Below w0.heap.size w0 w
  bx : Sev w w0.heap.size a c
  ci0 : Cin w0 a c
  fs : Fs w (w0.heap.size + 1) v L
theorem Sr.ci {w0 w : World} {a : Ad} {c : Cf} {v : Value} {L : List (Int × Int)} (h : Sr w0 w a c v L) : Cin w a c := h.ci0.below h.be
theorem Sr.below {w0 w w' : World} {a : Ad} {c : Cf} {v : Value} {L : List (Int × Int)} (h : Sr w0 w a c v L) (k : Below w.heap.size w w') : Sr w0 w' a c v L :=
  ⟨h.be.trans (k.mono h.be.size), h.bx.below k, h.ci0, owns_of_eq h.fs fun t ht => k.block t (h.fs.lt t ht).2⟩
theorem Sr.more {w0 w w' : World} {a : Ad} {c : Cf} {v : Value} {L L' : List (Int × Int)} {g k : Nat} {o : Obj} (h : Sr w0 w a c v L) (gr : (w.alloc o).grownBy w' v.ownBlock) (f : Fs w' (w0.heap.size + 1) (.slice (some ⟨g, 0, none⟩) (L.length + 1) k) L') :
    Sr w0 w' a c (.slice (some ⟨g, 0, none⟩) (L.length + 1) k) L' := by
  have hs := gr.size
  have hz : (w.alloc o).heap.size = w.heap.size + 1 := by simp
  have hb : ∀ i, i < w.heap.size → some i ≠ v.ownBlock → w'.heap[i]? = w.heap[i]? := fun i hi hne => (gr.block i (by omega) hne).trans ((below_new w o).block i hi)
  refine ⟨h.be.trans ⟨gr.os, gr.tape, gr.output, by omega, fun i hi => hb i (Nat.lt_of_lt_of_le hi h.be.size) (fun e => by have := (h.fs.lt i e.symm).1; omega)⟩, ?_, h.ci0, f⟩
  exact h.bx.of_eq (hb _ h.bx.lt (fun e => by have := (h.fs.lt _ e.symm).1; omega)) (by have := h.bx.lt; omega)
theorem enF_one (L : List (Int × Int)) (e t : Int) : enF (L ++ [(e, t)]) = enF L ++ [.int .i64 e, .int .i64 t] := by rw [enF_append]; rfl
theorem Fs.one {w : World} {base : Nat} {L : List (Int × Int)} {g k : Nat} {e t : Int} (h : w.ownsRow base 159 2 (.slice (some ⟨g, 0, none⟩) (L.length + 1) k) (L.length + 1) (enF L ++ [.int .i64 e, .int .i64 t])) : Fs w base (.slice (some ⟨g, 0, none⟩) (L.length + 1) k) (L ++ [(e, t)]) := by
  unfold Fs
  rw [enF_one, List.length_append]
  exact h
set_option maxRecDepth 20000 in
set_option maxHeartbeats 4000000 in
theorem rCheck_all {w : World} {a : Ad} {c : Cf} (hc : Cin w a c) : Calls Tryz.prog 77 #[.agg #[.int .i64 c.F, .int .i64 c.C, .int .i64 c.W, .int .i64 c.S, .int .i64 c.V, .int .i64 c.T, .int .u64 c.k.l1, .int .u64 c.k.llc, .int .u64 c.k.mi, .int .u64 c.k.fa, .int .u64 c.k.st, .int .u64 c.k.di, .int .u64 c.sl, .int .u64 c.pd, .int .u64 c.ft, .slice a.ta c.tn a.tc, .slice a.pa c.pn a.pc]] w (Chk c w) := by
  have HB0 := cb_new hc
  have hpl := hc.pl
  obtain ⟨i0, hi0, hz0, hz1, hz2⟩ := info_parts Tryz.infoF
  have MC : Hid (∀ w', Cin w' a c → Calls Tryz.prog 114 #[.agg #[.int .i64 c.F, .int .i64 c.C, .int .i64 c.W, .int .i64 c.S, .int .i64 c.V, .int .i64 c.T, .int .u64 c.k.l1, .int .u64 c.k.llc, .int .u64 c.k.mi, .int .u64 c.k.fa, .int .u64 c.k.st, .int .u64 c.k.di, .int .u64 c.sl, .int .u64 c.pd, .int .u64 c.ft, .slice a.ta c.tn a.tc, .slice a.pa c.pn a.pc]] w' (One (.bool (!mOk c)) w')) := fun w' h => machine_any h
  have CK : Hid (∀ w', Calls Tryz.prog 115 #[.agg #[.int .u64 c.k.l1, .int .u64 c.k.llc, .int .u64 c.k.mi, .int .u64 c.k.fa, .int .u64 c.k.st, .int .u64 c.k.di]] w' (One (.int .i64 (er c.k)) w')) := fun w' => rCheck_any c.k w'
  have SL : Hid (∀ w', Cin w' a c → Calls Tryz.prog 116 #[.agg #[.int .i64 c.F, .int .i64 c.C, .int .i64 c.W, .int .i64 c.S, .int .i64 c.V, .int .i64 c.T, .int .u64 c.k.l1, .int .u64 c.k.llc, .int .u64 c.k.mi, .int .u64 c.k.fa, .int .u64 c.k.st, .int .u64 c.k.di, .int .u64 c.sl, .int .u64 c.pd, .int .u64 c.ft, .slice a.ta c.tn a.tc, .slice a.pa c.pn a.pc]] w' (One (.bool (!sOk c)) w')) := fun w' h => slices_any h
  have TU : Hid (∀ w', Cin w' a c → Calls Tryz.prog 117 #[.agg #[.int .i64 c.F, .int .i64 c.C, .int .i64 c.W, .int .i64 c.S, .int .i64 c.V, .int .i64 c.T, .int .u64 c.k.l1, .int .u64 c.k.llc, .int .u64 c.k.mi, .int .u64 c.k.fa, .int .u64 c.k.st, .int .u64 c.k.di, .int .u64 c.sl, .int .u64 c.pd, .int .u64 c.ft, .slice a.ta c.tn a.tc, .slice a.pa c.pn a.pc]] w' (One (.bool (!tOk c)) w')) := fun w' h => turns_any h
  have PC : Hid (∀ p w', Cin w' a c → p < c.pn → p < 8 → Calls Tryz.prog 118 #[.agg #[.int .i64 c.F, .int .i64 c.C, .int .i64 c.W, .int .i64 c.S, .int .i64 c.V, .int .i64 c.T, .int .u64 c.k.l1, .int .u64 c.k.llc, .int .u64 c.k.mi, .int .u64 c.k.fa, .int .u64 c.k.st, .int .u64 c.k.di, .int .u64 c.sl, .int .u64 c.pd, .int .u64 c.ft, .slice a.ta c.tn a.tc, .slice a.pa c.pn a.pc], .int .i64 p] w' (One (.int .i64 (pBad c p)) w')) := fun p w' h hp h8 => part_any h p hp h8
  have HCH : Hid (chk c = fl (un (mOk c) 114) 0 ++ fl (er c.k) 1 ++ fl (un (sOk c) 113) 2 ++ fl (un (tOk c) 112) 3 ++ chkP c (min c.pn 8)) := rfl
  have HE1 : er c.k = un (okC c.k) 100 := by
    cases h : okC c.k
    · exact er_f h
    · exact er_t h
  have HCP : Hid (∀ k, chkP c (k + 1) = chkP c k ++ fl (pBad c k) (4 + k)) := fun k => rfl
  have HLn : Hid (∀ k, k ≤ 8 → (chkP c k).length ≤ 8) := fun k hk => by have := chkP_len c k; omega
  have HFN : Hid (∀ e t : Int, e ≠ 0 → fl e t = [(e, t)]) := fun e t he => by unfold fl; rw [if_neg he]
  rw [HE1] at HCH CK
  have hld := HB0.bx.ld
  clear HE1
  have HC0 : Hid (Cin w a c) := hc
  clear hc
  generalize mOk c = bm at *
  generalize okC c.k = bk at *
  generalize sOk c = bs at *
  generalize tOk c = bt at *
  go_enter Tryz.func77, Tryz.ntmps77
  go_upto_region 2 with fail
  obtain ⟨W, hW, H0⟩ : ∃ W, (w.alloc (.cells #[.int .i64 c.F, .int .i64 c.C, .int .i64 c.W, .int .i64 c.S, .int .i64 c.V, .int .i64 c.T, .int .u64 c.k.l1, .int .u64 c.k.llc, .int .u64 c.k.mi, .int .u64 c.k.fa, .int .u64 c.k.st, .int .u64 c.k.di, .int .u64 c.sl, .int .u64 c.pd, .int .u64 c.ft, .slice a.ta c.tn a.tc, .slice a.pa c.pn a.pc] 28)) = W ∧ Hid (Sr w W a c (.slice none 0 0) []) := ⟨_, rfl, ⟨HB0.be, HB0.bx, HC0.out, Fs.nil _ _⟩⟩
  rw [hW] at hld
  rw [hW]
  clear hW HB0
  go_wp2_with (refine wpList_load_at rfl 28 (.tmp 1) rfl _ _ rfl hld ?_)
  refine (MC.out _ H0.out.ci).mono ?_
  rintro _ w1 ⟨rfl, k1⟩
  have H1 : Hid (Sr w w1 a c (.slice none 0 0) []) := H0.out.below k1
  clear H0 k1 hld MC
  have hll0 : ([] : List (Int × Int)).length ≤ 0 := by simp
  go_upto_if 7 with fail
  go_cut [3] from 6 (fun t3 wx => Sr w wx a c t3 ([] ++ fl (un bm 114) 0))
  case first =>
    cases bm
    · go_wp2_with (at_builtin; refine wpList_append_lies _ rfl (.tmp 8) (.tmp 10) 131 rfl (w.heap.size + 1) 159 i0 _ 2 16 Tryz.underlying131 hi0 hz0 hz1 hz2 rfl (by decide) _ ([]).length (enF ([])) rfl (H1.out.fs.alloc _) ⟨w1.heap.size, 0, none⟩ 1 1 [.int .i64 114, .int .i64 0] rfl rfl (cell_two_new _ _ _ _) (by intro u hu; simp at hu; rcases hu with rfl | rfl <;> rfl) (by omega) (by unfold maxLen; omega) (by omega) (by have := H1.out.bx.lt; simp; omega) (w1.heap.size + 1) (by simp) ?_; intro g3 k3 w3 o3 gr3 at3 lt3)
      go_meet
      case rel =>
        show Sr w w3 a c _ ([] ++ [((114 : Int), (0 : Int))])
        exact H1.out.more gr3 (Fs.one o3)
    · go_wp2_with fail
      go_meet
      case rel => rw [show fl (un true 114) 0 = [] from rfl, List.append_nil]; exact H1.out
  case rest =>
  obtain ⟨l1, hl1, hll1⟩ : ∃ l, [] ++ fl (un bm 114) 0 = l ∧ l.length ≤ 1 := ⟨_, rfl, len_app _ _ 0 1 (by first | (simp; done) | assumption) (fl_len _ _)⟩
  have H1c : Hid (Sr w wc a c u3 l1) := by unfold Hid; rw [← hl1]; exact hcut
  have HL1 : Hid ([] ++ fl (un bm 114) 0 = l1) := hl1
  clear hcut hl1 H1
  obtain ⟨va, vn, vc, rfl⟩ := fs_shape H1c.out.fs
  obtain ⟨_, c0, c1, c2, c3, c4, c5, c6, c7, c8, c9, c10, c11, c12, c13, c14, c15, c16⟩ := H1c.out.bx
  clear c0 c1 c2 c3 c4 c5 c12 c13 c14 c15 c16
  go_wp2_with fail
  refine (CK.out _).mono ?_
  rintro _ w4 ⟨rfl, k4⟩
  have H2 : Hid (Sr w w4 a c (.slice va vn vc) l1) := H1c.out.below k4
  clear H1c k4 CK c6 c7 c8 c9 c10 c11
  go_upto_if 15 with fail
  go_cut [3] from 12 (fun t3 wx => Sr w wx a c t3 (l1 ++ fl (un bk 100) 1))
  case first =>
    cases bk
    · go_wp2_with (at_builtin; refine wpList_append_lies _ rfl (.tmp 16) (.tmp 18) 131 rfl (w.heap.size + 1) 159 i0 _ 2 16 Tryz.underlying131 hi0 hz0 hz1 hz2 rfl (by decide) _ (l1).length (enF (l1)) rfl (H2.out.fs.alloc _) ⟨w4.heap.size, 0, none⟩ 1 1 [.int .i64 100, .int .i64 1] rfl rfl (cell_two_new _ _ _ _) (by intro u hu; simp at hu; rcases hu with rfl | rfl <;> rfl) (by omega) (by unfold maxLen; omega) (by omega) (by have := H2.out.bx.lt; simp; omega) (w4.heap.size + 1) (by simp) ?_; intro g3 k3 w3 o3 gr3 at3 lt3)
      go_meet
      case rel =>
        show Sr w w3 a c _ (l1 ++ [((100 : Int), (1 : Int))])
        exact H2.out.more gr3 (Fs.one o3)
    · go_wp2_with fail
      go_meet
      case rel => rw [show fl (un true 100) 1 = [] from rfl, List.append_nil]; exact H2.out
  case rest =>
  obtain ⟨l2, hl2, hll2⟩ : ∃ l, l1 ++ fl (un bk 100) 1 = l ∧ l.length ≤ 2 := ⟨_, rfl, len_app _ _ 1 1 (by first | (simp; done) | assumption) (fl_len _ _)⟩
  have H2c : Hid (Sr w wc a c u3 l2) := by unfold Hid; rw [← hl2]; exact hcut
  have HL2 : Hid (l1 ++ fl (un bk 100) 1 = l2) := hl2
  clear hcut hl2 H2
  obtain ⟨va', vn', vc', rfl⟩ := fs_shape H2c.out.fs
  clear va vn vc
  have hld := H2c.out.bx.ld
  go_wp2_with (refine wpList_load_at rfl 28 (.tmp 1) rfl _ _ rfl hld ?_)
  refine (SL.out _ H2c.out.ci).mono ?_
  rintro _ w5 ⟨rfl, k5⟩
  have H3 : Hid (Sr w w5 a c (.slice va' vn' vc') l2) := H2c.out.below k5
  clear H2c k5 SL hld
  go_upto_if 21 with fail
  go_cut [3] from 20 (fun t3 wx => Sr w wx a c t3 (l2 ++ fl (un bs 113) 2))
  case first =>
    cases bs
    · go_wp2_with (at_builtin; refine wpList_append_lies _ rfl (.tmp 22) (.tmp 24) 131 rfl (w.heap.size + 1) 159 i0 _ 2 16 Tryz.underlying131 hi0 hz0 hz1 hz2 rfl (by decide) _ (l2).length (enF (l2)) rfl (H3.out.fs.alloc _) ⟨w5.heap.size, 0, none⟩ 1 1 [.int .i64 113, .int .i64 2] rfl rfl (cell_two_new _ _ _ _) (by intro u hu; simp at hu; rcases hu with rfl | rfl <;> rfl) (by omega) (by unfold maxLen; omega) (by omega) (by have := H3.out.bx.lt; simp; omega) (w5.heap.size + 1) (by simp) ?_; intro g3 k3 w3 o3 gr3 at3 lt3)
      go_meet
      case rel =>
        show Sr w w3 a c _ (l2 ++ [((113 : Int), (2 : Int))])
        exact H3.out.more gr3 (Fs.one o3)
    · go_wp2_with fail
      go_meet
      case rel => rw [show fl (un true 113) 2 = [] from rfl, List.append_nil]; exact H3.out
  case rest =>
  obtain ⟨l3, hl3, hll3⟩ : ∃ l, l2 ++ fl (un bs 113) 2 = l ∧ l.length ≤ 3 := ⟨_, rfl, len_app _ _ 2 1 (by first | (simp; done) | assumption) (fl_len _ _)⟩
  have H3c : Hid (Sr w wc a c u3 l3) := by unfold Hid; rw [← hl3]; exact hcut
  have HL3 : Hid (l2 ++ fl (un bs 113) 2 = l3) := hl3
  clear hcut hl3 H3
  clear va' vn' vc'
  obtain ⟨va, vn, vc, rfl⟩ := fs_shape H3c.out.fs
  have hld := H3c.out.bx.ld
  go_wp2_with (refine wpList_load_at rfl 28 (.tmp 1) rfl _ _ rfl hld ?_)
  refine (TU.out _ H3c.out.ci).mono ?_
  rintro _ w6 ⟨rfl, k6⟩
  have H4 : Hid (Sr w w6 a c (.slice va vn vc) l3) := H3c.out.below k6
  clear H3c k6 TU hld
  go_upto_if 27 with fail
  go_cut [3] from 26 (fun t3 wx => Sr w wx a c t3 (l3 ++ fl (un bt 112) 3))
  case first =>
    cases bt
    · go_wp2_with (at_builtin; refine wpList_append_lies _ rfl (.tmp 28) (.tmp 30) 131 rfl (w.heap.size + 1) 159 i0 _ 2 16 Tryz.underlying131 hi0 hz0 hz1 hz2 rfl (by decide) _ (l3).length (enF (l3)) rfl (H4.out.fs.alloc _) ⟨w6.heap.size, 0, none⟩ 1 1 [.int .i64 112, .int .i64 3] rfl rfl (cell_two_new _ _ _ _) (by intro u hu; simp at hu; rcases hu with rfl | rfl <;> rfl) (by omega) (by unfold maxLen; omega) (by omega) (by have := H4.out.bx.lt; simp; omega) (w6.heap.size + 1) (by simp) ?_; intro g3 k3 w3 o3 gr3 at3 lt3)
      go_meet
      case rel =>
        show Sr w w3 a c _ (l3 ++ [((112 : Int), (3 : Int))])
        exact H4.out.more gr3 (Fs.one o3)
    · go_wp2_with fail
      go_meet
      case rel => rw [show fl (un true 112) 3 = [] from rfl, List.append_nil]; exact H4.out
  case rest =>
  obtain ⟨l4, hl4, hll4⟩ : ∃ l, l3 ++ fl (un bt 112) 3 = l ∧ l.length ≤ 4 := ⟨_, rfl, len_app _ _ 3 1 (by first | (simp; done) | assumption) (fl_len _ _)⟩
  have H4c : Hid (Sr w wc a c u3 l4) := by unfold Hid; rw [← hl4]; exact hcut
  have HL4 : Hid (l3 ++ fl (un bt 112) 3 = l4) := hl4
  clear hcut hl4 H4
  have HCH2 : Hid (chk c = l4 ++ chkP c (min c.pn 8)) := by
    unfold Hid
    rw [HCH.out, ← HL4.out, ← HL3.out, ← HL2.out, ← HL1.out, List.nil_append]
  clear HCH HL1 HL2 HL3 HL4 va vn vc
  obtain ⟨va, vn, vc, rfl⟩ := fs_shape H4c.out.fs
  go_wp2_with fail
  go_loopw [3, 4, 5] (fun t3 i t5 wr => ∃ (k : Nat) (v u : Value), v = t3 ∧ u = t5 ∧ k ≤ min c.pn 8 ∧ i = .int .i64 k ∧ Sr w wr a c v (l4 ++ chkP c k)) (fun _ i _ _ => 8 - (intOf i).toNat)
  case atStart => exact ⟨0, _, _, rfl, rfl, by omega, rfl, by rw [show chkP c 0 = [] from rfl, List.append_nil]; exact H4c.out⟩
  case round =>
    clear H4c
    obtain ⟨k, v, u, hv, hu, hk, rfl, hS⟩ := hrel
    subst hv hu
    have HS : Hid (Sr w wr a c v (l4 ++ chkP c k)) := hS
    clear hS
    obtain ⟨va', vn', vc', rfl⟩ := fs_shape HS.out.fs
    have c16 := HS.out.bx.c16
    by_cases hlt : k < min c.pn 8
    · have hk8 : k < 8 := by omega
      have hkp : k < c.pn := by omega
      have hk8i : (k : Int) < 8 := by omega
      have hkpi : (k : Int) < (c.pn : Int) := by omega
      have hld := HS.out.bx.ld
      have PCk : Hid (∀ w', Cin w' a c → Calls Tryz.prog 118 #[.agg #[.int .i64 c.F, .int .i64 c.C, .int .i64 c.W, .int .i64 c.S, .int .i64 c.V, .int .i64 c.T, .int .u64 c.k.l1, .int .u64 c.k.llc, .int .u64 c.k.mi, .int .u64 c.k.fa, .int .u64 c.k.st, .int .u64 c.k.di, .int .u64 c.sl, .int .u64 c.pd, .int .u64 c.ft, .slice a.ta c.tn a.tc, .slice a.pa c.pn a.pc], .int .i64 k] w' (One (.int .i64 (pBad c k)) w')) := fun w' h => PC.out k w' h hkp hk8
      have HN : Hid (l4 ++ chkP c (k + 1) = (l4 ++ chkP c k) ++ fl (pBad c k) (4 + k)) := by unfold Hid; rw [HCP.out, List.append_assoc]
      have HLk := HLn.out k (by omega)
      obtain ⟨lk, hlk, hlkn⟩ : ∃ l, l4 ++ chkP c k = l ∧ l.length ≤ 12 := ⟨_, rfl, by rw [List.length_append]; omega⟩
      rw [hlk] at HN HS
      clear PC HLk hlk
      generalize pBad c k = pb at *
      go_wp2_with (refine wpList_load_at rfl 28 (.tmp 1) rfl _ _ rfl hld ?_)
      refine (PCk.out _ HS.out.ci).mono ?_
      rintro _ w7 ⟨rfl, k7⟩
      have H7 : Hid (Sr w w7 a c (.slice va' vn' vc') lk) := HS.out.below k7
      clear HS k7 hld PCk c16
      by_cases hpb : pb = 0
      · subst hpb
        rw [fl_zero, List.append_nil] at HN
        go_wp2
        go_roundw
        case rel => exact ⟨k + 1, _, _, rfl, rfl, by omega, by go_num, by rw [HN.out]; exact H7.out⟩
        case measure => simp [intOf]; omega
      · have hpb2 : (pb != 0) = true := by simp [hpb]
        rw [HFN.out _ _ hpb] at HN
        go_wp2_with (at_builtin; refine wpList_append_lies _ rfl (.tmp 48) (.tmp 53) 131 rfl (w.heap.size + 1) 159 i0 _ 2 16 Tryz.underlying131 hi0 hz0 hz1 hz2 rfl (by decide) _ (lk).length (enF (lk)) rfl (H7.out.fs.alloc _) ⟨w7.heap.size, 0, none⟩ 1 1 [.int .i64 pb, .int .i64 (4 + k)] rfl rfl (cell_two_new _ _ _ _) (by intro u hu; simp at hu; rcases hu with rfl | rfl <;> rfl) (by omega) (by unfold maxLen; omega) (by omega) (by have := H7.out.bx.lt; simp; omega) (w7.heap.size + 1) (by simp) ?_; intro g3 k3 w3 o3 gr3 at3 lt3)
        go_roundw
        case rel => exact ⟨k + 1, _, _, rfl, rfl, by omega, by go_num, by rw [HN.out]; exact H7.out.more gr3 (Fs.one o3)⟩
        case measure => simp [intOf]; omega
    · have hke : k = min c.pn 8 := by omega
      have FIN : Hid (Chk c w (.returned (.slice va' vn' vc')) wr) := ⟨_, rfl, by rw [HCH2.out, ← hke]; exact fs_less HS.out.fs (by omega), HS.out.be⟩
      by_cases hkp : k < c.pn
      · have h8 : k = 8 := by omega
        have hkpi : (k : Int) < (c.pn : Int) := by omega
        have hk8 : ¬ (k : Int) < 8 := by omega
        go_wp2
        go_ret
        exact FIN.out
      · have hkpi : ¬ (k : Int) < (c.pn : Int) := by omega
        go_wp2
        go_ret
        exact FIN.out
end Go.Proofs.YtokaohlgncmoaaaGreat
namespace Go.Proofs.YtokaohlgncmoaaaGreat
open Go.ChangeShapes Go.WideShapes Go.ChangeAt Go.RowKit
set_option linter.unusedVariables false

set_option maxRecDepth 20000 in
theorem rMay_all {w : World} {a : Ad} {c : Cf} (hc : Cin w a c) : Calls Tryz.prog 32 #[.agg #[.int .i64 c.F, .int .i64 c.C, .int .i64 c.W, .int .i64 c.S, .int .i64 c.V, .int .i64 c.T, .int .u64 c.k.l1, .int .u64 c.k.llc, .int .u64 c.k.mi, .int .u64 c.k.fa, .int .u64 c.k.st, .int .u64 c.k.di, .int .u64 c.sl, .int .u64 c.pd, .int .u64 c.ft, .slice a.ta c.tn a.tc, .slice a.pa c.pn a.pc]] w (One (.bool (may c)) w) := by
  have HB0 := cb_new hc
  have C1 : Hid (∀ w', Cin w' a c → Calls Tryz.prog 77 #[.agg #[.int .i64 c.F, .int .i64 c.C, .int .i64 c.W, .int .i64 c.S, .int .i64 c.V, .int .i64 c.T, .int .u64 c.k.l1, .int .u64 c.k.llc, .int .u64 c.k.mi, .int .u64 c.k.fa, .int .u64 c.k.st, .int .u64 c.k.di, .int .u64 c.sl, .int .u64 c.pd, .int .u64 c.ft, .slice a.ta c.tn a.tc, .slice a.pa c.pn a.pc]] w' (Chk c w')) := fun w' h => rCheck_all h
  have HM : Hid (may c = ((chk c).length == 0)) := may_len c
  have hL := chk_len c
  have hld := HB0.bx.ld
  clear hc
  go_enter Tryz.func32, Tryz.ntmps32
  go_upto_region 1 with fail
  obtain ⟨W, hW, HB⟩ : ∃ W, (w.alloc (.cells #[.int .i64 c.F, .int .i64 c.C, .int .i64 c.W, .int .i64 c.S, .int .i64 c.V, .int .i64 c.T, .int .u64 c.k.l1, .int .u64 c.k.llc, .int .u64 c.k.mi, .int .u64 c.k.fa, .int .u64 c.k.st, .int .u64 c.k.di, .int .u64 c.sl, .int .u64 c.pd, .int .u64 c.ft, .slice a.ta c.tn a.tc, .slice a.pa c.pn a.pc] 28)) = W ∧ Hid (Cb w W w.heap.size a c) := ⟨_, rfl, HB0⟩
  rw [hW] at hld
  rw [hW]
  clear hW HB0
  go_wp2_with (refine wpList_load_at rfl 28 (.tmp 1) rfl _ _ rfl hld ?_)
  refine (C1.out _ HB.out.ci).mono ?_
  rintro _ w1 ⟨v, rfl, hf, k1⟩
  obtain ⟨va, vc, rfl⟩ := hf.len
  have FIN : Hid (Below w.heap.size w w1) := HB.out.be.trans (k1.mono HB.out.be.size)
  clear hf k1 HB C1 hld
  generalize (chk c).length = n at *
  go_wp2
  go_ret
  exact ⟨ret_bool (by rw [HM.out]; first | rfl | (rw [Bool.eq_iff_iff]; simp)), FIN.out⟩
set_option maxRecDepth 20000 in
set_option maxHeartbeats 2000000 in
theorem rSlots_ok {w : World} {a : Ad} {c : Cf} (hc : Cin w a c) (hm : may c = true) : Calls Tryz.prog 33 #[.agg #[.int .i64 c.F, .int .i64 c.C, .int .i64 c.W, .int .i64 c.S, .int .i64 c.V, .int .i64 c.T, .int .u64 c.k.l1, .int .u64 c.k.llc, .int .u64 c.k.mi, .int .u64 c.k.fa, .int .u64 c.k.st, .int .u64 c.k.di, .int .u64 c.sl, .int .u64 c.pd, .int .u64 c.ft, .slice a.ta c.tn a.tc, .slice a.pa c.pn a.pc]] w (Ti (zs c c.pn) 0 w) := by
  have HB0 := cb_new hc
  have hpl := hc.pl
  have hO := may_iff.1 hm
  have C1 : Hid (∀ w', Cin w' a c → Calls Tryz.prog 32 #[.agg #[.int .i64 c.F, .int .i64 c.C, .int .i64 c.W, .int .i64 c.S, .int .i64 c.V, .int .i64 c.T, .int .u64 c.k.l1, .int .u64 c.k.llc, .int .u64 c.k.mi, .int .u64 c.k.fa, .int .u64 c.k.st, .int .u64 c.k.di, .int .u64 c.sl, .int .u64 c.pd, .int .u64 c.ft, .slice a.ta c.tn a.tc, .slice a.pa c.pn a.pc]] w' (One (.bool true) w')) := fun w' h => by rw [← hm]; exact rMay_all h
  have hld := HB0.bx.ld
  have HZ : Hid (∀ i, i < c.pn → 1 ≤ (c.pf i).z ∧ (c.pf i).z ≤ 1024) := fun i hi => ⟨(hO.part hi).z0, (hO.part hi).z1⟩
  have hp8 := hO.pn8
  have HR : Hid (∀ k, k ≤ c.pn → 0 ≤ zs c k ∧ zs c k ≤ 1024 * k) := fun k => by
    induction k with
    | zero => intro _; exact ⟨Int.le_refl _, Int.le_refl _⟩
    | succ k ih =>
      intro hk
      have h1 := ih (by omega)
      have h2 := HZ.out k (by omega)
      simp only [zs]
      omega
  clear hc hO
  go_enter Tryz.func33, Tryz.ntmps33
  go_upto_region 1 with fail
  obtain ⟨W, hW, HB⟩ : ∃ W, (w.alloc (.cells #[.int .i64 c.F, .int .i64 c.C, .int .i64 c.W, .int .i64 c.S, .int .i64 c.V, .int .i64 c.T, .int .u64 c.k.l1, .int .u64 c.k.llc, .int .u64 c.k.mi, .int .u64 c.k.fa, .int .u64 c.k.st, .int .u64 c.k.di, .int .u64 c.sl, .int .u64 c.pd, .int .u64 c.ft, .slice a.ta c.tn a.tc, .slice a.pa c.pn a.pc] 28)) = W ∧ Hid (Cb w W w.heap.size a c) := ⟨_, rfl, HB0⟩
  rw [hW] at hld
  rw [hW]
  clear hW HB0
  go_wp2_with (refine wpList_load_at rfl 28 (.tmp 1) rfl _ _ rfl hld ?_)
  refine (C1.out _ HB.out.ci).mono ?_
  rintro _ w1 ⟨rfl, k1⟩
  have H1 : Hid (Cb w w1 w.heap.size a c) := HB.out.below k1
  clear HB k1 hld C1
  go_wp2
  go_loopw [4, 5] (fun s i wr => ∃ k : Nat, k ≤ c.pn ∧ i = .int .i64 k ∧ s = .int .i64 (zs c k) ∧ wr = w1) (fun _ i _ => c.pn - (intOf i).toNat)
  case atStart => exact ⟨0, by omega, rfl, rfl, rfl⟩
  case round =>
    obtain ⟨k, hk, rfl, rfl, rfl⟩ := hrel
    have c16 := H1.out.bx.c16
    by_cases hlt : k < c.pn
    · obtain ⟨b, off, hq, ⟨_, _, _, _, _, _, _, _, e7⟩⟩ := H1.out.ci.p.at' (show k < c.pn by omega)
      obtain ⟨r0, r1⟩ := HR.out k (by omega)
      obtain ⟨z0, z1⟩ := HZ.out k (by omega)
      have HS : Hid (zs c (k + 1) = zs c k + (c.pf k).z) := rfl
      have hkn : (k : Int) < (c.pn : Int) := by omega
      have hkp : (k : Int) < (c.pn : Int) := by omega
      rw [hq] at c16
      clear hq
      generalize zs c k = S at *
      generalize (c.pf k).z = z at *
      go_wp2
      go_roundw
      case rel => exact ⟨k + 1, by omega, by go_num, by rw [HS.out], by first | rfl | trivial⟩
      case measure => simp [intOf]; omega
    · obtain rfl : k = c.pn := by omega
      go_wp2
      go_ret2
      exact ⟨rfl, H1.out.be⟩
end Go.Proofs.YtokaohlgncmoaaaGreat
