/- What plan's Shape gives back; no condition but that a configuration lies in memory. -/
import Derived.Test.YtcmgjinjfaialaaGreatQ5
namespace Go.Proofs.YtcmgjinjfaialaaGreat
open Go.ChangeShapes Go.WideShapes Go.ChangeAt Go.RowKit
set_option linter.unusedVariables false

/-- A configuration's box and a shape's place beside what was there. -/
structure Fg (w0 w : World) (a : Ad) (c : Cf) (L : List Value) : Prop where
  be : Below w0.heap.size w0 w
  bx : Sev w w0.heap.size a c
  ci0 : Cin w0 a c
  rs : Blk w (w0.heap.size + 1) 53 L
theorem Fg.ci {w0 w : World} {a : Ad} {c : Cf} {L : List Value} (h : Fg w0 w a c L) : Cin w a c := h.ci0.below h.be
theorem Fg.below {w0 w w' : World} {a : Ad} {c : Cf} {L : List Value} (h : Fg w0 w a c L) (k : Below w.heap.size w w') : Fg w0 w' a c L := ⟨h.be.trans (k.mono h.be.size), h.bx.below k, h.ci0, h.rs.below k⟩
theorem Fg.set {w0 w : World} {a : Ad} {c : Cf} {L : List Value} (h : Fg w0 w a c L) (i : Nat) (v : Value) : Fg w0 (w.setCell ⟨w0.heap.size + 1, i, none⟩ v) a c (L.set i v) :=
  ⟨h.be.trans (below_setCell (by omega) h.be.size i v), h.bx.of_eq (heap_set_ne (by omega) i v) (Nat.lt_of_lt_of_le h.bx.lt (grown_setCell' w _ i v).size), h.ci0, h.rs.set i v⟩
def zS : List Value := [.int .i64 0, .int .i64 0, .int .i64 0, .int .i64 0]
theorem fg_new {w : World} {a : Ad} {c : Cf} (h : Cin w a c) : Fg w ((w.alloc (.cells #[.int .i64 c.F, .int .i64 c.C, .int .i64 c.W, .int .i64 c.S, .int .i64 c.V, .int .i64 c.T, .int .u64 c.k.l1, .int .u64 c.k.llc, .int .u64 c.k.mi, .int .u64 c.k.fa, .int .u64 c.k.st, .int .u64 c.k.di, .int .u64 c.sl, .int .u64 c.pd, .int .u64 c.ft, .slice a.ta c.tn a.tc, .slice a.pa c.pn a.pc] 28)).alloc (.cells #[.int .i64 0, .int .i64 0, .int .i64 0, .int .i64 0] 53)) a c zS :=
  ⟨below_two _ _ _, (sev_new w a c).below (below_new _ _), h, by simpa [zS] using blk_new (w.alloc (.cells #[.int .i64 c.F, .int .i64 c.C, .int .i64 c.W, .int .i64 c.S, .int .i64 c.V, .int .i64 c.T, .int .u64 c.k.l1, .int .u64 c.k.llc, .int .u64 c.k.mi, .int .u64 c.k.fa, .int .u64 c.k.st, .int .u64 c.k.di, .int .u64 c.sl, .int .u64 c.pd, .int .u64 c.ft, .slice a.ta c.tn a.tc, .slice a.pa c.pn a.pc] 28)) zS 53⟩
theorem Fg.zs {w0 w : World} {a : Ad} {c : Cf} {v0 v1 v2 v3 : Value} (h : Fg w0 w a c [v0, v1, v2, v3]) :
    (w.cell? ⟨w0.heap.size + 1, 0, none⟩ = some v0 ∧ w.cell? ⟨w0.heap.size + 1, 1, none⟩ = some v1 ∧ w.cell? ⟨w0.heap.size + 1, 2, none⟩ = some v2 ∧ w.cell? ⟨w0.heap.size + 1, 3, none⟩ = some v3) ∧
    w.frozen? ⟨w0.heap.size + 1, 0, none⟩ = false ∧ w.frozen? ⟨w0.heap.size + 1, 1, none⟩ = false ∧ w.frozen? ⟨w0.heap.size + 1, 2, none⟩ = false ∧ w.frozen? ⟨w0.heap.size + 1, 3, none⟩ = false :=
  ⟨⟨h.rs.cell 0, h.rs.cell 1, h.rs.cell 2, h.rs.cell 3⟩, h.rs.frozen 0, h.rs.frozen 1, h.rs.frozen 2, h.rs.frozen 3⟩
set_option maxRecDepth 20000 in
set_option maxHeartbeats 2000000 in
theorem Shape_no {w : World} {a : Ad} {c : Cf} (hc : Cin w a c) (p : Int) (hf : fe c p ≠ 0) : Calls Tryz.prog 24 #[.agg #[.int .i64 c.F, .int .i64 c.C, .int .i64 c.W, .int .i64 c.S, .int .i64 c.V, .int .i64 c.T, .int .u64 c.k.l1, .int .u64 c.k.llc, .int .u64 c.k.mi, .int .u64 c.k.fa, .int .u64 c.k.st, .int .u64 c.k.di, .int .u64 c.sl, .int .u64 c.pd, .int .u64 c.ft, .slice a.ta c.tn a.tc, .slice a.pa c.pn a.pc], .int .i64 p] w (One (.tuple #[.agg #[.int .i64 0, .int .i64 0, .int .i64 0, .int .i64 0], .int .i64 (fe c p)]) w) := by
  have HB0 := fg_new hc
  have C1 : Hid (∀ w', Cin w' a c → Calls Tryz.prog 54 #[.agg #[.int .i64 c.F, .int .i64 c.C, .int .i64 c.W, .int .i64 c.S, .int .i64 c.V, .int .i64 c.T, .int .u64 c.k.l1, .int .u64 c.k.llc, .int .u64 c.k.mi, .int .u64 c.k.fa, .int .u64 c.k.st, .int .u64 c.k.di, .int .u64 c.sl, .int .u64 c.pd, .int .u64 c.ft, .slice a.ta c.tn a.tc, .slice a.pa c.pn a.pc], .int .i64 p] w' (One (.tuple #[.agg #[.slice none 0 0, .int .i64 0, .int .i64 0, .int .i64 0, .int .i64 0, .int .i64 0, .int .i64 0, .int .i64 0], .int .i64 (fe c p)]) w')) := fun w' h => find_no h p hf
  have hld := HB0.bx.ld
  have hf2 : (fe c p != 0) = true := by simp [hf]
  clear hc
  generalize fe c p = E at *
  go_enter Tryz.func24, Tryz.ntmps24
  go_upto_region 1 with fail
  obtain ⟨W, hW, HB⟩ : ∃ W, ((w.alloc (.cells #[.int .i64 c.F, .int .i64 c.C, .int .i64 c.W, .int .i64 c.S, .int .i64 c.V, .int .i64 c.T, .int .u64 c.k.l1, .int .u64 c.k.llc, .int .u64 c.k.mi, .int .u64 c.k.fa, .int .u64 c.k.st, .int .u64 c.k.di, .int .u64 c.sl, .int .u64 c.pd, .int .u64 c.ft, .slice a.ta c.tn a.tc, .slice a.pa c.pn a.pc] 28)).alloc (.cells #[.int .i64 0, .int .i64 0, .int .i64 0, .int .i64 0] 53)) = W ∧ Hid (Fg w W a c zS) := ⟨_, rfl, HB0⟩
  rw [hW] at hld
  rw [hW]
  clear hW HB0
  go_wp2_with (refine wpList_load_at rfl 28 (.tmp 2) rfl _ _ rfl hld ?_)
  refine (C1.out _ HB.out.ci).mono ?_
  rintro _ w1 ⟨rfl, k1⟩
  have H1 : Hid (∀ o, Fg w (w1.alloc o) a c zS) := fun o => (HB.out.below k1).below (below_new _ _)
  clear HB k1 hld C1
  go_upto_region 3 with fail
  obtain ⟨W2, hW2, H2⟩ : ∃ W2, (w1.alloc (.cells #[.slice none 0 0, .int .i64 0, .int .i64 0, .int .i64 0, .int .i64 0, .int .i64 0, .int .i64 0, .int .i64 0] 40)) = W2 ∧ Hid (Fg w W2 a c zS) := ⟨_, rfl, H1.out _⟩
  rw [hW2]
  clear hW2 H1
  obtain ⟨⟨z0, z1, z2, z3⟩, y0, y1, y2, y3⟩ := H2.out.zs
  go_wp2
  refine bodyPost_ret (v := .tuple #[.agg #[.int .i64 0, .int .i64 0, .int .i64 0, .int .i64 0], .int .i64 E]) (by simp [results, Tryz.results24, go_sem, *]) rfl ⟨rfl, ?_⟩
  exact ((((H2.out.set 0 _).set 1 _).set 2 _).set 3 _).be
set_option maxRecDepth 20000 in
set_option maxHeartbeats 2000000 in
theorem Shape_ok {w : World} {a : Ad} {c : Cf} (hc : Cin w a c) (p : Nat) (hm : may c = true) (hp : p < c.pn) : Calls Tryz.prog 24 #[.agg #[.int .i64 c.F, .int .i64 c.C, .int .i64 c.W, .int .i64 c.S, .int .i64 c.V, .int .i64 c.T, .int .u64 c.k.l1, .int .u64 c.k.llc, .int .u64 c.k.mi, .int .u64 c.k.fa, .int .u64 c.k.st, .int .u64 c.k.di, .int .u64 c.sl, .int .u64 c.pd, .int .u64 c.ft, .slice a.ta c.tn a.tc, .slice a.pa c.pn a.pc], .int .i64 p] w (One (.tuple #[.agg #[.int .i64 (im (c.pf p)), .int .i64 (c.pf p).u, .int .i64 (lim (c.pf p)), .int .i64 (c.pf p).t], .int .i64 0]) w) := by
  have HB0 := fg_new hc
  have hO := may_iff.1 hm
  have k := hO.part hp
  have C1 : Hid (∀ w', Cin w' a c → Calls Tryz.prog 54 #[.agg #[.int .i64 c.F, .int .i64 c.C, .int .i64 c.W, .int .i64 c.S, .int .i64 c.V, .int .i64 c.T, .int .u64 c.k.l1, .int .u64 c.k.llc, .int .u64 c.k.mi, .int .u64 c.k.fa, .int .u64 c.k.st, .int .u64 c.k.di, .int .u64 c.sl, .int .u64 c.pd, .int .u64 c.ft, .slice a.ta c.tn a.tc, .slice a.pa c.pn a.pc], .int .i64 p] w' (One (.tuple #[.agg #[.slice (a.ca p) (c.pf p).n (a.cc p), .int .i64 (c.pf p).o, .int .i64 (c.pf p).u, .int .i64 (c.pf p).t, .int .i64 (c.pf p).s, .int .i64 (c.pf p).r, .int .i64 (c.pf p).d, .int .i64 (c.pf p).z], .int .i64 0]) w')) := fun w' h => find_ok h p hm hp
  have C2 : Hid (∀ w', Calls Tryz.prog 55 #[.agg #[.slice (a.ca p) (c.pf p).n (a.cc p), .int .i64 (c.pf p).o, .int .i64 (c.pf p).u, .int .i64 (c.pf p).t, .int .i64 (c.pf p).s, .int .i64 (c.pf p).r, .int .i64 (c.pf p).d, .int .i64 (c.pf p).z]] w' (One (.agg #[.int .i64 (im (c.pf p)), .int .i64 (c.pf p).u, .int .i64 (lim (c.pf p)), .int .i64 (c.pf p).t]) w')) := fun w' => shape_ok k.o0 k.o1 (by have := k.u0; omega) k.u1 (by have := k.z0; omega) k.z1 (by have := k.d0; omega) k.d1
  have hld := HB0.bx.ld
  clear hc hO k hm
  generalize a.ca p = q at *
  generalize a.cc p = m at *
  generalize im (c.pf p) = I at *
  generalize lim (c.pf p) = J at *
  generalize c.pf p = x at *
  go_enter Tryz.func24, Tryz.ntmps24
  go_upto_region 1 with fail
  obtain ⟨W, hW, HB⟩ : ∃ W, ((w.alloc (.cells #[.int .i64 c.F, .int .i64 c.C, .int .i64 c.W, .int .i64 c.S, .int .i64 c.V, .int .i64 c.T, .int .u64 c.k.l1, .int .u64 c.k.llc, .int .u64 c.k.mi, .int .u64 c.k.fa, .int .u64 c.k.st, .int .u64 c.k.di, .int .u64 c.sl, .int .u64 c.pd, .int .u64 c.ft, .slice a.ta c.tn a.tc, .slice a.pa c.pn a.pc] 28)).alloc (.cells #[.int .i64 0, .int .i64 0, .int .i64 0, .int .i64 0] 53)) = W ∧ Hid (Fg w W a c zS) := ⟨_, rfl, HB0⟩
  rw [hW] at hld
  rw [hW]
  clear hW HB0
  go_wp2_with (refine wpList_load_at rfl 28 (.tmp 2) rfl _ _ rfl hld ?_)
  refine (C1.out _ HB.out.ci).mono ?_
  rintro _ w1 ⟨rfl, k1⟩
  have H1 : Hid (Fg w w1 a c zS) := HB.out.below k1
  clear HB k1 hld C1
  go_upto_region 4 with fail
  obtain ⟨W2, hW2, H2, hx⟩ : ∃ W2, (w1.alloc (.cells #[.slice q x.n m, .int .i64 x.o, .int .i64 x.u, .int .i64 x.t, .int .i64 x.s, .int .i64 x.r, .int .i64 x.d, .int .i64 x.z] 40)) = W2 ∧ Hid (Fg w W2 a c zS) ∧ Hid (Ebx W2 w1.heap.size q m x) := ⟨_, rfl, H1.out.below (below_new _ _), ebx_new _ _ _ _⟩
  rw [hW2]
  clear hW2 H1
  have hlp := hx.out.ld
  go_wp2_with (refine wpList_load_at rfl 40 (.tmp 6) rfl _ _ rfl hlp ?_)
  refine (C2.out _).mono ?_
  rintro _ w3 ⟨rfl, k3⟩
  have H3 : Hid (Fg w w3 a c zS) := H2.out.below k3
  clear H2 hx hlp k3 C2
  obtain ⟨⟨z0, z1, z2, z3⟩, y0, y1, y2, y3⟩ := H3.out.zs
  go_wp2
  refine bodyPost_ret (v := .tuple #[.agg #[.int .i64 I, .int .i64 x.u, .int .i64 J, .int .i64 x.t], .int .i64 0]) (by simp [results, Tryz.results24, go_sem, *]) rfl ⟨rfl, ?_⟩
  exact ((((H3.out.set 0 _).set 1 _).set 2 _).set 3 _).be
end Go.Proofs.YtcmgjinjfaialaaGreat
