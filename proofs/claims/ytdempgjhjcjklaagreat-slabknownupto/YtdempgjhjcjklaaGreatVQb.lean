/- What plan's May, find and slots give back, and slices.Contains; no condition but those named. -/
import Derived.Test.YtdempgjhjcjklaaGreatVQ3
namespace Go.Proofs.YtdempgjhjcjklaaGreat
open Go.ChangeShapes Go.WideShapes Go.ChangeAt Go.RowKit
set_option linter.unusedVariables false

theorem Fs.len {w : World} {base : Nat} {v : Value} {L : List (Int × Int)} (h : Fs w base v L) : ∃ a cap, v = .slice a L.length cap := by
  rcases h with ⟨h0, ⟨rfl, h⟩ | ⟨g, cap, cur, rfl, h1, h2⟩⟩
  · exact ⟨none, 0, by rw [h]⟩
  · exact ⟨_, _, rfl⟩
theorem may_len (c : Cf) : may c = ((chk c).length == 0) := by
  unfold may
  cases chk c <;> rfl
set_option maxRecDepth 20000 in
theorem May_all {w : World} {a : Ad} {c : Cf} (hc : Cin w a c) : Calls Tryz.prog 94 #[.agg #[.int .i64 c.F, .int .i64 c.C, .int .i64 c.W, .int .i64 c.S, .int .i64 c.V, .int .i64 c.T, .int .u64 c.k.l1, .int .u64 c.k.llc, .int .u64 c.k.mi, .int .u64 c.k.fa, .int .u64 c.k.st, .int .u64 c.k.di, .int .u64 c.sl, .int .u64 c.pd, .int .u64 c.ft, .slice a.ta c.tn a.tc, .slice a.pa c.pn a.pc]] w (One (.bool (may c)) w) := by
  have HB0 := cb_new hc
  have C1 : Hid (∀ w', Cin w' a c → Calls Tryz.prog 119 #[.agg #[.int .i64 c.F, .int .i64 c.C, .int .i64 c.W, .int .i64 c.S, .int .i64 c.V, .int .i64 c.T, .int .u64 c.k.l1, .int .u64 c.k.llc, .int .u64 c.k.mi, .int .u64 c.k.fa, .int .u64 c.k.st, .int .u64 c.k.di, .int .u64 c.sl, .int .u64 c.pd, .int .u64 c.ft, .slice a.ta c.tn a.tc, .slice a.pa c.pn a.pc]] w' (Chk c w')) := fun w' h => Check_all h
  have HM : Hid (may c = ((chk c).length == 0)) := may_len c
  have hL := chk_len c
  have hld := HB0.bx.ld
  clear hc
  go_enter Tryz.func94, Tryz.ntmps94
  go_upto_region 1 with fail
  obtain ⟨W, hW, HB⟩ : ∃ W, (w.alloc (.cells #[.int .i64 c.F, .int .i64 c.C, .int .i64 c.W, .int .i64 c.S, .int .i64 c.V, .int .i64 c.T, .int .u64 c.k.l1, .int .u64 c.k.llc, .int .u64 c.k.mi, .int .u64 c.k.fa, .int .u64 c.k.st, .int .u64 c.k.di, .int .u64 c.sl, .int .u64 c.pd, .int .u64 c.ft, .slice a.ta c.tn a.tc, .slice a.pa c.pn a.pc] 28)) = W ∧ Hid (Cb w W w.heap.size a c) := ⟨_, rfl, HB0⟩
  rw [hW] at hld
  rw [hW]
  clear hW HB0
  go_wp2_with (refine wpList_load_at rfl 28 (.tmp 1) rfl _ _ rfl hld ?_)
  refine (C1.out _ HB.out.ci).mono ?_
  rintro _ w1 ⟨v, rfl, hf, k1⟩
  obtain ⟨va, vc, rfl⟩ := hf.len
  have FIN : Hid (Below w.heap.size w w1) := HB.out.be.trans (k1.mono HB.out.be.size)
  clear hf k1 HB C1 hld
  generalize (chk c).length = n at *
  go_wp2
  go_ret
  exact ⟨ret_bool (by rw [HM.out]; first | rfl | (rw [Bool.eq_iff_iff]; simp)), FIN.out⟩
/-- What is wrong with asking for a partition. -/
def fe (c : Cf) (p : Int) : Int := bif may c then (bif decide (0 ≤ p) && decide (p < (c.pn : Int)) then 0 else 270) else 5
theorem fe_ok {c : Cf} {p : Nat} (h : may c = true) (hp : p < c.pn) : fe c (p : Int) = 0 := by
  have hb : (decide (0 ≤ (p : Int)) && decide ((p : Int) < (c.pn : Int))) = true := by simp; omega
  unfold fe
  rw [h, hb]
  rfl
theorem fe_zero {c : Cf} {p : Int} (h : fe c p = 0) : may c = true ∧ ∃ q : Nat, p = q ∧ q < c.pn := by
  unfold fe at h
  cases hm : may c
  · rw [hm] at h; cases h
  · rw [hm] at h
    cases hb : (decide (0 ≤ p) && decide (p < (c.pn : Int)))
    · rw [hb] at h; cases h
    · simp at hb
      obtain ⟨q, rfl⟩ := Int.eq_ofNat_of_zero_le hb.1
      exact ⟨rfl, q, rfl, by omega⟩
/-- A configuration's box and a partition's place beside what was there. -/
structure Fd (w0 w : World) (a : Ad) (c : Cf) (L : List Value) : Prop where
  be : Below w0.heap.size w0 w
  bx : Sev w w0.heap.size a c
  ci0 : Cin w0 a c
  rs : Blk w (w0.heap.size + 1) 53 L
theorem Fd.ci {w0 w : World} {a : Ad} {c : Cf} {L : List Value} (h : Fd w0 w a c L) : Cin w a c := h.ci0.below h.be
theorem Fd.below {w0 w w' : World} {a : Ad} {c : Cf} {L : List Value} (h : Fd w0 w a c L) (k : Below w.heap.size w w') : Fd w0 w' a c L := ⟨h.be.trans (k.mono h.be.size), h.bx.below k, h.ci0, h.rs.below k⟩
theorem Fd.set {w0 w : World} {a : Ad} {c : Cf} {L : List Value} (h : Fd w0 w a c L) (i : Nat) (v : Value) : Fd w0 (w.setCell ⟨w0.heap.size + 1, i, none⟩ v) a c (L.set i v) :=
  ⟨h.be.trans (below_setCell (by omega) h.be.size i v), h.bx.of_eq (heap_set_ne (by omega) i v) (Nat.lt_of_lt_of_le h.bx.lt (grown_setCell' w _ i v).size), h.ci0, h.rs.set i v⟩
def zP : List Value := [.slice none 0 0, .int .i64 0, .int .i64 0, .int .i64 0, .int .i64 0, .int .i64 0, .int .i64 0, .int .i64 0]
theorem fd_new {w : World} {a : Ad} {c : Cf} (h : Cin w a c) : Fd w ((w.alloc (.cells #[.int .i64 c.F, .int .i64 c.C, .int .i64 c.W, .int .i64 c.S, .int .i64 c.V, .int .i64 c.T, .int .u64 c.k.l1, .int .u64 c.k.llc, .int .u64 c.k.mi, .int .u64 c.k.fa, .int .u64 c.k.st, .int .u64 c.k.di, .int .u64 c.sl, .int .u64 c.pd, .int .u64 c.ft, .slice a.ta c.tn a.tc, .slice a.pa c.pn a.pc] 28)).alloc (.cells #[.slice none 0 0, .int .i64 0, .int .i64 0, .int .i64 0, .int .i64 0, .int .i64 0, .int .i64 0, .int .i64 0] 53)) a c zP :=
  ⟨below_two _ _ _, (sev_new w a c).below (below_new _ _), h, by simpa [zP] using blk_new (w.alloc (.cells #[.int .i64 c.F, .int .i64 c.C, .int .i64 c.W, .int .i64 c.S, .int .i64 c.V, .int .i64 c.T, .int .u64 c.k.l1, .int .u64 c.k.llc, .int .u64 c.k.mi, .int .u64 c.k.fa, .int .u64 c.k.st, .int .u64 c.k.di, .int .u64 c.sl, .int .u64 c.pd, .int .u64 c.ft, .slice a.ta c.tn a.tc, .slice a.pa c.pn a.pc] 28)) zP 53⟩
theorem Fd.zs {w0 w : World} {a : Ad} {c : Cf} {v0 v1 v2 v3 v4 v5 v6 v7 : Value} (h : Fd w0 w a c [v0, v1, v2, v3, v4, v5, v6, v7]) :
    (w.cell? ⟨w0.heap.size + 1, 0, none⟩ = some v0 ∧ w.cell? ⟨w0.heap.size + 1, 1, none⟩ = some v1 ∧ w.cell? ⟨w0.heap.size + 1, 2, none⟩ = some v2 ∧ w.cell? ⟨w0.heap.size + 1, 3, none⟩ = some v3 ∧ w.cell? ⟨w0.heap.size + 1, 4, none⟩ = some v4 ∧ w.cell? ⟨w0.heap.size + 1, 5, none⟩ = some v5 ∧ w.cell? ⟨w0.heap.size + 1, 6, none⟩ = some v6 ∧ w.cell? ⟨w0.heap.size + 1, 7, none⟩ = some v7) ∧
    w.frozen? ⟨w0.heap.size + 1, 0, none⟩ = false ∧ w.frozen? ⟨w0.heap.size + 1, 1, none⟩ = false ∧ w.frozen? ⟨w0.heap.size + 1, 2, none⟩ = false ∧ w.frozen? ⟨w0.heap.size + 1, 3, none⟩ = false ∧ w.frozen? ⟨w0.heap.size + 1, 4, none⟩ = false ∧ w.frozen? ⟨w0.heap.size + 1, 5, none⟩ = false ∧ w.frozen? ⟨w0.heap.size + 1, 6, none⟩ = false ∧ w.frozen? ⟨w0.heap.size + 1, 7, none⟩ = false :=
  ⟨⟨h.rs.cell 0, h.rs.cell 1, h.rs.cell 2, h.rs.cell 3, h.rs.cell 4, h.rs.cell 5, h.rs.cell 6, h.rs.cell 7⟩, h.rs.frozen 0, h.rs.frozen 1, h.rs.frozen 2, h.rs.frozen 3, h.rs.frozen 4, h.rs.frozen 5, h.rs.frozen 6, h.rs.frozen 7⟩
set_option maxRecDepth 20000 in
set_option maxHeartbeats 2000000 in
theorem find_no {w : World} {a : Ad} {c : Cf} (hc : Cin w a c) (p : Int) (hf : fe c p ≠ 0) : Calls Tryz.prog 65 #[.agg #[.int .i64 c.F, .int .i64 c.C, .int .i64 c.W, .int .i64 c.S, .int .i64 c.V, .int .i64 c.T, .int .u64 c.k.l1, .int .u64 c.k.llc, .int .u64 c.k.mi, .int .u64 c.k.fa, .int .u64 c.k.st, .int .u64 c.k.di, .int .u64 c.sl, .int .u64 c.pd, .int .u64 c.ft, .slice a.ta c.tn a.tc, .slice a.pa c.pn a.pc], .int .i64 p] w (One (.tuple #[.agg #[.slice none 0 0, .int .i64 0, .int .i64 0, .int .i64 0, .int .i64 0, .int .i64 0, .int .i64 0, .int .i64 0], .int .i64 (fe c p)]) w) := by
  have HB0 := fd_new hc
  have C1 : Hid (∀ w', Cin w' a c → Calls Tryz.prog 94 #[.agg #[.int .i64 c.F, .int .i64 c.C, .int .i64 c.W, .int .i64 c.S, .int .i64 c.V, .int .i64 c.T, .int .u64 c.k.l1, .int .u64 c.k.llc, .int .u64 c.k.mi, .int .u64 c.k.fa, .int .u64 c.k.st, .int .u64 c.k.di, .int .u64 c.sl, .int .u64 c.pd, .int .u64 c.ft, .slice a.ta c.tn a.tc, .slice a.pa c.pn a.pc]] w' (One (.bool (may c)) w')) := fun w' h => May_all h
  have C2 : Hid (∀ w', Calls Tryz.prog 95 #[.agg #[.int .i64 c.F, .int .i64 c.C, .int .i64 c.W, .int .i64 c.S, .int .i64 c.V, .int .i64 c.T, .int .u64 c.k.l1, .int .u64 c.k.llc, .int .u64 c.k.mi, .int .u64 c.k.fa, .int .u64 c.k.st, .int .u64 c.k.di, .int .u64 c.sl, .int .u64 c.pd, .int .u64 c.ft, .slice a.ta c.tn a.tc, .slice a.pa c.pn a.pc], .int .i64 p] w' (One (.bool (decide (0 ≤ p) && decide (p < (c.pn : Int)))) w')) := fun w' => isPart_any p
  have HF : Hid (fe c p = bif may c then (bif decide (0 ≤ p) && decide (p < (c.pn : Int)) then 0 else 270) else 5) := rfl
  have hld := HB0.bx.ld
  clear hc
  generalize (decide (0 ≤ p) && decide (p < (c.pn : Int))) = bp at *
  generalize fe c p = fv at *
  generalize may c = bm at *
  go_enter Tryz.func65, Tryz.ntmps65
  go_upto_region 1 with fail
  obtain ⟨W, hW, HB⟩ : ∃ W, ((w.alloc (.cells #[.int .i64 c.F, .int .i64 c.C, .int .i64 c.W, .int .i64 c.S, .int .i64 c.V, .int .i64 c.T, .int .u64 c.k.l1, .int .u64 c.k.llc, .int .u64 c.k.mi, .int .u64 c.k.fa, .int .u64 c.k.st, .int .u64 c.k.di, .int .u64 c.sl, .int .u64 c.pd, .int .u64 c.ft, .slice a.ta c.tn a.tc, .slice a.pa c.pn a.pc] 28)).alloc (.cells #[.slice none 0 0, .int .i64 0, .int .i64 0, .int .i64 0, .int .i64 0, .int .i64 0, .int .i64 0, .int .i64 0] 53)) = W ∧ Hid (Fd w W a c zP) := ⟨_, rfl, HB0⟩
  rw [hW] at hld
  rw [hW]
  clear hW HB0
  go_wp2_with (refine wpList_load_at rfl 28 (.tmp 2) rfl _ _ rfl hld ?_)
  refine (C1.out _ HB.out.ci).mono ?_
  rintro _ w1 ⟨rfl, k1⟩
  have H1 : Hid (Fd w w1 a c zP) := HB.out.below k1
  clear HB k1 hld C1
  cases bm
  · obtain ⟨⟨z0, z1, z2, z3, z4, z5, z6, z7⟩, y0, y1, y2, y3, y4, y5, y6, y7⟩ := H1.out.zs
    have hv : fv = 5 := HF.out
    subst hv
    go_wp2
    refine bodyPost_ret (v := .tuple #[.agg #[.slice none 0 0, .int .i64 0, .int .i64 0, .int .i64 0, .int .i64 0, .int .i64 0, .int .i64 0, .int .i64 0], .int .i64 5]) (by simp [results, Tryz.results65, go_sem, *]) rfl ⟨rfl, ?_⟩
    exact ((((((((H1.out.set 0 _).set 1 _).set 2 _).set 3 _).set 4 _).set 5 _).set 6 _).set 7 _).be
  · have hld := H1.out.bx.ld
    go_wp2_with (refine wpList_load_at rfl 28 (.tmp 2) rfl _ _ rfl hld ?_)
    refine (C2.out _).mono ?_
    rintro _ w2 ⟨rfl, k2⟩
    have H2 : Hid (Fd w w2 a c zP) := H1.out.below k2
    clear H1 k2 hld C2
    cases bp
    · obtain ⟨⟨z0, z1, z2, z3, z4, z5, z6, z7⟩, y0, y1, y2, y3, y4, y5, y6, y7⟩ := H2.out.zs
      have hv : fv = 270 := HF.out
      subst hv
      go_wp2
      refine bodyPost_ret (v := .tuple #[.agg #[.slice none 0 0, .int .i64 0, .int .i64 0, .int .i64 0, .int .i64 0, .int .i64 0, .int .i64 0, .int .i64 0], .int .i64 270]) (by simp [results, Tryz.results65, go_sem, *]) rfl ⟨rfl, ?_⟩
      exact ((((((((H2.out.set 0 _).set 1 _).set 2 _).set 3 _).set 4 _).set 5 _).set 6 _).set 7 _).be
    · exact absurd HF.out hf
set_option maxRecDepth 20000 in
set_option maxHeartbeats 2000000 in
theorem find_ok {w : World} {a : Ad} {c : Cf} (hc : Cin w a c) (p : Nat) (hm : may c = true) (hp : p < c.pn) : Calls Tryz.prog 65 #[.agg #[.int .i64 c.F, .int .i64 c.C, .int .i64 c.W, .int .i64 c.S, .int .i64 c.V, .int .i64 c.T, .int .u64 c.k.l1, .int .u64 c.k.llc, .int .u64 c.k.mi, .int .u64 c.k.fa, .int .u64 c.k.st, .int .u64 c.k.di, .int .u64 c.sl, .int .u64 c.pd, .int .u64 c.ft, .slice a.ta c.tn a.tc, .slice a.pa c.pn a.pc], .int .i64 p] w (One (.tuple #[.agg #[.slice (a.ca p) (c.pf p).n (a.cc p), .int .i64 (c.pf p).o, .int .i64 (c.pf p).u, .int .i64 (c.pf p).t, .int .i64 (c.pf p).s, .int .i64 (c.pf p).r, .int .i64 (c.pf p).d, .int .i64 (c.pf p).z], .int .i64 0]) w) := by
  have HB0 := fd_new hc
  have hpl := hc.pl
  have hp1 : (p : Int) < (c.pn : Int) := by omega
  have hp0 : (0 : Int) ≤ (p : Int) := by omega
  have C1 : Hid (∀ w', Cin w' a c → Calls Tryz.prog 94 #[.agg #[.int .i64 c.F, .int .i64 c.C, .int .i64 c.W, .int .i64 c.S, .int .i64 c.V, .int .i64 c.T, .int .u64 c.k.l1, .int .u64 c.k.llc, .int .u64 c.k.mi, .int .u64 c.k.fa, .int .u64 c.k.st, .int .u64 c.k.di, .int .u64 c.sl, .int .u64 c.pd, .int .u64 c.ft, .slice a.ta c.tn a.tc, .slice a.pa c.pn a.pc]] w' (One (.bool true) w')) := fun w' h => by rw [← hm]; exact May_all h
  have C2 : Hid (∀ w', Calls Tryz.prog 95 #[.agg #[.int .i64 c.F, .int .i64 c.C, .int .i64 c.W, .int .i64 c.S, .int .i64 c.V, .int .i64 c.T, .int .u64 c.k.l1, .int .u64 c.k.llc, .int .u64 c.k.mi, .int .u64 c.k.fa, .int .u64 c.k.st, .int .u64 c.k.di, .int .u64 c.sl, .int .u64 c.pd, .int .u64 c.ft, .slice a.ta c.tn a.tc, .slice a.pa c.pn a.pc], .int .i64 p] w' (One (.bool true) w')) := fun w' => by
    have := isPart_any (w := w') (a := a) (c := c) (p : Int)
    rwa [show (decide (0 ≤ (p : Int)) && decide ((p : Int) < (c.pn : Int))) = true by simp; omega] at this
  have hld := HB0.bx.ld
  clear hc hm
  go_enter Tryz.func65, Tryz.ntmps65
  go_upto_region 1 with fail
  obtain ⟨W, hW, HB⟩ : ∃ W, ((w.alloc (.cells #[.int .i64 c.F, .int .i64 c.C, .int .i64 c.W, .int .i64 c.S, .int .i64 c.V, .int .i64 c.T, .int .u64 c.k.l1, .int .u64 c.k.llc, .int .u64 c.k.mi, .int .u64 c.k.fa, .int .u64 c.k.st, .int .u64 c.k.di, .int .u64 c.sl, .int .u64 c.pd, .int .u64 c.ft, .slice a.ta c.tn a.tc, .slice a.pa c.pn a.pc] 28)).alloc (.cells #[.slice none 0 0, .int .i64 0, .int .i64 0, .int .i64 0, .int .i64 0, .int .i64 0, .int .i64 0, .int .i64 0] 53)) = W ∧ Hid (Fd w W a c zP) := ⟨_, rfl, HB0⟩
  rw [hW] at hld
  rw [hW]
  clear hW HB0
  go_wp2_with (refine wpList_load_at rfl 28 (.tmp 2) rfl _ _ rfl hld ?_)
  refine (C1.out _ HB.out.ci).mono ?_
  rintro _ w1 ⟨rfl, k1⟩
  have H1 : Hid (Fd w w1 a c zP) := HB.out.below k1
  clear HB k1 hld C1
  have hld := H1.out.bx.ld
  go_wp2_with (refine wpList_load_at rfl 28 (.tmp 2) rfl _ _ rfl hld ?_)
  refine (C2.out _).mono ?_
  rintro _ w2 ⟨rfl, k2⟩
  have H2 : Hid (Fd w w2 a c zP) := H1.out.below k2
  clear H1 k2 hld C2
  obtain ⟨⟨z0, z1, z2, z3, z4, z5, z6, z7⟩, y0, y1, y2, y3, y4, y5, y6, y7⟩ := H2.out.zs
  obtain ⟨b, off, hq, ⟨_, e0, e1, e2, e3, e4, e5, e6, e7⟩⟩ := H2.out.ci.p.at' hp
  have c16 := H2.out.bx.c16
  rw [hq] at c16
  generalize a.ca p = q at *
  generalize a.cc p = m at *
  generalize c.pf p = x at *
  go_wp2
  refine bodyPost_ret (v := .tuple #[.agg #[.slice q x.n m, .int .i64 x.o, .int .i64 x.u, .int .i64 x.t, .int .i64 x.s, .int .i64 x.r, .int .i64 x.d, .int .i64 x.z], .int .i64 0]) (by simp [results, Tryz.results65, go_sem, *]) rfl ⟨rfl, ?_⟩
  exact ((((((((H2.out.set 0 _).set 1 _).set 2 _).set 3 _).set 4 _).set 5 _).set 6 _).set 7 _).be
/-- The slots of the first k partitions. -/
def zs (c : Cf) : Nat → Int
  | 0 => 0
  | k + 1 => zs c k + (c.pf k).z
end Go.Proofs.YtdempgjhjcjklaaGreat
/- What plan's Owner, Total, Limit, Shape, Base and Slots give back; no condition but that a configuration lies in memory. -/
namespace Go.Proofs.YtdempgjhjcjklaaGreat
open Go.ChangeShapes Go.WideShapes Go.ChangeAt Go.RowKit
set_option linter.unusedVariables false

theorem Cf.Ok.part {c : Cf} (h : c.Ok) {p : Nat} (hp : p < c.pn) : POk c p := pBad_iff.1 (h.p p hp)
theorem Cf.Ok.pn8 {c : Cf} (h : c.Ok) : c.pn ≤ 8 := h.m.p2
/-- Which of the first k partitions has a colour. -/
def ow (c : Cf) (x : Int) : Nat → Option Nat
  | 0 => none
  | k + 1 => (ow c x k).or (if has (c.pf k).n (c.pf k).f x then some k else none)
theorem ow_succ_none {c : Cf} {x : Int} {k : Nat} (h : ow c x k = none) : ow c x (k + 1) = if has (c.pf k).n (c.pf k).f x then some k else none := by simp [ow, h]
theorem ow_more {c : Cf} {x : Int} {k n q : Nat} (h : ow c x k = some q) (hk : k ≤ n) : ow c x n = some q := by
  induction n with
  | zero => obtain rfl : k = 0 := by omega
            exact h
  | succ n ih =>
    by_cases e : k = n + 1
    · rw [← e]; exact h
    · simp [ow, ih (by omega)]
def owE (c : Cf) (x : Int) : Int := bif may c then (bif decide (0 ≤ x) && decide (x < c.C) then 0 else 2) else 5
def owP (c : Cf) (x : Int) : Option Nat := if owE c x = 0 then ow c x c.pn else none
/-- What Owner gives back. -/
def owV (o : Option Nat) (e : Int) : Value := .tuple #[.int .i64 ((o.getD 0 : Nat) : Int), .bool o.isSome, .int .i64 e]
/-- A number and an errno. -/
def Ti (v e : Int) (w : World) (x : Ending) (w' : World) : Prop := x = .returned (.tuple #[.int .i64 v, .int .i64 e]) ∧ Below w.heap.size w w'
/-- A configuration's box, a partition's behind a call, beside what was there. -/
theorem Cb.alloc {w0 w : World} {g : Nat} {a : Ad} {c : Cf} (h : Cb w0 w g a c) (o : Obj) : Cb w0 (w.alloc o) g a c := h.below (below_new _ _)
set_option maxRecDepth 20000 in
set_option maxHeartbeats 2000000 in
theorem Total_no {w : World} {a : Ad} {c : Cf} (hc : Cin w a c) (p : Int) (hf : fe c p ≠ 0) : Calls Tryz.prog 29 #[.agg #[.int .i64 c.F, .int .i64 c.C, .int .i64 c.W, .int .i64 c.S, .int .i64 c.V, .int .i64 c.T, .int .u64 c.k.l1, .int .u64 c.k.llc, .int .u64 c.k.mi, .int .u64 c.k.fa, .int .u64 c.k.st, .int .u64 c.k.di, .int .u64 c.sl, .int .u64 c.pd, .int .u64 c.ft, .slice a.ta c.tn a.tc, .slice a.pa c.pn a.pc], .int .i64 p] w (Ti 0 (fe c p) w) := by
  have HB0 := cb_new hc
  have C1 : Hid (∀ w', Cin w' a c → Calls Tryz.prog 65 #[.agg #[.int .i64 c.F, .int .i64 c.C, .int .i64 c.W, .int .i64 c.S, .int .i64 c.V, .int .i64 c.T, .int .u64 c.k.l1, .int .u64 c.k.llc, .int .u64 c.k.mi, .int .u64 c.k.fa, .int .u64 c.k.st, .int .u64 c.k.di, .int .u64 c.sl, .int .u64 c.pd, .int .u64 c.ft, .slice a.ta c.tn a.tc, .slice a.pa c.pn a.pc], .int .i64 p] w' (One (.tuple #[.agg #[.slice none 0 0, .int .i64 0, .int .i64 0, .int .i64 0, .int .i64 0, .int .i64 0, .int .i64 0, .int .i64 0], .int .i64 (fe c p)]) w')) := fun w' h => find_no h p hf
  have hld := HB0.bx.ld
  have hf2 : (fe c p != 0) = true := by simp [hf]
  clear hc
  generalize fe c p = E at *
  go_enter Tryz.func29, Tryz.ntmps29
  go_upto_region 1 with fail
  obtain ⟨W, hW, HB⟩ : ∃ W, (w.alloc (.cells #[.int .i64 c.F, .int .i64 c.C, .int .i64 c.W, .int .i64 c.S, .int .i64 c.V, .int .i64 c.T, .int .u64 c.k.l1, .int .u64 c.k.llc, .int .u64 c.k.mi, .int .u64 c.k.fa, .int .u64 c.k.st, .int .u64 c.k.di, .int .u64 c.sl, .int .u64 c.pd, .int .u64 c.ft, .slice a.ta c.tn a.tc, .slice a.pa c.pn a.pc] 28)) = W ∧ Hid (Cb w W w.heap.size a c) := ⟨_, rfl, HB0⟩
  rw [hW] at hld
  rw [hW]
  clear hW HB0
  go_wp2_with (refine wpList_load_at rfl 28 (.tmp 2) rfl _ _ rfl hld ?_)
  refine (C1.out _ HB.out.ci).mono ?_
  rintro _ w1 ⟨rfl, k1⟩
  have H1 : Hid (Cb w w1 w.heap.size a c) := HB.out.below k1
  clear HB k1 hld C1
  go_wp2
  go_ret2
  exact ⟨rfl, (H1.out.alloc _).be⟩
set_option maxRecDepth 20000 in
set_option maxHeartbeats 2000000 in
theorem Total_ok {w : World} {a : Ad} {c : Cf} (hc : Cin w a c) (p : Nat) (hm : may c = true) (hp : p < c.pn) : Calls Tryz.prog 29 #[.agg #[.int .i64 c.F, .int .i64 c.C, .int .i64 c.W, .int .i64 c.S, .int .i64 c.V, .int .i64 c.T, .int .u64 c.k.l1, .int .u64 c.k.llc, .int .u64 c.k.mi, .int .u64 c.k.fa, .int .u64 c.k.st, .int .u64 c.k.di, .int .u64 c.sl, .int .u64 c.pd, .int .u64 c.ft, .slice a.ta c.tn a.tc, .slice a.pa c.pn a.pc], .int .i64 p] w (Ti ((c.pf p).n * (c.F / c.C)) 0 w) := by
  have HB0 := cb_new hc
  have hpl := hc.pl
  have hO := may_iff.1 hm
  have k := hO.part hp
  have C1 : Hid (∀ w', Cin w' a c → Calls Tryz.prog 65 #[.agg #[.int .i64 c.F, .int .i64 c.C, .int .i64 c.W, .int .i64 c.S, .int .i64 c.V, .int .i64 c.T, .int .u64 c.k.l1, .int .u64 c.k.llc, .int .u64 c.k.mi, .int .u64 c.k.fa, .int .u64 c.k.st, .int .u64 c.k.di, .int .u64 c.sl, .int .u64 c.pd, .int .u64 c.ft, .slice a.ta c.tn a.tc, .slice a.pa c.pn a.pc], .int .i64 p] w' (One (.tuple #[.agg #[.slice (a.ca p) (c.pf p).n (a.cc p), .int .i64 (c.pf p).o, .int .i64 (c.pf p).u, .int .i64 (c.pf p).t, .int .i64 (c.pf p).s, .int .i64 (c.pf p).r, .int .i64 (c.pf p).d, .int .i64 (c.pf p).z], .int .i64 0]) w')) := fun w' h => find_ok h p hm hp
  have C2 : Hid (∀ w', Cin w' a c → Calls Tryz.prog 66 #[.agg #[.int .i64 c.F, .int .i64 c.C, .int .i64 c.W, .int .i64 c.S, .int .i64 c.V, .int .i64 c.T, .int .u64 c.k.l1, .int .u64 c.k.llc, .int .u64 c.k.mi, .int .u64 c.k.fa, .int .u64 c.k.st, .int .u64 c.k.di, .int .u64 c.sl, .int .u64 c.pd, .int .u64 c.ft, .slice a.ta c.tn a.tc, .slice a.pa c.pn a.pc], .agg #[.slice (a.ca p) (c.pf p).n (a.cc p), .int .i64 (c.pf p).o, .int .i64 (c.pf p).u, .int .i64 (c.pf p).t, .int .i64 (c.pf p).s, .int .i64 (c.pf p).r, .int .i64 (c.pf p).d, .int .i64 (c.pf p).z]] w' (One (.int .i64 ((c.pf p).n * (c.F / c.C))) w')) := fun w' h => total_ok h hO.m (h.p.col hp) k.ri
  have hld := HB0.bx.ld
  clear hc hO k hm
  go_enter Tryz.func29, Tryz.ntmps29
  go_upto_region 1 with fail
  obtain ⟨W, hW, HB⟩ : ∃ W, (w.alloc (.cells #[.int .i64 c.F, .int .i64 c.C, .int .i64 c.W, .int .i64 c.S, .int .i64 c.V, .int .i64 c.T, .int .u64 c.k.l1, .int .u64 c.k.llc, .int .u64 c.k.mi, .int .u64 c.k.fa, .int .u64 c.k.st, .int .u64 c.k.di, .int .u64 c.sl, .int .u64 c.pd, .int .u64 c.ft, .slice a.ta c.tn a.tc, .slice a.pa c.pn a.pc] 28)) = W ∧ Hid (Cb w W w.heap.size a c) := ⟨_, rfl, HB0⟩
  rw [hW] at hld
  rw [hW]
  clear hW HB0
  go_wp2_with (refine wpList_load_at rfl 28 (.tmp 2) rfl _ _ rfl hld ?_)
  refine (C1.out _ HB.out.ci).mono ?_
  rintro _ w1 ⟨rfl, k1⟩
  have H1 : Hid (Cb w w1 w.heap.size a c) := HB.out.below k1
  clear HB k1 hld C1
  obtain ⟨W2, hW2, H2, hx⟩ : ∃ W2, (w1.alloc (.cells #[.slice (a.ca p) (c.pf p).n (a.cc p), .int .i64 (c.pf p).o, .int .i64 (c.pf p).u, .int .i64 (c.pf p).t, .int .i64 (c.pf p).s, .int .i64 (c.pf p).r, .int .i64 (c.pf p).d, .int .i64 (c.pf p).z] 53)) = W2 ∧ Hid (Cb w W2 w.heap.size a c) ∧ Hid (Ebx W2 w1.heap.size (a.ca p) (a.cc p) (c.pf p)) := ⟨_, rfl, H1.out.alloc _, ebx_new _ _ _ _⟩
  go_upto_region 4 with fail
  clear hW2
  have hld := H2.out.bx.ld
  have hlp := hx.out.ld
  go_wp2_with (first | refine wpList_load_at rfl 28 (.tmp 2) rfl _ _ rfl hld ?_ | refine wpList_load_at rfl 53 (.tmp 6) rfl _ _ rfl hlp ?_)
  refine (C2.out _ H2.out.ci).mono ?_
  rintro _ w3 ⟨rfl, k3⟩
  have FIN : Hid (Below w.heap.size w w3) := H2.out.be.trans (k3.mono H2.out.be.size)
  clear H1 H2 hx hld hlp k3 C2
  go_wp2
  go_ret2
  exact ⟨rfl, FIN.out⟩
end Go.Proofs.YtdempgjhjcjklaaGreat
/- What plan's Shape gives back; no condition but that a configuration lies in memory. -/
namespace Go.Proofs.YtdempgjhjcjklaaGreat
open Go.ChangeShapes Go.WideShapes Go.ChangeAt Go.RowKit
set_option linter.unusedVariables false

/-- A configuration's box and a shape's place beside what was there. -/
structure Fg (w0 w : World) (a : Ad) (c : Cf) (L : List Value) : Prop where
  be : Below w0.heap.size w0 w
  bx : Sev w w0.heap.size a c
  ci0 : Cin w0 a c
  rs : Blk w (w0.heap.size + 1) 211 L
theorem Fg.ci {w0 w : World} {a : Ad} {c : Cf} {L : List Value} (h : Fg w0 w a c L) : Cin w a c := h.ci0.below h.be
theorem Fg.below {w0 w w' : World} {a : Ad} {c : Cf} {L : List Value} (h : Fg w0 w a c L) (k : Below w.heap.size w w') : Fg w0 w' a c L := ⟨h.be.trans (k.mono h.be.size), h.bx.below k, h.ci0, h.rs.below k⟩
theorem Fg.set {w0 w : World} {a : Ad} {c : Cf} {L : List Value} (h : Fg w0 w a c L) (i : Nat) (v : Value) : Fg w0 (w.setCell ⟨w0.heap.size + 1, i, none⟩ v) a c (L.set i v) :=
  ⟨h.be.trans (below_setCell (by omega) h.be.size i v), h.bx.of_eq (heap_set_ne (by omega) i v) (Nat.lt_of_lt_of_le h.bx.lt (grown_setCell' w _ i v).size), h.ci0, h.rs.set i v⟩
def zS : List Value := [.int .i64 0, .int .i64 0, .int .i64 0, .int .i64 0]
theorem fg_new {w : World} {a : Ad} {c : Cf} (h : Cin w a c) : Fg w ((w.alloc (.cells #[.int .i64 c.F, .int .i64 c.C, .int .i64 c.W, .int .i64 c.S, .int .i64 c.V, .int .i64 c.T, .int .u64 c.k.l1, .int .u64 c.k.llc, .int .u64 c.k.mi, .int .u64 c.k.fa, .int .u64 c.k.st, .int .u64 c.k.di, .int .u64 c.sl, .int .u64 c.pd, .int .u64 c.ft, .slice a.ta c.tn a.tc, .slice a.pa c.pn a.pc] 28)).alloc (.cells #[.int .i64 0, .int .i64 0, .int .i64 0, .int .i64 0] 211)) a c zS :=
  ⟨below_two _ _ _, (sev_new w a c).below (below_new _ _), h, by simpa [zS] using blk_new (w.alloc (.cells #[.int .i64 c.F, .int .i64 c.C, .int .i64 c.W, .int .i64 c.S, .int .i64 c.V, .int .i64 c.T, .int .u64 c.k.l1, .int .u64 c.k.llc, .int .u64 c.k.mi, .int .u64 c.k.fa, .int .u64 c.k.st, .int .u64 c.k.di, .int .u64 c.sl, .int .u64 c.pd, .int .u64 c.ft, .slice a.ta c.tn a.tc, .slice a.pa c.pn a.pc] 28)) zS 211⟩
theorem Fg.zs {w0 w : World} {a : Ad} {c : Cf} {v0 v1 v2 v3 : Value} (h : Fg w0 w a c [v0, v1, v2, v3]) :
    (w.cell? ⟨w0.heap.size + 1, 0, none⟩ = some v0 ∧ w.cell? ⟨w0.heap.size + 1, 1, none⟩ = some v1 ∧ w.cell? ⟨w0.heap.size + 1, 2, none⟩ = some v2 ∧ w.cell? ⟨w0.heap.size + 1, 3, none⟩ = some v3) ∧
    w.frozen? ⟨w0.heap.size + 1, 0, none⟩ = false ∧ w.frozen? ⟨w0.heap.size + 1, 1, none⟩ = false ∧ w.frozen? ⟨w0.heap.size + 1, 2, none⟩ = false ∧ w.frozen? ⟨w0.heap.size + 1, 3, none⟩ = false :=
  ⟨⟨h.rs.cell 0, h.rs.cell 1, h.rs.cell 2, h.rs.cell 3⟩, h.rs.frozen 0, h.rs.frozen 1, h.rs.frozen 2, h.rs.frozen 3⟩
end Go.Proofs.YtdempgjhjcjklaaGreat
