/- What plan's May, find and slots give back, and slices.Contains; no condition but those named. -/
import Derived.Test.YtcmgjinjfaialaaGreatQ3
namespace Go.Proofs.YtcmgjinjfaialaaGreat
open Go.ChangeShapes Go.WideShapes Go.ChangeAt Go.RowKit
set_option linter.unusedVariables false

theorem Fs.len {w : World} {base : Nat} {v : Value} {L : List (Int × Int)} (h : Fs w base v L) : ∃ a cap, v = .slice a L.length cap := by
  rcases h with ⟨h0, ⟨rfl, h⟩ | ⟨g, cap, cur, rfl, h1, h2⟩⟩
  · exact ⟨none, 0, by rw [h]⟩
  · exact ⟨_, _, rfl⟩
theorem may_len (c : Cf) : may c = ((chk c).length == 0) := by
  unfold may
  cases chk c <;> rfl
set_option maxRecDepth 20000 in
theorem May_all {w : World} {a : Ad} {c : Cf} (hc : Cin w a c) : Calls Tryz.prog 20 #[.agg #[.int .i64 c.F, .int .i64 c.C, .int .i64 c.W, .int .i64 c.S, .int .i64 c.V, .int .i64 c.T, .int .u64 c.k.l1, .int .u64 c.k.llc, .int .u64 c.k.mi, .int .u64 c.k.fa, .int .u64 c.k.st, .int .u64 c.k.di, .int .u64 c.sl, .int .u64 c.pd, .int .u64 c.ft, .slice a.ta c.tn a.tc, .slice a.pa c.pn a.pc]] w (One (.bool (may c)) w) := by
  have HB0 := cb_new hc
  have C1 : Hid (∀ w', Cin w' a c → Calls Tryz.prog 5 #[.agg #[.int .i64 c.F, .int .i64 c.C, .int .i64 c.W, .int .i64 c.S, .int .i64 c.V, .int .i64 c.T, .int .u64 c.k.l1, .int .u64 c.k.llc, .int .u64 c.k.mi, .int .u64 c.k.fa, .int .u64 c.k.st, .int .u64 c.k.di, .int .u64 c.sl, .int .u64 c.pd, .int .u64 c.ft, .slice a.ta c.tn a.tc, .slice a.pa c.pn a.pc]] w' (Chk c w')) := fun w' h => Check_all h
  have HM : Hid (may c = ((chk c).length == 0)) := may_len c
  have hL := chk_len c
  have hld := HB0.bx.ld
  clear hc
  go_enter Tryz.func20, Tryz.ntmps20
  go_upto_region 1 with fail
  obtain ⟨W, hW, HB⟩ : ∃ W, (w.alloc (.cells #[.int .i64 c.F, .int .i64 c.C, .int .i64 c.W, .int .i64 c.S, .int .i64 c.V, .int .i64 c.T, .int .u64 c.k.l1, .int .u64 c.k.llc, .int .u64 c.k.mi, .int .u64 c.k.fa, .int .u64 c.k.st, .int .u64 c.k.di, .int .u64 c.sl, .int .u64 c.pd, .int .u64 c.ft, .slice a.ta c.tn a.tc, .slice a.pa c.pn a.pc] 28)) = W ∧ Hid (Cb w W w.heap.size a c) := ⟨_, rfl, HB0⟩
  rw [hW] at hld
  rw [hW]
  clear hW HB0
  go_wp2_with (refine wpList_load_at rfl 28 (.tmp 1) rfl _ _ rfl hld ?_)
  refine (C1.out _ HB.out.ci).mono ?_
  rintro _ w1 ⟨v, rfl, hf, k1⟩
  obtain ⟨va, vc, rfl⟩ := hf.len
  have FIN : Hid (Below w.heap.size w w1) := HB.out.be.trans (k1.mono HB.out.be.size)
  clear hf k1 HB C1 hld
  generalize (chk c).length = n at *
  go_wp2
  go_ret
  exact ⟨ret_bool (by rw [HM.out]; first | rfl | (rw [Bool.eq_iff_iff]; simp)), FIN.out⟩
/-- What is wrong with asking for a partition. -/
def fe (c : Cf) (p : Int) : Int := bif may c then (bif decide (0 ≤ p) && decide (p < (c.pn : Int)) then 0 else 270) else 5
theorem fe_ok {c : Cf} {p : Nat} (h : may c = true) (hp : p < c.pn) : fe c (p : Int) = 0 := by
  have hb : (decide (0 ≤ (p : Int)) && decide ((p : Int) < (c.pn : Int))) = true := by simp; omega
  unfold fe
  rw [h, hb]
  rfl
theorem fe_zero {c : Cf} {p : Int} (h : fe c p = 0) : may c = true ∧ ∃ q : Nat, p = q ∧ q < c.pn := by
  unfold fe at h
  cases hm : may c
  · rw [hm] at h; cases h
  · rw [hm] at h
    cases hb : (decide (0 ≤ p) && decide (p < (c.pn : Int)))
    · rw [hb] at h; cases h
    · simp at hb
      obtain ⟨q, rfl⟩ := Int.eq_ofNat_of_zero_le hb.1
      exact ⟨rfl, q, rfl, by omega⟩
/-- A configuration's box and a partition's place beside what was there. -/
structure Fd (w0 w : World) (a : Ad) (c : Cf) (L : List Value) : Prop where
  be : Below w0.heap.size w0 w
  bx : Sev w w0.heap.size a c
  ci0 : Cin w0 a c
  rs : Blk w (w0.heap.size + 1) 40 L
theorem Fd.ci {w0 w : World} {a : Ad} {c : Cf} {L : List Value} (h : Fd w0 w a c L) : Cin w a c := h.ci0.below h.be
theorem Fd.below {w0 w w' : World} {a : Ad} {c : Cf} {L : List Value} (h : Fd w0 w a c L) (k : Below w.heap.size w w') : Fd w0 w' a c L := ⟨h.be.trans (k.mono h.be.size), h.bx.below k, h.ci0, h.rs.below k⟩
theorem Fd.set {w0 w : World} {a : Ad} {c : Cf} {L : List Value} (h : Fd w0 w a c L) (i : Nat) (v : Value) : Fd w0 (w.setCell ⟨w0.heap.size + 1, i, none⟩ v) a c (L.set i v) :=
  ⟨h.be.trans (below_setCell (by omega) h.be.size i v), h.bx.of_eq (heap_set_ne (by omega) i v) (Nat.lt_of_lt_of_le h.bx.lt (grown_setCell' w _ i v).size), h.ci0, h.rs.set i v⟩
def zP : List Value := [.slice none 0 0, .int .i64 0, .int .i64 0, .int .i64 0, .int .i64 0, .int .i64 0, .int .i64 0, .int .i64 0]
theorem fd_new {w : World} {a : Ad} {c : Cf} (h : Cin w a c) : Fd w ((w.alloc (.cells #[.int .i64 c.F, .int .i64 c.C, .int .i64 c.W, .int .i64 c.S, .int .i64 c.V, .int .i64 c.T, .int .u64 c.k.l1, .int .u64 c.k.llc, .int .u64 c.k.mi, .int .u64 c.k.fa, .int .u64 c.k.st, .int .u64 c.k.di, .int .u64 c.sl, .int .u64 c.pd, .int .u64 c.ft, .slice a.ta c.tn a.tc, .slice a.pa c.pn a.pc] 28)).alloc (.cells #[.slice none 0 0, .int .i64 0, .int .i64 0, .int .i64 0, .int .i64 0, .int .i64 0, .int .i64 0, .int .i64 0] 40)) a c zP :=
  ⟨below_two _ _ _, (sev_new w a c).below (below_new _ _), h, by simpa [zP] using blk_new (w.alloc (.cells #[.int .i64 c.F, .int .i64 c.C, .int .i64 c.W, .int .i64 c.S, .int .i64 c.V, .int .i64 c.T, .int .u64 c.k.l1, .int .u64 c.k.llc, .int .u64 c.k.mi, .int .u64 c.k.fa, .int .u64 c.k.st, .int .u64 c.k.di, .int .u64 c.sl, .int .u64 c.pd, .int .u64 c.ft, .slice a.ta c.tn a.tc, .slice a.pa c.pn a.pc] 28)) zP 40⟩
theorem Fd.zs {w0 w : World} {a : Ad} {c : Cf} {v0 v1 v2 v3 v4 v5 v6 v7 : Value} (h : Fd w0 w a c [v0, v1, v2, v3, v4, v5, v6, v7]) :
    (w.cell? ⟨w0.heap.size + 1, 0, none⟩ = some v0 ∧ w.cell? ⟨w0.heap.size + 1, 1, none⟩ = some v1 ∧ w.cell? ⟨w0.heap.size + 1, 2, none⟩ = some v2 ∧ w.cell? ⟨w0.heap.size + 1, 3, none⟩ = some v3 ∧ w.cell? ⟨w0.heap.size + 1, 4, none⟩ = some v4 ∧ w.cell? ⟨w0.heap.size + 1, 5, none⟩ = some v5 ∧ w.cell? ⟨w0.heap.size + 1, 6, none⟩ = some v6 ∧ w.cell? ⟨w0.heap.size + 1, 7, none⟩ = some v7) ∧
    w.frozen? ⟨w0.heap.size + 1, 0, none⟩ = false ∧ w.frozen? ⟨w0.heap.size + 1, 1, none⟩ = false ∧ w.frozen? ⟨w0.heap.size + 1, 2, none⟩ = false ∧ w.frozen? ⟨w0.heap.size + 1, 3, none⟩ = false ∧ w.frozen? ⟨w0.heap.size + 1, 4, none⟩ = false ∧ w.frozen? ⟨w0.heap.size + 1, 5, none⟩ = false ∧ w.frozen? ⟨w0.heap.size + 1, 6, none⟩ = false ∧ w.frozen? ⟨w0.heap.size + 1, 7, none⟩ = false :=
  ⟨⟨h.rs.cell 0, h.rs.cell 1, h.rs.cell 2, h.rs.cell 3, h.rs.cell 4, h.rs.cell 5, h.rs.cell 6, h.rs.cell 7⟩, h.rs.frozen 0, h.rs.frozen 1, h.rs.frozen 2, h.rs.frozen 3, h.rs.frozen 4, h.rs.frozen 5, h.rs.frozen 6, h.rs.frozen 7⟩
set_option maxRecDepth 20000 in
set_option maxHeartbeats 2000000 in
theorem find_no {w : World} {a : Ad} {c : Cf} (hc : Cin w a c) (p : Int) (hf : fe c p ≠ 0) : Calls Tryz.prog 54 #[.agg #[.int .i64 c.F, .int .i64 c.C, .int .i64 c.W, .int .i64 c.S, .int .i64 c.V, .int .i64 c.T, .int .u64 c.k.l1, .int .u64 c.k.llc, .int .u64 c.k.mi, .int .u64 c.k.fa, .int .u64 c.k.st, .int .u64 c.k.di, .int .u64 c.sl, .int .u64 c.pd, .int .u64 c.ft, .slice a.ta c.tn a.tc, .slice a.pa c.pn a.pc], .int .i64 p] w (One (.tuple #[.agg #[.slice none 0 0, .int .i64 0, .int .i64 0, .int .i64 0, .int .i64 0, .int .i64 0, .int .i64 0, .int .i64 0], .int .i64 (fe c p)]) w) := by
  have HB0 := fd_new hc
  have C1 : Hid (∀ w', Cin w' a c → Calls Tryz.prog 20 #[.agg #[.int .i64 c.F, .int .i64 c.C, .int .i64 c.W, .int .i64 c.S, .int .i64 c.V, .int .i64 c.T, .int .u64 c.k.l1, .int .u64 c.k.llc, .int .u64 c.k.mi, .int .u64 c.k.fa, .int .u64 c.k.st, .int .u64 c.k.di, .int .u64 c.sl, .int .u64 c.pd, .int .u64 c.ft, .slice a.ta c.tn a.tc, .slice a.pa c.pn a.pc]] w' (One (.bool (may c)) w')) := fun w' h => May_all h
  have C2 : Hid (∀ w', Calls Tryz.prog 43 #[.agg #[.int .i64 c.F, .int .i64 c.C, .int .i64 c.W, .int .i64 c.S, .int .i64 c.V, .int .i64 c.T, .int .u64 c.k.l1, .int .u64 c.k.llc, .int .u64 c.k.mi, .int .u64 c.k.fa, .int .u64 c.k.st, .int .u64 c.k.di, .int .u64 c.sl, .int .u64 c.pd, .int .u64 c.ft, .slice a.ta c.tn a.tc, .slice a.pa c.pn a.pc], .int .i64 p] w' (One (.bool (decide (0 ≤ p) && decide (p < (c.pn : Int)))) w')) := fun w' => isPart_any p
  have HF : Hid (fe c p = bif may c then (bif decide (0 ≤ p) && decide (p < (c.pn : Int)) then 0 else 270) else 5) := rfl
  have hld := HB0.bx.ld
  clear hc
  generalize (decide (0 ≤ p) && decide (p < (c.pn : Int))) = bp at *
  generalize fe c p = fv at *
  generalize may c = bm at *
  go_enter Tryz.func54, Tryz.ntmps54
  go_upto_region 1 with fail
  obtain ⟨W, hW, HB⟩ : ∃ W, ((w.alloc (.cells #[.int .i64 c.F, .int .i64 c.C, .int .i64 c.W, .int .i64 c.S, .int .i64 c.V, .int .i64 c.T, .int .u64 c.k.l1, .int .u64 c.k.llc, .int .u64 c.k.mi, .int .u64 c.k.fa, .int .u64 c.k.st, .int .u64 c.k.di, .int .u64 c.sl, .int .u64 c.pd, .int .u64 c.ft, .slice a.ta c.tn a.tc, .slice a.pa c.pn a.pc] 28)).alloc (.cells #[.slice none 0 0, .int .i64 0, .int .i64 0, .int .i64 0, .int .i64 0, .int .i64 0, .int .i64 0, .int .i64 0] 40)) = W ∧ Hid (Fd w W a c zP) := ⟨_, rfl, HB0⟩
  rw [hW] at hld
  rw [hW]
  clear hW HB0
  go_wp2_with (refine wpList_load_at rfl 28 (.tmp 2) rfl _ _ rfl hld ?_)
  refine (C1.out _ HB.out.ci).mono ?_
  rintro _ w1 ⟨rfl, k1⟩
  have H1 : Hid (Fd w w1 a c zP) := HB.out.below k1
  clear HB k1 hld C1
  cases bm
  · obtain ⟨⟨z0, z1, z2, z3, z4, z5, z6, z7⟩, y0, y1, y2, y3, y4, y5, y6, y7⟩ := H1.out.zs
    have hv : fv = 5 := HF.out
    subst hv
    go_wp2
    refine bodyPost_ret (v := .tuple #[.agg #[.slice none 0 0, .int .i64 0, .int .i64 0, .int .i64 0, .int .i64 0, .int .i64 0, .int .i64 0, .int .i64 0], .int .i64 5]) (by simp [results, Tryz.results54, go_sem, *]) rfl ⟨rfl, ?_⟩
    exact ((((((((H1.out.set 0 _).set 1 _).set 2 _).set 3 _).set 4 _).set 5 _).set 6 _).set 7 _).be
  · have hld := H1.out.bx.ld
    go_wp2_with (refine wpList_load_at rfl 28 (.tmp 2) rfl _ _ rfl hld ?_)
    refine (C2.out _).mono ?_
    rintro _ w2 ⟨rfl, k2⟩
    have H2 : Hid (Fd w w2 a c zP) := H1.out.below k2
    clear H1 k2 hld C2
    cases bp
    · obtain ⟨⟨z0, z1, z2, z3, z4, z5, z6, z7⟩, y0, y1, y2, y3, y4, y5, y6, y7⟩ := H2.out.zs
      have hv : fv = 270 := HF.out
      subst hv
      go_wp2
      refine bodyPost_ret (v := .tuple #[.agg #[.slice none 0 0, .int .i64 0, .int .i64 0, .int .i64 0, .int .i64 0, .int .i64 0, .int .i64 0, .int .i64 0], .int .i64 270]) (by simp [results, Tryz.results54, go_sem, *]) rfl ⟨rfl, ?_⟩
      exact ((((((((H2.out.set 0 _).set 1 _).set 2 _).set 3 _).set 4 _).set 5 _).set 6 _).set 7 _).be
    · exact absurd HF.out hf
set_option maxRecDepth 20000 in
set_option maxHeartbeats 2000000 in
theorem find_ok {w : World} {a : Ad} {c : Cf} (hc : Cin w a c) (p : Nat) (hm : may c = true) (hp : p < c.pn) : Calls Tryz.prog 54 #[.agg #[.int .i64 c.F, .int .i64 c.C, .int .i64 c.W, .int .i64 c.S, .int .i64 c.V, .int .i64 c.T, .int .u64 c.k.l1, .int .u64 c.k.llc, .int .u64 c.k.mi, .int .u64 c.k.fa, .int .u64 c.k.st, .int .u64 c.k.di, .int .u64 c.sl, .int .u64 c.pd, .int .u64 c.ft, .slice a.ta c.tn a.tc, .slice a.pa c.pn a.pc], .int .i64 p] w (One (.tuple #[.agg #[.slice (a.ca p) (c.pf p).n (a.cc p), .int .i64 (c.pf p).o, .int .i64 (c.pf p).u, .int .i64 (c.pf p).t, .int .i64 (c.pf p).s, .int .i64 (c.pf p).r, .int .i64 (c.pf p).d, .int .i64 (c.pf p).z], .int .i64 0]) w) := by
  have HB0 := fd_new hc
  have hpl := hc.pl
  have hp1 : (p : Int) < (c.pn : Int) := by omega
  have hp0 : (0 : Int) ≤ (p : Int) := by omega
  have C1 : Hid (∀ w', Cin w' a c → Calls Tryz.prog 20 #[.agg #[.int .i64 c.F, .int .i64 c.C, .int .i64 c.W, .int .i64 c.S, .int .i64 c.V, .int .i64 c.T, .int .u64 c.k.l1, .int .u64 c.k.llc, .int .u64 c.k.mi, .int .u64 c.k.fa, .int .u64 c.k.st, .int .u64 c.k.di, .int .u64 c.sl, .int .u64 c.pd, .int .u64 c.ft, .slice a.ta c.tn a.tc, .slice a.pa c.pn a.pc]] w' (One (.bool true) w')) := fun w' h => by rw [← hm]; exact May_all h
  have C2 : Hid (∀ w', Calls Tryz.prog 43 #[.agg #[.int .i64 c.F, .int .i64 c.C, .int .i64 c.W, .int .i64 c.S, .int .i64 c.V, .int .i64 c.T, .int .u64 c.k.l1, .int .u64 c.k.llc, .int .u64 c.k.mi, .int .u64 c.k.fa, .int .u64 c.k.st, .int .u64 c.k.di, .int .u64 c.sl, .int .u64 c.pd, .int .u64 c.ft, .slice a.ta c.tn a.tc, .slice a.pa c.pn a.pc], .int .i64 p] w' (One (.bool true) w')) := fun w' => by
    have := isPart_any (w := w') (a := a) (c := c) (p : Int)
    rwa [show (decide (0 ≤ (p : Int)) && decide ((p : Int) < (c.pn : Int))) = true by simp; omega] at this
  have hld := HB0.bx.ld
  clear hc hm
  go_enter Tryz.func54, Tryz.ntmps54
  go_upto_region 1 with fail
  obtain ⟨W, hW, HB⟩ : ∃ W, ((w.alloc (.cells #[.int .i64 c.F, .int .i64 c.C, .int .i64 c.W, .int .i64 c.S, .int .i64 c.V, .int .i64 c.T, .int .u64 c.k.l1, .int .u64 c.k.llc, .int .u64 c.k.mi, .int .u64 c.k.fa, .int .u64 c.k.st, .int .u64 c.k.di, .int .u64 c.sl, .int .u64 c.pd, .int .u64 c.ft, .slice a.ta c.tn a.tc, .slice a.pa c.pn a.pc] 28)).alloc (.cells #[.slice none 0 0, .int .i64 0, .int .i64 0, .int .i64 0, .int .i64 0, .int .i64 0, .int .i64 0, .int .i64 0] 40)) = W ∧ Hid (Fd w W a c zP) := ⟨_, rfl, HB0⟩
  rw [hW] at hld
  rw [hW]
  clear hW HB0
  go_wp2_with (refine wpList_load_at rfl 28 (.tmp 2) rfl _ _ rfl hld ?_)
  refine (C1.out _ HB.out.ci).mono ?_
  rintro _ w1 ⟨rfl, k1⟩
  have H1 : Hid (Fd w w1 a c zP) := HB.out.below k1
  clear HB k1 hld C1
  have hld := H1.out.bx.ld
  go_wp2_with (refine wpList_load_at rfl 28 (.tmp 2) rfl _ _ rfl hld ?_)
  refine (C2.out _).mono ?_
  rintro _ w2 ⟨rfl, k2⟩
  have H2 : Hid (Fd w w2 a c zP) := H1.out.below k2
  clear H1 k2 hld C2
  obtain ⟨⟨z0, z1, z2, z3, z4, z5, z6, z7⟩, y0, y1, y2, y3, y4, y5, y6, y7⟩ := H2.out.zs
  obtain ⟨b, off, hq, ⟨_, e0, e1, e2, e3, e4, e5, e6, e7⟩⟩ := H2.out.ci.p.at' hp
  have c16 := H2.out.bx.c16
  rw [hq] at c16
  generalize a.ca p = q at *
  generalize a.cc p = m at *
  generalize c.pf p = x at *
  go_wp2
  refine bodyPost_ret (v := .tuple #[.agg #[.slice q x.n m, .int .i64 x.o, .int .i64 x.u, .int .i64 x.t, .int .i64 x.s, .int .i64 x.r, .int .i64 x.d, .int .i64 x.z], .int .i64 0]) (by simp [results, Tryz.results54, go_sem, *]) rfl ⟨rfl, ?_⟩
  exact ((((((((H2.out.set 0 _).set 1 _).set 2 _).set 3 _).set 4 _).set 5 _).set 6 _).set 7 _).be
/-- The slots of the first k partitions. -/
def zs (c : Cf) : Nat → Int
  | 0 => 0
  | k + 1 => zs c k + (c.pf k).z
theorem slots_ok {w : World} {pa : Option Addr} {n pc : Nat} {ca : Nat → Option Addr} {cc : Nat → Nat} {c : Cf} (hP : Prs w pa n ca cc c.pf) (hn : n ≤ 8) (hz : ∀ i, i < n → 1 ≤ (c.pf i).z ∧ (c.pf i).z ≤ 1024) :
    Calls Tryz.prog 60 #[.slice pa n pc] w (One (.int .i64 (zs c n)) w) := by
  have HP : Hid (Prs w pa n ca cc c.pf) := hP
  have HR : Hid (∀ k, k ≤ n → 0 ≤ zs c k ∧ zs c k ≤ 1024 * k) := fun k => by
    induction k with
    | zero => intro _; exact ⟨Int.le_refl _, Int.le_refl _⟩
    | succ k ih =>
      intro hk
      have h1 := ih (by omega)
      have h2 := hz k (by omega)
      simp only [zs]
      omega
  have HZ : Hid (∀ i, i < n → 1 ≤ (c.pf i).z ∧ (c.pf i).z ≤ 1024) := hz
  clear hP hz
  go_enter Tryz.func60, Tryz.ntmps60
  go_wp2
  go_loopw [3, 8] (fun s i wr => ∃ k : Nat, k ≤ n ∧ i = .int .i64 k ∧ s = .int .i64 (zs c k) ∧ Below w.heap.size w wr) (fun _ i _ => n - (intOf i).toNat)
  case atStart => exact ⟨0, by omega, rfl, rfl, Below.refl _ _⟩
  case round =>
    obtain ⟨k, hk, rfl, rfl, hb⟩ := hrel
    have HB : Hid (Below w.heap.size w wr) := hb
    clear hb
    by_cases hlt : k < n
    · obtain ⟨b, off, rfl, ⟨_, c0, c1, c2, c3, c4, c5, c6, c7⟩⟩ := (HP.out.below HB.out).at' hlt
      obtain ⟨r0, r1⟩ := HR.out k hk
      obtain ⟨z0, z1⟩ := HZ.out k hlt
      have HS : Hid (zs c (k + 1) = zs c k + (c.pf k).z) := rfl
      have hb2 : Hid (∀ o, Below w.heap.size w (wr.alloc o)) := fun o => HB.out.alloc HB.out.size o
      generalize zs c k = S at *
      generalize c.pf k = y at *
      generalize ca k = qa at *
      generalize cc k = qm at *
      go_wp2
      go_roundw
      case rel => exact ⟨k + 1, by omega, by go_num, by rw [HS.out], hb2.out _⟩
      case measure => simp [intOf]; omega
    · obtain rfl : k = n := by omega
      go_wp2
      go_ret
      exact ⟨rfl, HB.out⟩
theorem Index_any {w : World} {q : Option Addr} {l m : Nat} {f : Nat → Int} (hl : l * 8 ≤ 140737488351232) (hA : Arg w q l f) (v : Int) :
    Calls Tryz.prog 75 #[.slice q l m, .int .i64 v] w fun e w' => ∃ k : Int, e = .returned (.int .i64 k) ∧ decide (0 ≤ k) = has l f v ∧ w' = w := by
  have HA : Hid (Arg w q l f) := hA
  clear hA
  go_enter Tryz.func75, Tryz.ntmps75
  go_wp2
  go_loopw [8] (fun i wr => ∃ k : Nat, k ≤ l ∧ i = .int .i64 k ∧ has k f v = false ∧ wr = w) (fun i _ => l - (intOf i).toNat)
  case atStart => exact ⟨0, by omega, rfl, has_zero f v, rfl⟩
  case round =>
    obtain ⟨k, hk, rfl, hs, rfl⟩ := hrel
    have HS : Hid (has k f v = false) := hs
    clear hs
    by_cases hlt : k < l
    · obtain ⟨b, o, rfl, d1⟩ := HA.out.at' (Below.refl _ _) hlt
      have HT : Hid (has (k + 1) f v = (has k f v || f k == v)) := has_succ k f v
      have HY : Hid (f k = v → has l f v = true) := fun h => has_iff.2 ⟨k, hlt, h⟩
      have hk1 : (k : Int) < (l : Int) := by omega
      generalize f k = y at *
      by_cases hy : v = y
      · go_wp2
        go_ret
        exact ⟨k, rfl, by rw [HY.out hy.symm]; simp, rfl⟩
      · have hy' : ¬ y = v := fun e => hy e.symm
        go_wp2
        go_roundw
        case rel => exact ⟨k + 1, by omega, by go_num, by rw [HT.out, HS.out]; simp [hy'], by first | rfl | trivial⟩
        case measure => simp [intOf]; omega
    · obtain rfl : k = l := by omega
      go_wp2
      go_ret
      exact ⟨_, rfl, by rw [HS.out]; rfl, rfl⟩
theorem Contains_any {w : World} {q : Option Addr} {l m : Nat} {f : Nat → Int} (hl : l * 8 ≤ 140737488351232) (hA : Arg w q l f) (v : Int) :
    Calls Tryz.prog 51 #[.slice q l m, .int .i64 v] w fun e w' => e = .returned (.bool (has l f v)) ∧ w' = w := by
  have C : Hid (Calls Tryz.prog 75 #[.slice q l m, .int .i64 v] w fun e w' => ∃ k : Int, e = .returned (.int .i64 k) ∧ decide (0 ≤ k) = has l f v ∧ w' = w) := Index_any hl hA v
  clear hA
  go_enter Tryz.func51, Tryz.ntmps51
  go_wp2_with fail
  refine C.out.mono ?_
  rintro _ w1 ⟨k, rfl, hk, rfl⟩
  clear C
  go_wp2
  go_ret
  exact ⟨ret_bool (by rw [← hk]), rfl⟩
end Go.Proofs.YtcmgjinjfaialaaGreat
