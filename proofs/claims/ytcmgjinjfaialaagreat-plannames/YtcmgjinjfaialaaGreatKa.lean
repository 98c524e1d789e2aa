/- The statements' awake; no condition. -/
import Derived.Test.YtcmgjinjfaialaaGreatUu
import Derived.Test.YtcmgjinjfaialaaGreatSl
import Derived.Laws.IdiomCopy
namespace Go.Proofs.YtcmgjinjfaialaaGreat
open Go.ChangeShapes Go.WideShapes Go.ChangeAt Go.RowKit
set_option linter.unusedVariables false

theorem eqF (e t e' t' : Int) (W : World) : (binOp .eql 34 (.agg #[.int .i64 e, .int .i64 t]) (.agg #[.int .i64 e', .int .i64 t'])).run Tryz.prog W = .ok (.bool (e == e' && t == t')) W := by
  simp only [run_eql_struct]
  rw [run_equalIn_agg W 9999 34 _ _ (by kernel_rfl) Tryz.stoodInHeld34]
  simp [go_sem, Program.fieldsOf, Tryz.underlying34]
  by_cases h1 : e = e'
  · by_cases h2 : t = t'
    · simp [h1, h2]
    · simp [h1, h2]
  · simp [h1]
/-- A configuration whose pad is another one. -/
def pad (c : Cf) (n : Int) : Cf := { c with pd := n }
theorem Sev.pad {w : World} {g : Nat} {a : Ad} {c : Cf} (h : Sev w g a c) (L : List Value) (hb : Blk w g 28 L) (n : Int) (h13 : 13 < L.length) : Sev (w.setCell ⟨g, 13, none⟩ (.int .u64 n)) g a (pad c n) := by
  have hB := hb.set 13 (.int .u64 n)
  have hc : ∀ i, i ≠ 13 → (w.setCell ⟨g, 13, none⟩ (.int .u64 n)).cell? ⟨g, i, none⟩ = w.cell? ⟨g, i, none⟩ := fun i hi => by rw [hB.cell, hb.cell, List.getElem?_set_ne (by omega)]
  have h2 : (w.setCell ⟨g, 13, none⟩ (.int .u64 n)).cell? ⟨g, 13, none⟩ = some (.int .u64 n) := by rw [hB.cell, List.getElem?_set_self h13]
  exact ⟨hB.lt, (hc 0 (by omega)).trans h.c0, (hc 1 (by omega)).trans h.c1, (hc 2 (by omega)).trans h.c2, (hc 3 (by omega)).trans h.c3, (hc 4 (by omega)).trans h.c4, (hc 5 (by omega)).trans h.c5, (hc 6 (by omega)).trans h.c6, (hc 7 (by omega)).trans h.c7, (hc 8 (by omega)).trans h.c8, (hc 9 (by omega)).trans h.c9, (hc 10 (by omega)).trans h.c10, (hc 11 (by omega)).trans h.c11, (hc 12 (by omega)).trans h.c12, h2, (hc 14 (by omega)).trans h.c14, (hc 15 (by omega)).trans h.c15, (hc 16 (by omega)).trans h.c16⟩
theorem Cin.pad {w : World} {a : Ad} {c : Cf} (h : Cin w a c) (n : Int) : Cin w a (pad c n) := ⟨h.t, h.p, h.tl, h.pl, h.cl, h.tz, h.pz, h.cz, h.ple, h.C0, h.C1, h.S0, h.S1⟩
theorem Fs.first {w : World} {base : Nat} {v : Value} {e t : Int} (h : Fs w base v [(e, t)]) : ∃ g cap, v = .slice (some ⟨g, 0, none⟩) 1 cap ∧ w.cell? ⟨g, 0, none⟩ = some (.int .i64 e) ∧ w.cell? ⟨g, 1, none⟩ = some (.int .i64 t) := by
  rcases h with ⟨h0, ⟨rfl, h⟩ | ⟨g, cap, cur, rfl, h1, h2, h3, h4, h5, h6⟩⟩
  · cases h
  · refine ⟨g, cap, rfl, ?_, ?_⟩
    · rw [cell_of_row w g 0 _ 34 (0, 0) h2, ← Array.getElem?_toList, ← List.getElem?_take_of_lt (show 0 < 1 * 2 by omega)]
      have h7 : cur.toList.take (1 * 2) = [.int .i64 e, .int .i64 t] := h6
      rw [h7]; rfl
    · rw [cell_of_row w g 1 _ 34 (0, 0) h2, ← Array.getElem?_toList, ← List.getElem?_take_of_lt (show 1 < 1 * 2 by omega)]
      have h7 : cur.toList.take (1 * 2) = [.int .i64 e, .int .i64 t] := h6
      rw [h7]; rfl
theorem Cb.of_new {w0 w : World} {a : Ad} {c : Cf} (k : Below w0.heap.size w0 w) (h : Cin w a c) : Cb w0 (w.alloc (.cells #[.int .i64 c.F, .int .i64 c.C, .int .i64 c.W, .int .i64 c.S, .int .i64 c.V, .int .i64 c.T, .int .u64 c.k.l1, .int .u64 c.k.llc, .int .u64 c.k.mi, .int .u64 c.k.fa, .int .u64 c.k.st, .int .u64 c.k.di, .int .u64 c.sl, .int .u64 c.pd, .int .u64 c.ft, .slice a.ta c.tn a.tc, .slice a.pa c.pn a.pc] 28)) w.heap.size a c :=
  ⟨k.alloc k.size _, sev_new w a c, h.below (below_new _ _)⟩
/-- The chapter's configuration in a box beside what was there. -/
theorem us_total {w : World} {a : Ad} {c : Cf} (hc : c = us) (h : Cin w a c) : Calls Tryz.prog 26 #[.agg #[.int .i64 c.F, .int .i64 c.C, .int .i64 c.W, .int .i64 c.S, .int .i64 c.V, .int .i64 c.T, .int .u64 c.k.l1, .int .u64 c.k.llc, .int .u64 c.k.mi, .int .u64 c.k.fa, .int .u64 c.k.st, .int .u64 c.k.di, .int .u64 c.sl, .int .u64 c.pd, .int .u64 c.ft, .slice a.ta c.tn a.tc, .slice a.pa c.pn a.pc], .int .i64 0] w (Ti 32 0 w) := by
  subst hc
  have := Total_ok h 0 us_may (by decide)
  rwa [show ((us.pf 0).n : Int) * (us.F / us.C) = 32 from by decide] at this
theorem us_limit {w : World} {a : Ad} {c : Cf} (hc : c = us) (h : Cin w a c) : Calls Tryz.prog 27 #[.agg #[.int .i64 c.F, .int .i64 c.C, .int .i64 c.W, .int .i64 c.S, .int .i64 c.V, .int .i64 c.T, .int .u64 c.k.l1, .int .u64 c.k.llc, .int .u64 c.k.mi, .int .u64 c.k.fa, .int .u64 c.k.st, .int .u64 c.k.di, .int .u64 c.sl, .int .u64 c.pd, .int .u64 c.ft, .slice a.ta c.tn a.tc, .slice a.pa c.pn a.pc], .int .i64 1] w (Ti 4 0 w) := by
  subst hc
  have := Limit_ok h 1 us_may (by decide)
  rwa [show lim (us.pf 1) = 4 from by decide] at this
theorem us_check {w : World} {a : Ad} {c : Cf} (hc : c = us11) (h : Cin w a c) : Calls Tryz.prog 5 #[.agg #[.int .i64 c.F, .int .i64 c.C, .int .i64 c.W, .int .i64 c.S, .int .i64 c.V, .int .i64 c.T, .int .u64 c.k.l1, .int .u64 c.k.llc, .int .u64 c.k.mi, .int .u64 c.k.fa, .int .u64 c.k.st, .int .u64 c.k.di, .int .u64 c.sl, .int .u64 c.pd, .int .u64 c.ft, .slice a.ta c.tn a.tc, .slice a.pa c.pn a.pc]] w fun x w' => ∃ v, x = .returned v ∧ Fs w' w.heap.size v [(113, 2)] ∧ Below w.heap.size w w' := by
  subst hc
  have := Check_all h
  unfold Chk at this
  rwa [us11_chk] at this
theorem us_ok {w : World} {a : Ad} {c : Cf} (hc : c = us) (h : Cin w a c) : Calls Tryz.prog 20 #[.agg #[.int .i64 c.F, .int .i64 c.C, .int .i64 c.W, .int .i64 c.S, .int .i64 c.V, .int .i64 c.T, .int .u64 c.k.l1, .int .u64 c.k.llc, .int .u64 c.k.mi, .int .u64 c.k.fa, .int .u64 c.k.st, .int .u64 c.k.di, .int .u64 c.sl, .int .u64 c.pd, .int .u64 c.ft, .slice a.ta c.tn a.tc, .slice a.pa c.pn a.pc]] w (One (.bool true) w) := by
  subst hc
  have := May_all h
  rwa [us_may] at this
set_option maxRecDepth 100000 in
set_option maxHeartbeats 4000000 in
theorem awake_any (w : World) : Calls Tryz.prog 8 #[] w (One (.bool true) w) := by
  have U : Hid (∀ w, Calls Tryz.prog 9 #[] w (Usd w)) := fun w => usual_any w
  go_enter Tryz.func8, Tryz.ntmps8
  go_wp2_with fail
  refine (U.out _).mono ?_
  rintro _ w1 ⟨n1, n2, n3, n4, a, c, rfl, hc, ha, hU, hn, k1⟩
  have HC : Hid (c = us) := hc
  have h1 : Cin w1 a c := by rw [hc, ha]; exact hU.cin
  have HB0 : Hid (Cb w (w1.alloc (.cells #[.int .i64 c.F, .int .i64 c.C, .int .i64 c.W, .int .i64 c.S, .int .i64 c.V, .int .i64 c.T, .int .u64 c.k.l1, .int .u64 c.k.llc, .int .u64 c.k.mi, .int .u64 c.k.fa, .int .u64 c.k.st, .int .u64 c.k.di, .int .u64 c.sl, .int .u64 c.pd, .int .u64 c.ft, .slice a.ta c.tn a.tc, .slice a.pa c.pn a.pc] 28)) w1.heap.size a c) := Cb.of_new k1 h1
  have st := stK w1 a c
  clear hc ha hU hn k1 h1 n1 n2 n3 n4
  go_upto_region 2 with (refine wpList_store_at rfl 28 (.tmp 1) (.tmp 8) rfl _ _ rfl rfl st ?_)
  generalize w1.alloc (.cells #[.int .i64 c.F, .int .i64 c.C, .int .i64 c.W, .int .i64 c.S, .int .i64 c.V, .int .i64 c.T, .int .u64 c.k.l1, .int .u64 c.k.llc, .int .u64 c.k.mi, .int .u64 c.k.fa, .int .u64 c.k.st, .int .u64 c.k.di, .int .u64 c.sl, .int .u64 c.pd, .int .u64 c.ft, .slice a.ta c.tn a.tc, .slice a.pa c.pn a.pc] 28) = w2 at *
  generalize w1.heap.size = g at *
  clear st
  have hld := HB0.out.bx.ld
  go_wp2_with (refine wpList_load_at rfl 28 (.tmp 1) rfl _ _ rfl hld ?_)
  refine (us_total HC.out HB0.out.ci).mono ?_
  rintro _ w3 ⟨rfl, k3⟩
  have HB1 : Hid (Cb w w3 g a c) := HB0.out.below k3
  clear HB0 k3 hld
  have hld := HB1.out.bx.ld
  go_wp2_with (refine wpList_load_at rfl 28 (.tmp 1) rfl _ _ rfl hld ?_)
  refine (us_limit HC.out HB1.out.ci).mono ?_
  rintro _ w4 ⟨rfl, k4⟩
  have HB2 : Hid (Cb w w4 g a c) := HB1.out.below k4
  clear HB1 k4 hld
  go_wp2_with fail
  refine (U.out _).mono ?_
  rintro _ w5 ⟨n1, n2, n3, n4, a', c', rfl, hc, ha, hU, hn, k5⟩
  have h5 : Cin w5 a' c' := by rw [hc, ha]; exact hU.cin
  have HC2 : Hid (pad c' 11 = us11) := by unfold Hid; rw [hc]; rfl
  have HB3 : Hid (Cb w (w5.alloc (.cells #[.int .i64 c'.F, .int .i64 c'.C, .int .i64 c'.W, .int .i64 c'.S, .int .i64 c'.V, .int .i64 c'.T, .int .u64 c'.k.l1, .int .u64 c'.k.llc, .int .u64 c'.k.mi, .int .u64 c'.k.fa, .int .u64 c'.k.st, .int .u64 c'.k.di, .int .u64 c'.sl, .int .u64 c'.pd, .int .u64 c'.ft, .slice a'.ta c'.tn a'.tc, .slice a'.pa c'.pn a'.pc] 28)) g a c) := HB2.out.below (k5.alloc k5.size _)
  have HD3 : Hid (Cb w4 (w5.alloc (.cells #[.int .i64 c'.F, .int .i64 c'.C, .int .i64 c'.W, .int .i64 c'.S, .int .i64 c'.V, .int .i64 c'.T, .int .u64 c'.k.l1, .int .u64 c'.k.llc, .int .u64 c'.k.mi, .int .u64 c'.k.fa, .int .u64 c'.k.st, .int .u64 c'.k.di, .int .u64 c'.sl, .int .u64 c'.pd, .int .u64 c'.ft, .slice a'.ta c'.tn a'.tc, .slice a'.pa c'.pn a'.pc] 28)) w5.heap.size a' c') := Cb.of_new k5 h5
  have HK3 : Hid (∃ L, Blk (w5.alloc (.cells #[.int .i64 c'.F, .int .i64 c'.C, .int .i64 c'.W, .int .i64 c'.S, .int .i64 c'.V, .int .i64 c'.T, .int .u64 c'.k.l1, .int .u64 c'.k.llc, .int .u64 c'.k.mi, .int .u64 c'.k.fa, .int .u64 c'.k.st, .int .u64 c'.k.di, .int .u64 c'.sl, .int .u64 c'.pd, .int .u64 c'.ft, .slice a'.ta c'.tn a'.tc, .slice a'.pa c'.pn a'.pc] 28)) w5.heap.size 28 L ∧ 13 < L.length) := ⟨_, blk_new w5 _ 28, by simp⟩
  have HG : Hid (∀ v, Cin ((w5.alloc (.cells #[.int .i64 c'.F, .int .i64 c'.C, .int .i64 c'.W, .int .i64 c'.S, .int .i64 c'.V, .int .i64 c'.T, .int .u64 c'.k.l1, .int .u64 c'.k.llc, .int .u64 c'.k.mi, .int .u64 c'.k.fa, .int .u64 c'.k.st, .int .u64 c'.k.di, .int .u64 c'.sl, .int .u64 c'.pd, .int .u64 c'.ft, .slice a'.ta c'.tn a'.tc, .slice a'.pa c'.pn a'.pc] 28)).setCell ⟨w5.heap.size, 13, none⟩ v) a' (pad c' 11) ∧ Cb w ((w5.alloc (.cells #[.int .i64 c'.F, .int .i64 c'.C, .int .i64 c'.W, .int .i64 c'.S, .int .i64 c'.V, .int .i64 c'.T, .int .u64 c'.k.l1, .int .u64 c'.k.llc, .int .u64 c'.k.mi, .int .u64 c'.k.fa, .int .u64 c'.k.st, .int .u64 c'.k.di, .int .u64 c'.sl, .int .u64 c'.pd, .int .u64 c'.ft, .slice a'.ta c'.tn a'.tc, .slice a'.pa c'.pn a'.pc] 28)).setCell ⟨w5.heap.size, 13, none⟩ v) g a c) := fun v => by
    have q : Below w5.heap.size w5 ((w5.alloc (.cells #[.int .i64 c'.F, .int .i64 c'.C, .int .i64 c'.W, .int .i64 c'.S, .int .i64 c'.V, .int .i64 c'.T, .int .u64 c'.k.l1, .int .u64 c'.k.llc, .int .u64 c'.k.mi, .int .u64 c'.k.fa, .int .u64 c'.k.st, .int .u64 c'.k.di, .int .u64 c'.sl, .int .u64 c'.pd, .int .u64 c'.ft, .slice a'.ta c'.tn a'.tc, .slice a'.pa c'.pn a'.pc] 28)).setCell ⟨w5.heap.size, 13, none⟩ v) := (below_new w5 _).trans (below_setCell (Nat.le_refl _) (by simp) 13 v)
    exact ⟨(h5.below q).pad 11, (HB2.out.below k5).below q⟩
  have st := stK w5 a' c'
  clear hc ha hU hn k5 h5 n1 n2 n3 n4 HB2 U
  go_upto_region 5 with (refine wpList_store_at rfl 28 (.tmp 6) (.tmp 19) rfl _ _ rfl rfl st ?_)
  generalize w5.alloc (.cells #[.int .i64 c'.F, .int .i64 c'.C, .int .i64 c'.W, .int .i64 c'.S, .int .i64 c'.V, .int .i64 c'.T, .int .u64 c'.k.l1, .int .u64 c'.k.llc, .int .u64 c'.k.mi, .int .u64 c'.k.fa, .int .u64 c'.k.st, .int .u64 c'.k.di, .int .u64 c'.sl, .int .u64 c'.pd, .int .u64 c'.ft, .slice a'.ta c'.tn a'.tc, .slice a'.pa c'.pn a'.pc] 28) = w6 at *
  generalize w5.heap.size = g' at *
  clear st
  obtain ⟨L, hL, h13⟩ := HK3.out
  have f13 := hL.frozen 13
  have c13 := HD3.out.bx.c13
  go_upto_region 6 with fail
  have HSv : Hid (Sev (w6.setCell ⟨g', 13, none⟩ (.int .u64 11)) g' a' (pad c' 11)) := HD3.out.bx.pad L hL 11 h13
  have HCi : Hid (Cin (w6.setCell ⟨g', 13, none⟩ (.int .u64 11)) a' (pad c' 11)) := (HG.out _).1
  have HB4 : Hid (Cb w (w6.setCell ⟨g', 13, none⟩ (.int .u64 11)) g a c) := (HG.out _).2
  clear HG HD3 HB3 HK3 hL h13 f13 c13 L
  generalize w6.setCell ⟨g', 13, none⟩ (.int .u64 11) = w7 at *
  generalize pad c' 11 = d at *
  have hld := HSv.out.ld
  go_wp2_with (refine wpList_load_at rfl 28 (.tmp 6) rfl _ _ rfl hld ?_)
  refine (us_check HC2.out HCi.out).mono ?_
  rintro _ w8 ⟨v, rfl, hf, k8⟩
  obtain ⟨fg, fcap, rfl, f0, f1⟩ := hf.first
  have HB5 : Hid (Cb w w8 g a c) := HB4.out.below k8
  have HF : Hid (w8.cell? ⟨fg, 0, none⟩ = some (.int .i64 113) ∧ w8.cell? ⟨fg, 1, none⟩ = some (.int .i64 2) ∧ fg < w8.heap.size) := ⟨f0, f1, World.block_lt_of_cell? w8 _ f0⟩
  clear hf f0 f1 k8 HB4 HSv HCi HC2 hld
  have hld := HB5.out.bx.ld
  go_wp2_with (refine wpList_load_at rfl 28 (.tmp 1) rfl _ _ rfl hld ?_)
  refine (us_ok HC.out HB5.out.ci).mono ?_
  rintro _ w9 ⟨rfl, k9⟩
  have f0 : w9.cell? ⟨fg, 0, none⟩ = some (.int .i64 113) := (k9.cell HF.out.2.2).trans HF.out.1
  have f1 : w9.cell? ⟨fg, 1, none⟩ = some (.int .i64 2) := (k9.cell HF.out.2.2).trans HF.out.2.1
  have FIN : Hid (Below w.heap.size w w9) := HB5.out.be.trans (k9.mono HB5.out.be.size)
  have hq := eqF 113 2 113 2
  clear HF k9 HB5 hld HC
  go_wp2
  go_ret
  exact ⟨rfl, FIN.out⟩
end Go.Proofs.YtcmgjinjfaialaaGreat
