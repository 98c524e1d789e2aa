/- PlanTells' walk; no condition but that the configuration lies in memory. -/
import Derived.Test.YtcmgjinjfaialaaGreatTe
namespace Go.Proofs.YtcmgjinjfaialaaGreat
open Go.ChangeShapes Go.WideShapes Go.ChangeAt Go.RowKit
set_option linter.unusedVariables false

set_option maxRecDepth 100000 in
set_option maxHeartbeats 8000000 in
theorem PlanTells_any {w : World} {a : Ad} {c : Cf} (hc : Cin w a c) (p x : Int) : Calls Tryz.prog 7 #[.agg #[.int .i64 c.F, .int .i64 c.C, .int .i64 c.W, .int .i64 c.S, .int .i64 c.V, .int .i64 c.T, .int .u64 c.k.l1, .int .u64 c.k.llc, .int .u64 c.k.mi, .int .u64 c.k.fa, .int .u64 c.k.st, .int .u64 c.k.di, .int .u64 c.sl, .int .u64 c.pd, .int .u64 c.ft, .slice a.ta c.tn a.tc, .slice a.pa c.pn a.pc], .int .i64 p, .int .i64 x] w (One (.bool true) w) := by
  have HB0 := cb_new hc
  obtain ⟨s0, s1, s2, s3, se, tv, te, lv, le, bv, be, zv, ze, hT⟩ := tells a c p
  have HT : Hid (Tel a c p s0 s1 s2 s3 se tv te lv le bv be zv ze) := hT
  have CP : Hid (∀ w', Cin w' a c → Calls Tryz.prog 17 #[.agg #[.int .i64 c.F, .int .i64 c.C, .int .i64 c.W, .int .i64 c.S, .int .i64 c.V, .int .i64 c.T, .int .u64 c.k.l1, .int .u64 c.k.llc, .int .u64 c.k.mi, .int .u64 c.k.fa, .int .u64 c.k.st, .int .u64 c.k.di, .int .u64 c.sl, .int .u64 c.pd, .int .u64 c.ft, .slice a.ta c.tn a.tc, .slice a.pa c.pn a.pc]] w' fun e w'' => ∃ a', e = .returned (.agg #[.int .i64 c.F, .int .i64 c.C, .int .i64 c.W, .int .i64 c.S, .int .i64 c.V, .int .i64 c.T, .int .u64 c.k.l1, .int .u64 c.k.llc, .int .u64 c.k.mi, .int .u64 c.k.fa, .int .u64 c.k.st, .int .u64 c.k.di, .int .u64 c.sl, .int .u64 c.pd, .int .u64 c.ft, .slice a'.ta c.tn a'.tc, .slice a'.pa c.pn a'.pc]) ∧ Cpd w' c w'' a') := fun w' h => Copy_any h
  obtain ⟨o1, o2, o3, O1, O2⟩ : ∃ o1 o2 o3, Hid (∀ w' b, Cin w' b c → Calls Tryz.prog 22 #[.agg #[.int .i64 c.F, .int .i64 c.C, .int .i64 c.W, .int .i64 c.S, .int .i64 c.V, .int .i64 c.T, .int .u64 c.k.l1, .int .u64 c.k.llc, .int .u64 c.k.mi, .int .u64 c.k.fa, .int .u64 c.k.st, .int .u64 c.k.di, .int .u64 c.sl, .int .u64 c.pd, .int .u64 c.ft, .slice b.ta c.tn b.tc, .slice b.pa c.pn b.pc], .int .i64 x] w' (One (.tuple #[.int .i64 o1, .bool o2, .int .i64 o3]) w')) ∧ Hid (∀ w', Cin w' a c → Calls Tryz.prog 23 #[.agg #[.int .i64 c.F, .int .i64 c.C, .int .i64 c.W, .int .i64 c.S, .int .i64 c.V, .int .i64 c.T, .int .u64 c.k.l1, .int .u64 c.k.llc, .int .u64 c.k.mi, .int .u64 c.k.fa, .int .u64 c.k.st, .int .u64 c.k.di, .int .u64 c.sl, .int .u64 c.pd, .int .u64 c.ft, .slice a.ta c.tn a.tc, .slice a.pa c.pn a.pc], .int .i64 x] w' (One (.tuple #[.int .i64 o1, .bool o2, .int .i64 o3]) w')) := ⟨_, _, _, fun w' b h => Owner_any h x, fun w' h => rOwner_any h x⟩
  have C4 : Hid (∀ w' b, Cin w' b c → Cin w' a c → Calls Tryz.prog 21 #[.agg #[.int .i64 c.F, .int .i64 c.C, .int .i64 c.W, .int .i64 c.S, .int .i64 c.V, .int .i64 c.T, .int .u64 c.k.l1, .int .u64 c.k.llc, .int .u64 c.k.mi, .int .u64 c.k.fa, .int .u64 c.k.st, .int .u64 c.k.di, .int .u64 c.sl, .int .u64 c.pd, .int .u64 c.ft, .slice b.ta c.tn b.tc, .slice b.pa c.pn b.pc], .agg #[.int .i64 c.F, .int .i64 c.C, .int .i64 c.W, .int .i64 c.S, .int .i64 c.V, .int .i64 c.T, .int .u64 c.k.l1, .int .u64 c.k.llc, .int .u64 c.k.mi, .int .u64 c.k.fa, .int .u64 c.k.st, .int .u64 c.k.di, .int .u64 c.sl, .int .u64 c.pd, .int .u64 c.ft, .slice a.ta c.tn a.tc, .slice a.pa c.pn a.pc]] w' (One (.bool true) w')) := fun w' b h k => Same_any h k
  have hld := HB0.bx.ld
  clear hc hT
  go_enter Tryz.func7, Tryz.ntmps7
  go_upto_region 1 with fail
  obtain ⟨W, hW, HB⟩ : ∃ W, (w.alloc (.cells #[.int .i64 c.F, .int .i64 c.C, .int .i64 c.W, .int .i64 c.S, .int .i64 c.V, .int .i64 c.T, .int .u64 c.k.l1, .int .u64 c.k.llc, .int .u64 c.k.mi, .int .u64 c.k.fa, .int .u64 c.k.st, .int .u64 c.k.di, .int .u64 c.sl, .int .u64 c.pd, .int .u64 c.ft, .slice a.ta c.tn a.tc, .slice a.pa c.pn a.pc] 28)) = W ∧ Hid (Cb w W w.heap.size a c) := ⟨_, rfl, HB0⟩
  rw [hW] at hld
  rw [hW]
  clear hW HB0
  generalize hg1 : w.heap.size = g1 at *
  go_wp2_with (refine wpList_load_at rfl 28 (.tmp 3) rfl _ _ rfl hld ?_)
  refine (CP.out _ HB.out.ci).mono ?_
  rintro _ w1 ⟨b, rfl, hb⟩
  have HP0 : Hid (Pk w (w1.alloc (.cells #[.int .i64 c.F, .int .i64 c.C, .int .i64 c.W, .int .i64 c.S, .int .i64 c.V, .int .i64 c.T, .int .u64 c.k.l1, .int .u64 c.k.llc, .int .u64 c.k.mi, .int .u64 c.k.fa, .int .u64 c.k.st, .int .u64 c.k.di, .int .u64 c.sl, .int .u64 c.pd, .int .u64 c.ft, .slice b.ta c.tn b.tc, .slice b.pa c.pn b.pc] 28)) g1 w1.heap.size a b c) := by
    have k1 := hb.be.trans ((below_new w1 (.cells #[.int .i64 c.F, .int .i64 c.C, .int .i64 c.W, .int .i64 c.S, .int .i64 c.V, .int .i64 c.T, .int .u64 c.k.l1, .int .u64 c.k.llc, .int .u64 c.k.mi, .int .u64 c.k.fa, .int .u64 c.k.st, .int .u64 c.k.di, .int .u64 c.sl, .int .u64 c.pd, .int .u64 c.ft, .slice b.ta c.tn b.tc, .slice b.pa c.pn b.pc] 28)).mono hb.be.size)
    have q := HB.out.below k1
    exact ⟨q.be, q.bx, sev_new w1 b c, q.ci, hb.ci.below (below_new _ _)⟩
  have st := stK w1 b c
  clear hb HB hld CP
  go_upto_region 2 with (refine wpList_store_at rfl 28 (.tmp 7) (.tmp 21) rfl _ _ rfl rfl st ?_)
  generalize w1.alloc (.cells #[.int .i64 c.F, .int .i64 c.C, .int .i64 c.W, .int .i64 c.S, .int .i64 c.V, .int .i64 c.T, .int .u64 c.k.l1, .int .u64 c.k.llc, .int .u64 c.k.mi, .int .u64 c.k.fa, .int .u64 c.k.st, .int .u64 c.k.di, .int .u64 c.sl, .int .u64 c.pd, .int .u64 c.ft, .slice b.ta c.tn b.tc, .slice b.pa c.pn b.pc] 28) = wb at *
  generalize w1.heap.size = g3 at *
  clear st
  have HP : Hid (∀ w', Below wb.heap.size wb w' → Pk w w' g1 g3 a b c) := fun w' h => HP0.out.below h
  have hld := HP0.out.x3.ld
  go_wp2_with (refine wpList_load_at rfl 28 (.tmp 7) rfl _ _ rfl hld ?_)
  refine (O1.out _ _ HP0.out.ib).mono ?_
  rintro _ w2 ⟨rfl, k2⟩
  clear hld HP0 O1
  have hld := (HP.out _ k2).x1.ld
  go_wp2_with (refine wpList_load_at rfl 28 (.tmp 3) rfl _ _ rfl hld ?_)
  refine (O2.out _ (HP.out _ k2).ia).mono ?_
  rintro _ w3 ⟨rfl, k3⟩
  have K3 : Hid (Below wb.heap.size wb w3) := k2.trans (k3.mono k2.size)
  clear k2 k3 hld O2
  have hld := (HP.out _ K3.out).x3.ld
  go_wp2_with (refine wpList_load_at rfl 28 (.tmp 7) rfl _ _ rfl hld ?_)
  refine (HT.out.sh _ _ (HP.out _ K3.out).ib).mono ?_
  rintro _ w4 ⟨rfl, k4⟩
  have K4 : Hid (Below wb.heap.size wb w4) := K3.out.trans (k4.mono K3.out.size)
  clear K3 k4 hld
  go_upto_region 7 with fail
  have K5 : Hid (Below wb.heap.size wb (w4.alloc (.cells #[.int .i64 s0, .int .i64 s1, .int .i64 s2, .int .i64 s3] 53))) := K4.out.alloc K4.out.size _
  have B14 : Hid (Blk (w4.alloc (.cells #[.int .i64 s0, .int .i64 s1, .int .i64 s2, .int .i64 s3] 53)) w4.heap.size 53 [.int .i64 s0, .int .i64 s1, .int .i64 s2, .int .i64 s3]) := blk_new w4 _ _
  generalize w4.alloc (.cells #[.int .i64 s0, .int .i64 s1, .int .i64 s2, .int .i64 s3] 53) = w5 at *
  generalize w4.heap.size = g14 at *
  clear K4
  have hld := (HP.out _ K5.out).x1.ld
  go_wp2_with (refine wpList_load_at rfl 28 (.tmp 3) rfl _ _ rfl hld ?_)
  refine (HT.out.rsh _ (HP.out _ K5.out).ia).mono ?_
  rintro _ w6 ⟨rfl, k6⟩
  have K6 : Hid (Below wb.heap.size wb w6) := K5.out.trans (k6.mono K5.out.size)
  have B6 : Hid (Blk w6 g14 53 [.int .i64 s0, .int .i64 s1, .int .i64 s2, .int .i64 s3]) := B14.out.below k6
  clear K5 k6 hld B14
  go_upto_region 8 with fail
  have K7 : Hid (Below wb.heap.size wb (w6.alloc (.cells #[.int .i64 s0, .int .i64 s1, .int .i64 s2, .int .i64 s3] 53))) := K6.out.alloc K6.out.size _
  have B7 : Hid (Blk (w6.alloc (.cells #[.int .i64 s0, .int .i64 s1, .int .i64 s2, .int .i64 s3] 53)) g14 53 [.int .i64 s0, .int .i64 s1, .int .i64 s2, .int .i64 s3]) := B6.out.alloc _
  have B8 : Hid (Blk (w6.alloc (.cells #[.int .i64 s0, .int .i64 s1, .int .i64 s2, .int .i64 s3] 53)) w6.heap.size 53 [.int .i64 s0, .int .i64 s1, .int .i64 s2, .int .i64 s3]) := blk_new w6 _ _
  generalize w6.alloc (.cells #[.int .i64 s0, .int .i64 s1, .int .i64 s2, .int .i64 s3] 53) = w7 at *
  generalize w6.heap.size = g15 at *
  clear K6 B6
  have e0 := B7.out.cell 0
  have e1 := B7.out.cell 1
  have e2 := B7.out.cell 2
  have e3 := B7.out.cell 3
  have f0 := B8.out.cell 0
  have f1 := B8.out.cell 1
  have f2 := B8.out.cell 2
  have f3 := B8.out.cell 3
  simp at e0 e1 e2 e3 f0 f1 f2 f3
  have hq := neS s0 s1 s2 s3
  go_upto_region 10 with fail
  clear e0 e1 e2 e3 f0 f1 f2 f3 hq B7 B8
  go_upto_region 13 with fail
  obtain ⟨WA, hWA, HA0⟩ : ∃ WA, ((((w7.alloc (.cells #[.int .i64 0, .int .i64 0, .int .i64 0, .int .i64 0] 56)).alloc (.cells #[.int .i64 0, .int .i64 0, .int .i64 0, .int .i64 0] 56)).alloc (.cells #[.int .i64 0, .int .i64 0, .int .i64 0, .int .i64 0] 57)).alloc (.cells #[.int .i64 0, .int .i64 0, .int .i64 0, .int .i64 0] 57)) = WA ∧ Hid (Arr wb WA w7.heap.size (w7.heap.size + 1) (w7.heap.size + 1 + 1) (w7.heap.size + 1 + 1 + 1) [.int .i64 0, .int .i64 0, .int .i64 0, .int .i64 0] [.int .i64 0, .int .i64 0, .int .i64 0, .int .i64 0] [.int .i64 0, .int .i64 0, .int .i64 0, .int .i64 0] [.int .i64 0, .int .i64 0, .int .i64 0, .int .i64 0]) :=
    ⟨_, rfl, ⟨by
      have h1 := K7.out.size
      exact (((K7.out.alloc h1 _).alloc (by simp; omega) _).alloc (by simp; omega) _).alloc (by simp; omega) _, K7.out.size, by omega, by omega, by omega,
      (((blk_new w7 [.int .i64 0, .int .i64 0, .int .i64 0, .int .i64 0] 56).alloc _).alloc _).alloc _, ((blk_at [.int .i64 0, .int .i64 0, .int .i64 0, .int .i64 0] 56 (by simp)).alloc _).alloc _, (blk_at [.int .i64 0, .int .i64 0, .int .i64 0, .int .i64 0] 57 (by simp)).alloc _, blk_at [.int .i64 0, .int .i64 0, .int .i64 0, .int .i64 0] 57 (by simp)⟩⟩
  rw [hWA]
  clear hWA K7
  generalize w7.heap.size + 1 + 1 + 1 = gd at *
  generalize w7.heap.size + 1 + 1 = gc at *
  generalize w7.heap.size + 1 = gb at *
  generalize w7.heap.size = ga at *
  generalize WA = v0 at *
  have hld := (HP.out _ HA0.out.be).x3.ld
  go_wp2_with (refine wpList_load_at rfl 28 (.tmp 7) rfl _ _ rfl hld ?_)
  refine (HT.out.tt _ _ (HP.out _ HA0.out.be).ib).mono ?_
  rintro _ u0 ⟨rfl, kk⟩
  have HN : Hid (Arr wb u0 ga gb gc gd [.int .i64 0, .int .i64 0, .int .i64 0, .int .i64 0] [.int .i64 0, .int .i64 0, .int .i64 0, .int .i64 0] [.int .i64 0, .int .i64 0, .int .i64 0, .int .i64 0] [.int .i64 0, .int .i64 0, .int .i64 0, .int .i64 0]) := HA0.out.below kk
  have c0 : u0.cell? ⟨ga, 0, none⟩ = some (.int .i64 0) := HN.out.a.cell 0
  have f0 := HN.out.a.frozen 0
  have hne : gc ≠ ga := by have := HN.out.ab; have := HN.out.bc; have := HN.out.cd; omega
  have c1 : ∀ v, (u0.setCell ⟨ga, 0, none⟩ v).cell? ⟨gc, 0, none⟩ = some (.int .i64 0) := fun v => (setCell_blk_other HN.out.c hne 0 v).cell 0
  have f1 : ∀ v, (u0.setCell ⟨ga, 0, none⟩ v).frozen? ⟨gc, 0, none⟩ = false := fun v => (setCell_blk_other HN.out.c hne 0 v).frozen 0
  clear hld kk HA0 hne
  go_upto_region 14 with fail
  have HA1 : Hid (Arr wb ((u0.setCell ⟨ga, 0, none⟩ (.int .i64 tv)).setCell ⟨gc, 0, none⟩ (.int .i64 te)) ga gb gc gd [.int .i64 tv, .int .i64 0, .int .i64 0, .int .i64 0] [.int .i64 0, .int .i64 0, .int .i64 0, .int .i64 0] [.int .i64 te, .int .i64 0, .int .i64 0, .int .i64 0] [.int .i64 0, .int .i64 0, .int .i64 0, .int .i64 0]) := HN.out.one 0 _ _
  generalize ((u0.setCell ⟨ga, 0, none⟩ (.int .i64 tv)).setCell ⟨gc, 0, none⟩ (.int .i64 te)) = v1 at *
  clear HN c0 f0 c1 f1
  have hld := (HP.out _ HA1.out.be).x3.ld
  go_wp2_with (refine wpList_load_at rfl 28 (.tmp 7) rfl _ _ rfl hld ?_)
  refine (HT.out.li _ _ (HP.out _ HA1.out.be).ib).mono ?_
  rintro _ u1 ⟨rfl, kk⟩
  have HN : Hid (Arr wb u1 ga gb gc gd [.int .i64 tv, .int .i64 0, .int .i64 0, .int .i64 0] [.int .i64 0, .int .i64 0, .int .i64 0, .int .i64 0] [.int .i64 te, .int .i64 0, .int .i64 0, .int .i64 0] [.int .i64 0, .int .i64 0, .int .i64 0, .int .i64 0]) := HA1.out.below kk
  have c0 : u1.cell? ⟨ga, 1, none⟩ = some (.int .i64 0) := HN.out.a.cell 1
  have f0 := HN.out.a.frozen 1
  have hne : gc ≠ ga := by have := HN.out.ab; have := HN.out.bc; have := HN.out.cd; omega
  have c1 : ∀ v, (u1.setCell ⟨ga, 1, none⟩ v).cell? ⟨gc, 1, none⟩ = some (.int .i64 0) := fun v => (setCell_blk_other HN.out.c hne 1 v).cell 1
  have f1 : ∀ v, (u1.setCell ⟨ga, 1, none⟩ v).frozen? ⟨gc, 1, none⟩ = false := fun v => (setCell_blk_other HN.out.c hne 1 v).frozen 1
  clear hld kk HA1 hne
  go_upto_region 15 with fail
  have HA2 : Hid (Arr wb ((u1.setCell ⟨ga, 1, none⟩ (.int .i64 lv)).setCell ⟨gc, 1, none⟩ (.int .i64 le)) ga gb gc gd [.int .i64 tv, .int .i64 lv, .int .i64 0, .int .i64 0] [.int .i64 0, .int .i64 0, .int .i64 0, .int .i64 0] [.int .i64 te, .int .i64 le, .int .i64 0, .int .i64 0] [.int .i64 0, .int .i64 0, .int .i64 0, .int .i64 0]) := HN.out.one 1 _ _
  generalize ((u1.setCell ⟨ga, 1, none⟩ (.int .i64 lv)).setCell ⟨gc, 1, none⟩ (.int .i64 le)) = v2 at *
  clear HN c0 f0 c1 f1
  have hld := (HP.out _ HA2.out.be).x3.ld
  go_wp2_with (refine wpList_load_at rfl 28 (.tmp 7) rfl _ _ rfl hld ?_)
  refine (HT.out.ba _ _ (HP.out _ HA2.out.be).ib).mono ?_
  rintro _ u2 ⟨rfl, kk⟩
  have HN : Hid (Arr wb u2 ga gb gc gd [.int .i64 tv, .int .i64 lv, .int .i64 0, .int .i64 0] [.int .i64 0, .int .i64 0, .int .i64 0, .int .i64 0] [.int .i64 te, .int .i64 le, .int .i64 0, .int .i64 0] [.int .i64 0, .int .i64 0, .int .i64 0, .int .i64 0]) := HA2.out.below kk
  have c0 : u2.cell? ⟨ga, 2, none⟩ = some (.int .i64 0) := HN.out.a.cell 2
  have f0 := HN.out.a.frozen 2
  have hne : gc ≠ ga := by have := HN.out.ab; have := HN.out.bc; have := HN.out.cd; omega
  have c1 : ∀ v, (u2.setCell ⟨ga, 2, none⟩ v).cell? ⟨gc, 2, none⟩ = some (.int .i64 0) := fun v => (setCell_blk_other HN.out.c hne 2 v).cell 2
  have f1 : ∀ v, (u2.setCell ⟨ga, 2, none⟩ v).frozen? ⟨gc, 2, none⟩ = false := fun v => (setCell_blk_other HN.out.c hne 2 v).frozen 2
  clear hld kk HA2 hne
  go_upto_region 16 with fail
  have HA3 : Hid (Arr wb ((u2.setCell ⟨ga, 2, none⟩ (.int .i64 bv)).setCell ⟨gc, 2, none⟩ (.int .i64 be)) ga gb gc gd [.int .i64 tv, .int .i64 lv, .int .i64 bv, .int .i64 0] [.int .i64 0, .int .i64 0, .int .i64 0, .int .i64 0] [.int .i64 te, .int .i64 le, .int .i64 be, .int .i64 0] [.int .i64 0, .int .i64 0, .int .i64 0, .int .i64 0]) := HN.out.one 2 _ _
  generalize ((u2.setCell ⟨ga, 2, none⟩ (.int .i64 bv)).setCell ⟨gc, 2, none⟩ (.int .i64 be)) = v3 at *
  clear HN c0 f0 c1 f1
  have hld := (HP.out _ HA3.out.be).x3.ld
  go_wp2_with (refine wpList_load_at rfl 28 (.tmp 7) rfl _ _ rfl hld ?_)
  refine (HT.out.sl _ _ (HP.out _ HA3.out.be).ib).mono ?_
  rintro _ u3 ⟨rfl, kk⟩
  have HN : Hid (Arr wb u3 ga gb gc gd [.int .i64 tv, .int .i64 lv, .int .i64 bv, .int .i64 0] [.int .i64 0, .int .i64 0, .int .i64 0, .int .i64 0] [.int .i64 te, .int .i64 le, .int .i64 be, .int .i64 0] [.int .i64 0, .int .i64 0, .int .i64 0, .int .i64 0]) := HA3.out.below kk
  have c0 : u3.cell? ⟨ga, 3, none⟩ = some (.int .i64 0) := HN.out.a.cell 3
  have f0 := HN.out.a.frozen 3
  have hne : gc ≠ ga := by have := HN.out.ab; have := HN.out.bc; have := HN.out.cd; omega
  have c1 : ∀ v, (u3.setCell ⟨ga, 3, none⟩ v).cell? ⟨gc, 3, none⟩ = some (.int .i64 0) := fun v => (setCell_blk_other HN.out.c hne 3 v).cell 3
  have f1 : ∀ v, (u3.setCell ⟨ga, 3, none⟩ v).frozen? ⟨gc, 3, none⟩ = false := fun v => (setCell_blk_other HN.out.c hne 3 v).frozen 3
  clear hld kk HA3 hne
  go_upto_region 17 with fail
  have HA4 : Hid (Arr wb ((u3.setCell ⟨ga, 3, none⟩ (.int .i64 zv)).setCell ⟨gc, 3, none⟩ (.int .i64 ze)) ga gb gc gd [.int .i64 tv, .int .i64 lv, .int .i64 bv, .int .i64 zv] [.int .i64 0, .int .i64 0, .int .i64 0, .int .i64 0] [.int .i64 te, .int .i64 le, .int .i64 be, .int .i64 ze] [.int .i64 0, .int .i64 0, .int .i64 0, .int .i64 0]) := HN.out.one 3 _ _
  generalize ((u3.setCell ⟨ga, 3, none⟩ (.int .i64 zv)).setCell ⟨gc, 3, none⟩ (.int .i64 ze)) = v4 at *
  clear HN c0 f0 c1 f1
  have hld := (HP.out _ HA4.out.be).x1.ld
  go_wp2_with (refine wpList_load_at rfl 28 (.tmp 3) rfl _ _ rfl hld ?_)
  refine (HT.out.rtt _ (HP.out _ HA4.out.be).ia).mono ?_
  rintro _ u4 ⟨rfl, kk⟩
  have HN : Hid (Arr wb u4 ga gb gc gd [.int .i64 tv, .int .i64 lv, .int .i64 bv, .int .i64 zv] [.int .i64 0, .int .i64 0, .int .i64 0, .int .i64 0] [.int .i64 te, .int .i64 le, .int .i64 be, .int .i64 ze] [.int .i64 0, .int .i64 0, .int .i64 0, .int .i64 0]) := HA4.out.below kk
  have c0 : u4.cell? ⟨gb, 0, none⟩ = some (.int .i64 0) := HN.out.b.cell 0
  have f0 := HN.out.b.frozen 0
  have hne : gd ≠ gb := by have := HN.out.ab; have := HN.out.bc; have := HN.out.cd; omega
  have c1 : ∀ v, (u4.setCell ⟨gb, 0, none⟩ v).cell? ⟨gd, 0, none⟩ = some (.int .i64 0) := fun v => (setCell_blk_other HN.out.d hne 0 v).cell 0
  have f1 : ∀ v, (u4.setCell ⟨gb, 0, none⟩ v).frozen? ⟨gd, 0, none⟩ = false := fun v => (setCell_blk_other HN.out.d hne 0 v).frozen 0
  clear hld kk HA4 hne
  go_upto_region 18 with fail
  have HA5 : Hid (Arr wb ((u4.setCell ⟨gb, 0, none⟩ (.int .i64 tv)).setCell ⟨gd, 0, none⟩ (.int .i64 te)) ga gb gc gd [.int .i64 tv, .int .i64 lv, .int .i64 bv, .int .i64 zv] [.int .i64 tv, .int .i64 0, .int .i64 0, .int .i64 0] [.int .i64 te, .int .i64 le, .int .i64 be, .int .i64 ze] [.int .i64 te, .int .i64 0, .int .i64 0, .int .i64 0]) := HN.out.two 0 _ _
  generalize ((u4.setCell ⟨gb, 0, none⟩ (.int .i64 tv)).setCell ⟨gd, 0, none⟩ (.int .i64 te)) = v5 at *
  clear HN c0 f0 c1 f1
  have hld := (HP.out _ HA5.out.be).x1.ld
  go_wp2_with (refine wpList_load_at rfl 28 (.tmp 3) rfl _ _ rfl hld ?_)
  refine (HT.out.rli _ (HP.out _ HA5.out.be).ia).mono ?_
  rintro _ u5 ⟨rfl, kk⟩
  have HN : Hid (Arr wb u5 ga gb gc gd [.int .i64 tv, .int .i64 lv, .int .i64 bv, .int .i64 zv] [.int .i64 tv, .int .i64 0, .int .i64 0, .int .i64 0] [.int .i64 te, .int .i64 le, .int .i64 be, .int .i64 ze] [.int .i64 te, .int .i64 0, .int .i64 0, .int .i64 0]) := HA5.out.below kk
  have c0 : u5.cell? ⟨gb, 1, none⟩ = some (.int .i64 0) := HN.out.b.cell 1
  have f0 := HN.out.b.frozen 1
  have hne : gd ≠ gb := by have := HN.out.ab; have := HN.out.bc; have := HN.out.cd; omega
  have c1 : ∀ v, (u5.setCell ⟨gb, 1, none⟩ v).cell? ⟨gd, 1, none⟩ = some (.int .i64 0) := fun v => (setCell_blk_other HN.out.d hne 1 v).cell 1
  have f1 : ∀ v, (u5.setCell ⟨gb, 1, none⟩ v).frozen? ⟨gd, 1, none⟩ = false := fun v => (setCell_blk_other HN.out.d hne 1 v).frozen 1
  clear hld kk HA5 hne
  go_upto_region 19 with fail
  have HA6 : Hid (Arr wb ((u5.setCell ⟨gb, 1, none⟩ (.int .i64 lv)).setCell ⟨gd, 1, none⟩ (.int .i64 le)) ga gb gc gd [.int .i64 tv, .int .i64 lv, .int .i64 bv, .int .i64 zv] [.int .i64 tv, .int .i64 lv, .int .i64 0, .int .i64 0] [.int .i64 te, .int .i64 le, .int .i64 be, .int .i64 ze] [.int .i64 te, .int .i64 le, .int .i64 0, .int .i64 0]) := HN.out.two 1 _ _
  generalize ((u5.setCell ⟨gb, 1, none⟩ (.int .i64 lv)).setCell ⟨gd, 1, none⟩ (.int .i64 le)) = v6 at *
  clear HN c0 f0 c1 f1
  have hld := (HP.out _ HA6.out.be).x1.ld
  go_wp2_with (refine wpList_load_at rfl 28 (.tmp 3) rfl _ _ rfl hld ?_)
  refine (HT.out.rba _ (HP.out _ HA6.out.be).ia).mono ?_
  rintro _ u6 ⟨rfl, kk⟩
  have HN : Hid (Arr wb u6 ga gb gc gd [.int .i64 tv, .int .i64 lv, .int .i64 bv, .int .i64 zv] [.int .i64 tv, .int .i64 lv, .int .i64 0, .int .i64 0] [.int .i64 te, .int .i64 le, .int .i64 be, .int .i64 ze] [.int .i64 te, .int .i64 le, .int .i64 0, .int .i64 0]) := HA6.out.below kk
  have c0 : u6.cell? ⟨gb, 2, none⟩ = some (.int .i64 0) := HN.out.b.cell 2
  have f0 := HN.out.b.frozen 2
  have hne : gd ≠ gb := by have := HN.out.ab; have := HN.out.bc; have := HN.out.cd; omega
  have c1 : ∀ v, (u6.setCell ⟨gb, 2, none⟩ v).cell? ⟨gd, 2, none⟩ = some (.int .i64 0) := fun v => (setCell_blk_other HN.out.d hne 2 v).cell 2
  have f1 : ∀ v, (u6.setCell ⟨gb, 2, none⟩ v).frozen? ⟨gd, 2, none⟩ = false := fun v => (setCell_blk_other HN.out.d hne 2 v).frozen 2
  clear hld kk HA6 hne
  go_upto_region 20 with fail
  have HA7 : Hid (Arr wb ((u6.setCell ⟨gb, 2, none⟩ (.int .i64 bv)).setCell ⟨gd, 2, none⟩ (.int .i64 be)) ga gb gc gd [.int .i64 tv, .int .i64 lv, .int .i64 bv, .int .i64 zv] [.int .i64 tv, .int .i64 lv, .int .i64 bv, .int .i64 0] [.int .i64 te, .int .i64 le, .int .i64 be, .int .i64 ze] [.int .i64 te, .int .i64 le, .int .i64 be, .int .i64 0]) := HN.out.two 2 _ _
  generalize ((u6.setCell ⟨gb, 2, none⟩ (.int .i64 bv)).setCell ⟨gd, 2, none⟩ (.int .i64 be)) = v7 at *
  clear HN c0 f0 c1 f1
  have hld := (HP.out _ HA7.out.be).x1.ld
  go_wp2_with (refine wpList_load_at rfl 28 (.tmp 3) rfl _ _ rfl hld ?_)
  refine (HT.out.rsl _ (HP.out _ HA7.out.be).ia).mono ?_
  rintro _ u7 ⟨rfl, kk⟩
  have HN : Hid (Arr wb u7 ga gb gc gd [.int .i64 tv, .int .i64 lv, .int .i64 bv, .int .i64 zv] [.int .i64 tv, .int .i64 lv, .int .i64 bv, .int .i64 0] [.int .i64 te, .int .i64 le, .int .i64 be, .int .i64 ze] [.int .i64 te, .int .i64 le, .int .i64 be, .int .i64 0]) := HA7.out.below kk
  have c0 : u7.cell? ⟨gb, 3, none⟩ = some (.int .i64 0) := HN.out.b.cell 3
  have f0 := HN.out.b.frozen 3
  have hne : gd ≠ gb := by have := HN.out.ab; have := HN.out.bc; have := HN.out.cd; omega
  have c1 : ∀ v, (u7.setCell ⟨gb, 3, none⟩ v).cell? ⟨gd, 3, none⟩ = some (.int .i64 0) := fun v => (setCell_blk_other HN.out.d hne 3 v).cell 3
  have f1 : ∀ v, (u7.setCell ⟨gb, 3, none⟩ v).frozen? ⟨gd, 3, none⟩ = false := fun v => (setCell_blk_other HN.out.d hne 3 v).frozen 3
  clear hld kk HA7 hne
  go_upto_region 21 with fail
  have HA8 : Hid (Arr wb ((u7.setCell ⟨gb, 3, none⟩ (.int .i64 zv)).setCell ⟨gd, 3, none⟩ (.int .i64 ze)) ga gb gc gd [.int .i64 tv, .int .i64 lv, .int .i64 bv, .int .i64 zv] [.int .i64 tv, .int .i64 lv, .int .i64 bv, .int .i64 zv] [.int .i64 te, .int .i64 le, .int .i64 be, .int .i64 ze] [.int .i64 te, .int .i64 le, .int .i64 be, .int .i64 ze]) := HN.out.two 3 _ _
  generalize ((u7.setCell ⟨gb, 3, none⟩ (.int .i64 zv)).setCell ⟨gd, 3, none⟩ (.int .i64 ze)) = v8 at *
  clear HN c0 f0 c1 f1
  have zp0 : v8.cell? ⟨ga, 0, none⟩ = some (.int .i64 tv) := HA8.out.a.cell 0
  have zp1 : v8.cell? ⟨ga, 1, none⟩ = some (.int .i64 lv) := HA8.out.a.cell 1
  have zp2 : v8.cell? ⟨ga, 2, none⟩ = some (.int .i64 bv) := HA8.out.a.cell 2
  have zp3 : v8.cell? ⟨ga, 3, none⟩ = some (.int .i64 zv) := HA8.out.a.cell 3
  have zq0 : v8.cell? ⟨gb, 0, none⟩ = some (.int .i64 tv) := HA8.out.b.cell 0
  have zq1 : v8.cell? ⟨gb, 1, none⟩ = some (.int .i64 lv) := HA8.out.b.cell 1
  have zq2 : v8.cell? ⟨gb, 2, none⟩ = some (.int .i64 bv) := HA8.out.b.cell 2
  have zq3 : v8.cell? ⟨gb, 3, none⟩ = some (.int .i64 zv) := HA8.out.b.cell 3
  have zr0 : v8.cell? ⟨gc, 0, none⟩ = some (.int .i64 te) := HA8.out.c.cell 0
  have zr1 : v8.cell? ⟨gc, 1, none⟩ = some (.int .i64 le) := HA8.out.c.cell 1
  have zr2 : v8.cell? ⟨gc, 2, none⟩ = some (.int .i64 be) := HA8.out.c.cell 2
  have zr3 : v8.cell? ⟨gc, 3, none⟩ = some (.int .i64 ze) := HA8.out.c.cell 3
  have zt0 : v8.cell? ⟨gd, 0, none⟩ = some (.int .i64 te) := HA8.out.d.cell 0
  have zt1 : v8.cell? ⟨gd, 1, none⟩ = some (.int .i64 le) := HA8.out.d.cell 1
  have zt2 : v8.cell? ⟨gd, 2, none⟩ = some (.int .i64 be) := HA8.out.d.cell 2
  have zt3 : v8.cell? ⟨gd, 3, none⟩ = some (.int .i64 ze) := HA8.out.d.cell 3
  have hq1 := eqA tv lv bv zv
  have hq2 := eqE te le be ze
  have hld := (HP.out _ HA8.out.be).x3.ld
  have hld1 := (HP.out _ HA8.out.be).x1.ld
  go_wp2_with (first | refine wpList_load_wanted rfl 28 (.tmp 7) rfl _ _ rfl hld ?_ | refine wpList_load_wanted rfl 28 (.tmp 3) rfl _ _ rfl hld1 ?_)
  refine (C4.out _ _ (HP.out _ HA8.out.be).ib (HP.out _ HA8.out.be).ia).mono ?_
  rintro _ wt ⟨rfl, k8⟩
  have FIN : Hid (Below w.heap.size w wt) := (HP.out _ (HA8.out.below k8).be).be
  clear HA8 k8 HP C4 HT hld hld1
  go_wp2_with fail
  refine (awake_any _).mono ?_
  rintro _ wu ⟨rfl, k9⟩
  go_wp2
  go_ret
  exact ⟨rfl, FIN.out.trans (k9.mono FIN.out.size)⟩
end Go.Proofs.YtcmgjinjfaialaaGreat
