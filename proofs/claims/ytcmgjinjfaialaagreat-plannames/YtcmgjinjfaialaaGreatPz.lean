/- PlanParts' walk; no condition but that the configuration lies in memory. -/
import Derived.Test.YtcmgjinjfaialaaGreatPc
import Derived.Test.YtcmgjinjfaialaaGreatPn
namespace Go.Proofs.YtcmgjinjfaialaaGreat
open Go.ChangeShapes Go.WideShapes Go.ChangeAt Go.RowKit
set_option linter.unusedVariables false

set_option maxRecDepth 100000 in
set_option maxHeartbeats 8000000 in
theorem PlanParts_any {w : World} {a : Ad} {c : Cf} (hc : Cin w a c) : Calls Tryz.prog 10 #[.agg #[.int .i64 c.F, .int .i64 c.C, .int .i64 c.W, .int .i64 c.S, .int .i64 c.V, .int .i64 c.T, .int .u64 c.k.l1, .int .u64 c.k.llc, .int .u64 c.k.mi, .int .u64 c.k.fa, .int .u64 c.k.st, .int .u64 c.k.di, .int .u64 c.sl, .int .u64 c.pd, .int .u64 c.ft, .slice a.ta c.tn a.tc, .slice a.pa c.pn a.pc]] w (One (.bool true) w) := by
  have HB0 := cb_new hc
  have HCI : Hid (Cin w a c) := hc
  have C3 : Hid (∀ w', Cin w' a c → Calls Tryz.prog 20 #[.agg #[.int .i64 c.F, .int .i64 c.C, .int .i64 c.W, .int .i64 c.S, .int .i64 c.V, .int .i64 c.T, .int .u64 c.k.l1, .int .u64 c.k.llc, .int .u64 c.k.mi, .int .u64 c.k.fa, .int .u64 c.k.st, .int .u64 c.k.di, .int .u64 c.sl, .int .u64 c.pd, .int .u64 c.ft, .slice a.ta c.tn a.tc, .slice a.pa c.pn a.pc]] w' (One (.bool (may c)) w')) := fun w' h => May_all h
  have hpl := hc.pl
  have hcl : Hid (∀ i, i < c.pn → (c.pf i).n * 8 ≤ 140737488351232) := hc.cl
  clear hc
  go_enter Tryz.func10, Tryz.ntmps10
  go_upto_region 1 with fail
  obtain ⟨W, hW, HB⟩ : ∃ W, (w.alloc (.cells #[.int .i64 c.F, .int .i64 c.C, .int .i64 c.W, .int .i64 c.S, .int .i64 c.V, .int .i64 c.T, .int .u64 c.k.l1, .int .u64 c.k.llc, .int .u64 c.k.mi, .int .u64 c.k.fa, .int .u64 c.k.st, .int .u64 c.k.di, .int .u64 c.sl, .int .u64 c.pd, .int .u64 c.ft, .slice a.ta c.tn a.tc, .slice a.pa c.pn a.pc] 28)) = W ∧ Hid (Cb w W w.heap.size a c) := ⟨_, rfl, HB0⟩
  rw [hW]
  clear hW HB0
  have L1 : Hid (w.heap.size ≤ w.heap.size) := Nat.le_refl _
  generalize hg1 : w.heap.size = g1 at HB L1 ⊢
  go_wp2_with fail
  refine (awake_any _).mono ?_
  rintro _ w1 ⟨rfl, k1⟩
  have HB1 : Hid (Cb w w1 g1 a c) := HB.out.below k1
  clear HB k1
  have hld := HB1.out.bx.ld
  go_wp2_with (refine wpList_load_at rfl 28 (.tmp 1) rfl _ _ rfl hld ?_)
  refine (C3.out _ HB1.out.ci).mono ?_
  rintro _ w2 ⟨rfl, k2⟩
  have HB2 : Hid (Cb w w2 g1 a c) := HB1.out.below k2
  clear HB1 k2 hld C3
  cases hm : may c
  · have hld := HB2.out.bx.ld
    go_wp2_with (refine wpList_load_at rfl 28 (.tmp 1) rfl _ _ rfl hld ?_)
    refine (Slots_no HB2.out.ci hm).mono ?_
    rintro _ w3 ⟨rfl, k3⟩
    have HB3 : Hid (Cb w w3 g1 a c) := HB2.out.below k3
    clear HB2 k3 hld
    have hld := HB3.out.bx.ld
    have h0 := may_no hm
    have hL := chk_len c
    go_wp2_with (refine wpList_load_wanted rfl 28 (.tmp 1) rfl _ _ rfl hld ?_)
    refine (Check_all HB3.out.ci).mono ?_
    rintro _ w4 ⟨v, rfl, hF, k4⟩
    obtain ⟨ao, cap, rfl⟩ := hF.len
    have FIN : Hid (Below w.heap.size w w4) := HB3.out.be.trans (k4.mono HB3.out.be.size)
    clear HB3 k4 hld hF
    generalize (chk c).length = n at *
    go_wp2
    go_ret
    exact ⟨rfl, FIN.out⟩
  have hO := may_iff.1 hm
  have HO : Hid c.Ok := hO
  have hn1 := hO.m.p1
  have hn2 := hO.m.p2
  have hC := hO.m.C
  have hC0 : 0 ≤ c.C := by omega
  have hC1 : c.C ≤ 16 := by omega
  have HM : Hid (may c = true) := hm
  have MK : ∀ w, (Instr.makeSlice 22 (.int .i64 c.C) (.int .i64 c.C)).run Tryz.prog w = .ok (.slice (some ⟨w.heap.size, 0, none⟩) c.C.toNat c.C.toNat) (w.alloc (.cells (Array.replicate c.C.toNat (.int .i64 0)) 3)) := fun w => by
    have := make_ints c.C.toNat (by omega) w
    rwa [Int.toNat_of_nonneg hC0] at this
  clear hO hm hC
  have c1 := HB2.out.bx.c1
  go_upto_region 10 with fail
  have HS0 : Hid (Sp w (w2.alloc (.cells (Array.replicate c.C.toNat (.int .i64 0)) 3)) g1 w2.heap.size a c (fun x => mv c 0 0 x)) :=
    ⟨HB2.out.be.alloc HB2.out.be.size _, by omega, by have := HB2.out.bx.lt; omega, HB2.out.bx.below (below_new _ _), HCI.out, cnt_new w2 _ fun x => mv_start c x⟩
  clear MK c1
  generalize w2.alloc (.cells (Array.replicate c.C.toNat (.int .i64 0)) 3) = w3 at *
  generalize w2.heap.size = g7 at *
  clear HB2 hC0
  generalize hN : c.C.toNat = N at *
  go_loopw [5, 6, 8] (fun f s i wr => ∃ p : Nat, p ≤ c.pn ∧ i = .int .i64 p ∧ f = .int .i64 (ns c p * (c.F / c.C)) ∧ s = .int .i64 (zs c p) ∧ Sp w wr g1 g7 a c (fun x => mv c p 0 x)) (fun _ _ i _ => c.pn - (intOf i).toNat)
  case atStart => exact ⟨0, by omega, rfl, by simp [ns], rfl, HS0.out⟩
  case round =>
    clear HS0
    obtain ⟨p, hp, rfl, rfl, rfl, hS⟩ := hrel
    have HS : Hid (Sp w wr g1 g7 a c (fun x => mv c p 0 x)) := hS
    clear hS
    have c16 := HS.out.bx.c16
    by_cases hlt : p < c.pn
    · obtain ⟨bb, ob, hpa, he⟩ := HS.out.ci.p.at' hlt
      rw [hpa] at c16
      obtain ⟨_, e0, e1, e2, e3, e4, e5, e6, e7⟩ := he
      have hpI : (p : Int) < (c.pn : Int) := by omega
      have hp0 : (0 : Int) ≤ (p : Int) := by omega
      go_upto_region 13 with fail
      have HX0 : Hid (Sq w (wr.alloc (.cells #[.slice (a.ca p) (c.pf p).n (a.cc p), .int .i64 (c.pf p).o, .int .i64 (c.pf p).u, .int .i64 (c.pf p).t, .int .i64 (c.pf p).s, .int .i64 (c.pf p).r, .int .i64 (c.pf p).d, .int .i64 (c.pf p).z] 40)) g1 g7 wr.heap.size a c (fun x => mv c p 0 x) p) :=
        ⟨HS.out.below (below_new _ _), ebx_new _ _ _ _, Blk.lt HS.out.n⟩
      clear e0 e1 e2 e3 e4 e5 e6 e7 c16 HS hpa
      generalize wr.alloc (.cells #[.slice (a.ca p) (c.pf p).n (a.cc p), .int .i64 (c.pf p).o, .int .i64 (c.pf p).u, .int .i64 (c.pf p).t, .int .i64 (c.pf p).s, .int .i64 (c.pf p).r, .int .i64 (c.pf p).d, .int .i64 (c.pf p).z] 40) = x0 at *
      generalize wr.heap.size = g9 at *
      have hld := HX0.out.sp.bx.ld
      go_wp2_with (refine wpList_load_at rfl 28 (.tmp 1) rfl _ _ rfl hld ?_)
      refine (Total_ok HX0.out.sp.ci p HM.out hlt).mono ?_
      rintro _ x1 ⟨rfl, k1⟩
      have HX1 : Hid (Sq w x1 g1 g7 g9 a c (fun x => mv c p 0 x) p) := HX0.out.below k1
      clear HX0 k1 hld
      have hld := HX1.out.sp.bx.ld
      go_wp2_with (refine wpList_load_at rfl 28 (.tmp 1) rfl _ _ rfl hld ?_)
      refine (Base_ok HX1.out.sp.ci p HM.out hlt).mono ?_
      rintro _ x2 ⟨rfl, k1⟩
      have HX2 : Hid (Sq w x2 g1 g7 g9 a c (fun x => mv c p 0 x) p) := HX1.out.below k1
      clear HX1 k1 hld
      have hld := HX2.out.sp.bx.ld
      go_wp2_with (refine wpList_load_at rfl 28 (.tmp 1) rfl _ _ rfl hld ?_)
      refine (Shape_ok HX2.out.sp.ci p HM.out hlt).mono ?_
      rintro _ x3 ⟨rfl, k1⟩
      have HX3 : Hid (Sq w x3 g1 g7 g9 a c (fun x => mv c p 0 x) p) := HX2.out.below k1
      clear HX2 k1 hld
      go_upto_region 16 with fail
      have B4 : Hid (Blk (x3.alloc (.cells #[.int .i64 (im (c.pf p)), .int .i64 (c.pf p).u, .int .i64 (lim (c.pf p)), .int .i64 (c.pf p).t] 53)) x3.heap.size 53 [.int .i64 (im (c.pf p)), .int .i64 (c.pf p).u, .int .i64 (lim (c.pf p)), .int .i64 (c.pf p).t]) := blk_new x3 _ _
      have HX4 : Hid (Sq w (x3.alloc (.cells #[.int .i64 (im (c.pf p)), .int .i64 (c.pf p).u, .int .i64 (lim (c.pf p)), .int .i64 (c.pf p).t] 53)) g1 g7 g9 a c (fun x => mv c p 0 x) p) := HX3.out.below (below_new _ _)
      clear HX3
      generalize x3.alloc (.cells #[.int .i64 (im (c.pf p)), .int .i64 (c.pf p).u, .int .i64 (lim (c.pf p)), .int .i64 (c.pf p).t] 53) = x4 at *
      generalize x3.heap.size = g14 at *
      have PK := HO.out.part hlt
      have MS : Hid (∀ w', Calls Tryz.prog 34 #[.agg #[.int .u64 c.k.l1, .int .u64 c.k.llc, .int .u64 c.k.mi, .int .u64 c.k.fa, .int .u64 c.k.st, .int .u64 c.k.di], .agg #[.int .i64 (im (c.pf p)), .int .i64 (c.pf p).u, .int .i64 (lim (c.pf p)), .int .i64 (c.pf p).t]] w' (Two (mx c.k (shp (c.pf p)) 11) 0 w')) := fun w' => Most_ok c.k (shp (c.pf p)) HO.out.k PK.shape w'
      have hM : ¬ c.sl < mx c.k (shp (c.pf p)) 11 := by have := HO.out.mo p hlt; omega
      have hL1 : ¬ lim (c.pf p) < 1 := by have := PK.shape.l1; simp only [shp] at this; omega
      have hL2 : ¬ (c.pf p).u + (c.pf p).z - 1 < lim (c.pf p) := by unfold lim; omega
      have hL3 : ¬ 16 * (c.pf p).d < lim (c.pf p) := by unfold lim; omega
      have hft : ¬ (c.pf p).n * (c.F / c.C) < im (c.pf p) + (c.pf p).u + (c.pf p).t + (c.pf p).s + (c.pf p).r + (c.pf p).d := by have := part_fit HO.out hlt; omega
      have him : 1 ≤ im (c.pf p) ∧ im (c.pf p) ≤ 8 ∧ IntKind.i64.wrap (2 ^ (c.pf p).o.toNat) = im (c.pf p) := by
        rcases im_ways PK.o0 PK.o1 with ⟨h1, h2⟩ | ⟨h1, h2⟩ | ⟨h1, h2⟩ | ⟨h1, h2⟩ <;> rw [h1, h2] <;> decide
      obtain ⟨i0, i1, HSh⟩ := him
      have o0 := PK.o0
      have o1 := PK.o1
      have u0 := PK.u0
      have u1 := PK.u1
      have t0 := PK.t0
      have t1 := PK.t1
      have s0 := PK.s0
      have s1 := PK.s1
      have r0 := PK.r0
      have r1 := PK.r1
      have d0 := PK.d0
      have d1 := PK.d1
      have z0 := PK.z0
      have z1 := PK.z1
      have n0 := PK.n0
      have F0 := fr_le HO.out p hp
      have F1 := fr_le HO.out (p + 1) hlt
      rw [← fr_succ] at F1
      have hF2 := HO.out.m.F2
      have Z0 := zs_le HO.out p hp
      have HFr : Hid (ns c (p + 1) * (c.F / c.C) = ns c p * (c.F / c.C) + (c.pf p).n * (c.F / c.C)) := (fr_succ c p).symm
      have HZr : Hid (zs c (p + 1) = zs c p + (c.pf p).z) := rfl
      clear PK
      generalize mx c.k (shp (c.pf p)) 11 = M at *
      generalize lim (c.pf p) = L at *
      generalize im (c.pf p) = I at *
      generalize hTt : (c.pf p).n * (c.F / c.C) = Tt at *
      generalize hFrr : ns c p * (c.F / c.C) = Fr at *
      generalize hZz : zs c p = Z at *
      clear hTt hFrr hZz
      obtain ⟨F0, F0'⟩ := F0
      obtain ⟨F1, F1'⟩ := F1
      obtain ⟨Z0, Z1⟩ := Z0
      have T0 : 0 ≤ Tt := by omega
      have T1 : Tt ≤ 4096 := by omega
      have Fr1 : Fr ≤ 4096 := by omega
      have c6 := HX4.out.sp.bx.c6
      have c7 := HX4.out.sp.bx.c7
      have c8 := HX4.out.sp.bx.c8
      have c9 := HX4.out.sp.bx.c9
      have c10 := HX4.out.sp.bx.c10
      have c11 := HX4.out.sp.bx.c11
      have y0 := B4.out.cell 0
      have y1 := B4.out.cell 1
      have y2 := B4.out.cell 2
      have y3 := B4.out.cell 3
      simp at y0 y1 y2 y3
      go_wp2_with fail
      refine (MS.out _).mono ?_
      rintro _ x5 ⟨rfl, k1⟩
      have HX5 : Hid (Sq w x5 g1 g7 g9 a c (fun x => mv c p 0 x) p) := HX4.out.below k1
      have B5 := B4.out.below k1
      clear HX4 B4 c6 c7 c8 c9 c10 c11 y0 y1 y2 y3 k1 MS
      have y2 := B5.cell 2
      simp at y2
      clear B5
      have c12 := HX5.out.sp.bx.c12
      obtain ⟨_, e0, e1, e2, e3, e4, e5, e6, e7⟩ := HX5.out.eb
      go_upto_region 19 with fail
      clear y2 c12 hM hL1 hL2 hL3
      have v1 : IntKind.i64.wrap (I + (c.pf p).u) = I + (c.pf p).u := by simp (disch := omega) only [IntWalk.i64_in]
      have v2 : IntKind.i64.wrap (I + (c.pf p).u + (c.pf p).t) = I + (c.pf p).u + (c.pf p).t := by simp (disch := omega) only [IntWalk.i64_in]
      have v3 : IntKind.i64.wrap (I + (c.pf p).u + (c.pf p).t + (c.pf p).s) = I + (c.pf p).u + (c.pf p).t + (c.pf p).s := by simp (disch := omega) only [IntWalk.i64_in]
      have v4 : IntKind.i64.wrap (I + (c.pf p).u + (c.pf p).t + (c.pf p).s + (c.pf p).r) = I + (c.pf p).u + (c.pf p).t + (c.pf p).s + (c.pf p).r := by simp (disch := omega) only [IntWalk.i64_in]
      have v5 : IntKind.i64.wrap (I + (c.pf p).u + (c.pf p).t + (c.pf p).s + (c.pf p).r + (c.pf p).d) = I + (c.pf p).u + (c.pf p).t + (c.pf p).s + (c.pf p).r + (c.pf p).d := by simp (disch := omega) only [IntWalk.i64_in]
      have hd1 : decide (Tt < I + (c.pf p).u + (c.pf p).t + (c.pf p).s + (c.pf p).r + (c.pf p).d) = false := by simp only [decide_eq_false_iff_not]; omega
      have hd2 : decide ((c.pf p).z < 1) = false := by simp only [decide_eq_false_iff_not]; omega
      go_quiet (fail)
      clear v1 v2 v3 v4 v5 hd1 hd2 hft HSh
      have HX6 : Hid (Sq w (x5.drewN nq) g1 g7 g9 a c (fun x => mv c p 0 x) p) := HX5.out.below (below_drewN (Below.refl _ _) _)
      clear HX5 e0 e1 e2 e3 e4 e5 e6 e7
      generalize x5.drewN nq = x6 at *
      have e7 := HX6.out.eb.c7
      go_upto_region 24 with fail
      clear e7
      generalize hFz : Fr + Tt = Fs' at *
      generalize hZz : Z + (c.pf p).z = Zs' at *
      have HFZ : Hid (ns c (p + 1) * (c.F / c.C) = Fs' ∧ zs c (p + 1) = Zs') := ⟨HFr.out, HZr.out⟩
      clear hFz hZz HFr HZr F0 F0' F1 F1' Z0 Z1 T0 T1 Fr1 o0 o1 u0 u1 t0 t1 s0 s1 r0 r1 d0 d1 z0 z1 i0 i1
      obtain ⟨R, HR⟩ : ∃ R : World, wr = R := ⟨_, rfl⟩
      clear HR
      go_loopw [18] (fun v wr => ∃ i : Nat, i ≤ (c.pf p).n ∧ v = .int .i64 i ∧ Sq w wr g1 g7 g9 a c (fun x => mv c p i x) p) (fun v _ => (c.pf p).n - (intOf v).toNat)
      case atStart => exact ⟨0, by omega, rfl, HX6.out⟩
      case round =>
        clear HX6
        obtain ⟨i, hi, rfl, hS⟩ := hrel
        have HS : Hid (Sq w wr g1 g7 g9 a c (fun x => mv c p i x) p) := hS
        clear hS
        have e0 := HS.out.eb.c0
        by_cases hin : i < (c.pf p).n
        · obtain ⟨bq, oq, hq, hcell⟩ := (HS.out.sp.ci.p.col hlt).at' (Below.refl _ _) hin
          have hr := rise_at (HO.out.part hlt).ri hin
          obtain ⟨k, hk⟩ : ∃ k : Nat, (c.pf p).f i = k := ⟨((c.pf p).f i).toNat, by omega⟩
          have OW : Hid (∀ w', Cin w' a c → Calls Tryz.prog 22 #[.agg #[.int .i64 c.F, .int .i64 c.C, .int .i64 c.W, .int .i64 c.S, .int .i64 c.V, .int .i64 c.T, .int .u64 c.k.l1, .int .u64 c.k.llc, .int .u64 c.k.mi, .int .u64 c.k.fa, .int .u64 c.k.st, .int .u64 c.k.di, .int .u64 c.sl, .int .u64 c.pd, .int .u64 c.ft, .slice a.ta c.tn a.tc, .slice a.pa c.pn a.pc], .int .i64 k] w' (One (.tuple #[.int .i64 p, .bool true, .int .i64 0]) w')) := fun w' h => by
            have h1 := Owner_any h ((c.pf p).f i)
            have OE := owP_ok HM.out hr.1 hr.2.1
            rw [OE.1, OE.2, (ow_own HO.out hlt hin).2, hk] at h1
            exact h1
          have HST : Hid (∀ x, x < c.C.toNat → mv c p (i + 1) x = if x = k then 1 else mv c p i x) := fun x hx => by
            have hmn := mv_new HO.out hlt hin
            rw [hk] at hmn
            by_cases e : x = k
            · rw [if_pos e, e]; exact hmn.2
            · rw [if_neg e]; exact mv_other c p i (by rw [hk]; omega)
          have H0 : Hid (mv c p i k = 0) := by have hmn := mv_new HO.out hlt hin; rw [hk] at hmn; exact hmn.1
          have hkN : k < N := by rw [← hN]; omega
          have hkN' : (k : Int) < (N : Int) := by omega
          have hk0 : (0 : Int) ≤ (k : Int) := by omega
          have hiI : (i : Int) < ((c.pf p).n : Int) := by omega
          have hi0 : (0 : Int) ≤ (i : Int) := by omega
          have HQ : Hid (a.ca p = some ⟨bq, oq, none⟩) := hq
          have hlq : ∀ m : Idx (fun W => Sq w W g1 g7 g9 a c (fun x => mv c p i x) p), (Instr.loadAt 28 (.pointer (some ⟨g1, 0, none⟩))).run Tryz.prog m.W = .ok (.agg #[.int .i64 c.F, .int .i64 c.C, .int .i64 c.W, .int .i64 c.S, .int .i64 c.V, .int .i64 c.T, .int .u64 c.k.l1, .int .u64 c.k.llc, .int .u64 c.k.mi, .int .u64 c.k.fa, .int .u64 c.k.st, .int .u64 c.k.di, .int .u64 c.sl, .int .u64 c.pd, .int .u64 c.ft, .slice a.ta c.tn a.tc, .slice a.pa c.pn a.pc]) m.W := fun m => m.h.sp.bx.ld
          have hE0 : ∀ m : Idx (fun W => Sq w W g1 g7 g9 a c (fun x => mv c p i x) p), m.W.cell? ⟨g9, 0, none⟩ = some (.slice (some ⟨bq, oq, none⟩) (c.pf p).n (a.cc p)) := fun m => by rw [← HQ.out]; exact m.h.eb.c0
          have hEk : ∀ m : Idx (fun W => Sq w W g1 g7 g9 a c (fun x => mv c p i x) p), m.W.cell? ⟨bq, oq + i, none⟩ = some (.int .i64 k) := fun m => by
            obtain ⟨b', o', h1, h2⟩ := (m.h.sp.ci.p.col hlt).at' (Below.refl _ _) hin
            rw [HQ.out] at h1
            cases h1
            rw [h2, hk]
          have OWi : Hid (∀ m : Idx (fun W => Sq w W g1 g7 g9 a c (fun x => mv c p i x) p), Calls Tryz.prog 22 #[.agg #[.int .i64 c.F, .int .i64 c.C, .int .i64 c.W, .int .i64 c.S, .int .i64 c.V, .int .i64 c.T, .int .u64 c.k.l1, .int .u64 c.k.llc, .int .u64 c.k.mi, .int .u64 c.k.fa, .int .u64 c.k.st, .int .u64 c.k.di, .int .u64 c.sl, .int .u64 c.pd, .int .u64 c.ft, .slice a.ta c.tn a.tc, .slice a.pa c.pn a.pc], .int .i64 k] m.W (One (.tuple #[.int .i64 p, .bool true, .int .i64 0]) m.W)) := fun m => OW.out _ m.h.sp.ci
          have hne : Nonempty (Idx (fun W => Sq w W g1 g7 g9 a c (fun x => mv c p i x) p)) := ⟨⟨wr, HS.out⟩⟩
          have hcl' := hcl.out p hlt
          rw [hq] at e0
          have HK : Hid ((c.pf p).f i = k) := hk
          clear hcell hr hq hk OW
          go_upto_region 26 with fail
          refine wp_region_cls (fun W => Sq w W g1 g7 g9 a c (fun x => mv c p i x) p) (by kernel_rfl) (by kernel_rfl) (HS.out.below (below_drew _ _)) ?_
          repeat (first | (go_big_quiet_want; refine quiet_load_at 28 (.tmp 1) rfl _ _ rfl hlq ?_; simp only [Act.put, List.setIfInBounds_toArray, List.set_cons_zero, List.set_cons_succ]; go_big_quiet_on) | (go_big_quiet_step ((go_at_call 22; exact Calls.cls (OWi.out _) (fun _ _ h k => h.below k)))))
          refine wpQuiet_nil ?_
          rintro w5 ⟨⟨_, hS5⟩, rfl⟩
          have H5 : Hid (Sq w w5 g1 g7 g9 a c (fun x => mv c p i x) p) := hS5
          have d0 : w5.cell? ⟨g9, 0, none⟩ = some (.slice (some ⟨bq, oq, none⟩) (c.pf p).n (a.cc p)) := hE0 ⟨w5, hS5⟩
          have dk : w5.cell? ⟨bq, oq + i, none⟩ = some (.int .i64 k) := hEk ⟨w5, hS5⟩
          have d7 : w5.cell? ⟨g7, k, none⟩ = some (.int .i64 0) := by rw [← H0.out]; exact hS5.sp.n.cell (by rw [hN]; exact hkN)
          have f7 := hS5.sp.n.frozen k
          clear hS5 hlq hE0 hEk OWi hne HS e0
          go_wp2
          go_roundw
          case rel => exact ⟨i + 1, by omega, by go_num, H5.out.set k 1 HST.out⟩
          case measure => simp [intOf]; omega
        · obtain rfl : i = (c.pf p).n := by omega
          go_wp2
          go_roundw
          case rel => exact ⟨p + 1, by omega, by go_num, by rw [HFZ.out.1], by rw [HFZ.out.2], HS.out.sp.congr fun x _ => mv_next c p x⟩
          case measure => simp [intOf]; omega
    · obtain rfl : p = c.pn := by omega
      have Z0 := zs_le HO.out c.pn (Nat.le_refl _)
      have F0 := fr_le HO.out c.pn (Nat.le_refl _)
      have HSl : Hid (∀ w', Cin w' a c → Calls Tryz.prog 29 #[.agg #[.int .i64 c.F, .int .i64 c.C, .int .i64 c.W, .int .i64 c.S, .int .i64 c.V, .int .i64 c.T, .int .u64 c.k.l1, .int .u64 c.k.llc, .int .u64 c.k.mi, .int .u64 c.k.fa, .int .u64 c.k.st, .int .u64 c.k.di, .int .u64 c.sl, .int .u64 c.pd, .int .u64 c.ft, .slice a.ta c.tn a.tc, .slice a.pa c.pn a.pc]] w' (Ti (zs c c.pn) 0 w')) := fun w' h => Slots_ok h HM.out
      generalize zs c c.pn = Z at *
      generalize hFr : ns c c.pn * (c.F / c.C) = Fr at *
      clear hFr
      obtain ⟨Z0, Z1⟩ := Z0
      obtain ⟨F0, F1⟩ := F0
      go_upto_region 31 with fail
      clear c16
      go_loopw [22] (fun v wr => ∃ i : Nat, i ≤ N ∧ v = .int .i64 i ∧ Sp w wr g1 g7 a c (fun x => mv c c.pn 0 x)) (fun v _ => N - (intOf v).toNat)
      case atStart => exact ⟨0, by omega, rfl, HS.out⟩
      case round =>
        clear HS
        obtain ⟨i, hi, rfl, hS⟩ := hrel
        have HS : Hid (Sp w wr g1 g7 a c (fun x => mv c c.pn 0 x)) := hS
        clear hS
        by_cases hin : i < N
        · have hiI : (i : Int) < (N : Int) := by omega
          have hi0 : (0 : Int) ≤ (i : Int) := by omega
          have HOw : Hid (∀ w', Cin w' a c → Calls Tryz.prog 22 #[.agg #[.int .i64 c.F, .int .i64 c.C, .int .i64 c.W, .int .i64 c.S, .int .i64 c.V, .int .i64 c.T, .int .u64 c.k.l1, .int .u64 c.k.llc, .int .u64 c.k.mi, .int .u64 c.k.fa, .int .u64 c.k.st, .int .u64 c.k.di, .int .u64 c.sl, .int .u64 c.pd, .int .u64 c.ft, .slice a.ta c.tn a.tc, .slice a.pa c.pn a.pc], .int .i64 i] w' (One (owV (ow c i c.pn) 0) w')) := fun w' h => by
            have h1 := Owner_any h (i : Int)
            have OE := owP_ok HM.out hi0 (show (i : Int) < c.C by omega)
            rw [OE.1, OE.2] at h1
            exact h1
          have HMv : Hid (mv c c.pn 0 i = bif (ow c i c.pn).isSome then 1 else 0) := by unfold mv; rw [met_all]; rfl
          have hld := HS.out.bx.ld
          go_wp2_with (refine wpList_load_at rfl 28 (.tmp 1) rfl _ _ rfl hld ?_)
          refine (HOw.out _ HS.out.ci).mono ?_
          rintro _ w5 ⟨rfl, k5⟩
          have H5 : Hid (Sp w w5 g1 g7 a c (fun x => mv c c.pn 0 x)) := HS.out.below k5
          have d7 : w5.cell? ⟨g7, i, none⟩ = some (.int .i64 (mv c c.pn 0 i)) := H5.out.n.cell (by rw [hN]; exact hin)
          rw [HMv.out] at d7
          clear HS k5 hld HOw HMv
          unfold owV
          cases hw : ow c i c.pn
          · rw [hw] at d7
            simp only [Option.isSome_none, cond_false] at d7
            clear hw
            simp only [Option.isSome_none, Option.getD_none]
            go_wp2
            go_roundw
            case rel => exact ⟨i + 1, by omega, by go_num, H5.out⟩
            case measure => simp [intOf]; omega
          · rw [hw] at d7
            simp only [Option.isSome_some, cond_true] at d7
            clear hw
            simp only [Option.isSome_some, Option.getD_some]
            go_wp2
            go_roundw
            case rel => exact ⟨i + 1, by omega, by go_num, H5.out⟩
            case measure => simp [intOf]; omega
        · obtain rfl : i = N := by omega
          have hld := HS.out.bx.ld
          go_wp2_with (refine wpList_load_at rfl 28 (.tmp 1) rfl _ _ rfl hld ?_)
          refine (HSl.out _ HS.out.ci).mono ?_
          rintro _ w6 ⟨rfl, k6⟩
          have H6 : Hid (Sp w w6 g1 g7 a c (fun x => mv c c.pn 0 x)) := HS.out.below k6
          have c0 := H6.out.bx.c0
          clear HS k6 hld
          go_wp2
          go_ret
          exact ⟨rfl, H6.out.be⟩
end Go.Proofs.YtcmgjinjfaialaaGreat
