/- TableFits walked: just as many tables as are needed. -/
import Derived.Test.YtiegcncpgjnpbaaGreatVtn
import Derived.Deep.CutRange
import Derived.Deep.RegionHeldLaw
namespace Go.Proofs.YtiegcncpgjnpbaaGreat.Pg
open P E Go.ChangeShapes Go.WideShapes Go.ChangeAt Go.RowKit
set_option linter.unusedVariables false
set_option maxRecDepth 8192

set_option maxHeartbeats 4000000 in
theorem fits_ok {w : World} {a : Ad} {c : Cf} (hc : Cin w a c) (hm : may c = true) {ao : Option Addr} {n cap : Nat} {ys : Nat → List (Int × Int)} (hl : n ≤ maxLen) (hs : Lsp w ao n ys) : Calls Tryz.prog 4 #[.agg #[.int .i64 c.F, .int .i64 c.C, .int .i64 c.W, .int .i64 c.S, .int .i64 c.V, .int .i64 c.T, .int .u64 c.k.l1, .int .u64 c.k.llc, .int .u64 c.k.mi, .int .u64 c.k.fa, .int .u64 c.k.st, .int .u64 c.k.di, .int .u64 c.sl, .int .u64 c.pd, .int .u64 c.ft, .slice a.ta c.tn a.tc, .slice a.pa c.pn a.pc], .slice ao n cap] w fun e w' => e = .returned (.bool true) ∧ Below w.heap.size w w' := by
  have HB0 := cb_new hc
  have hO := may_iff.1 hm
  have hp1 : 0 < c.pn := by have := hO.m.p1; omega
  have hq3 := (prn_of hO hp1).q3
  have ht4 := (hO.part hp1).t0
  have ht5 := (hO.part hp1).t1
  have C2 : Hid (∀ w', Cin w' a c → Calls Tryz.prog 21 #[.agg #[.int .i64 c.F, .int .i64 c.C, .int .i64 c.W, .int .i64 c.S, .int .i64 c.V, .int .i64 c.T, .int .u64 c.k.l1, .int .u64 c.k.llc, .int .u64 c.k.mi, .int .u64 c.k.fa, .int .u64 c.k.st, .int .u64 c.k.di, .int .u64 c.sl, .int .u64 c.pd, .int .u64 c.ft, .slice a.ta c.tn a.tc, .slice a.pa c.pn a.pc]] w' (One (.bool true) w')) := fun w' h => by rw [← hm]; exact May_all h
  have CV : Hid (∀ w1, Cin w1 a c → Calls Tryz.prog 22 #[.agg #[.int .i64 c.F, .int .i64 c.C, .int .i64 c.W, .int .i64 c.S, .int .i64 c.V, .int .i64 c.T, .int .u64 c.k.l1, .int .u64 c.k.llc, .int .u64 c.k.mi, .int .u64 c.k.fa, .int .u64 c.k.st, .int .u64 c.k.di, .int .u64 c.sl, .int .u64 c.pd, .int .u64 c.ft, .slice a.ta c.tn a.tc, .slice a.pa c.pn a.pc], .int .i64 0] w1 fun e w' => ∃ t p, e = .returned (.tuple #[.pointer (some ⟨t, 0, none⟩), .pointer (some ⟨p, 0, none⟩), .bool true]) ∧ ∃ cc, Ts w1 (fun _ => False) t cc p (hwOf c) (par c 0) (s0, fun _ => none) (fun _ => none) w') := fun w1 h => (over_ts (Below.refl _ _) h hm 0 hp1).mono (by rintro e w' ⟨t, p, rfl, cc, T, _⟩; exact ⟨t, p, rfl, cc, T⟩)
  obtain ⟨pb, po, hpa, hE⟩ := hc.p.at' hp1
  have HPA : Hid (a.pa = some ⟨pb, po, none⟩) := hpa
  have HQ : Hid (∀ W, Below w.heap.size w W → W.cell? ⟨pb, po + 3, none⟩ = some (.int .i64 (c.pf 0).t)) := fun W hW => by
    have h3 := hE.c3
    rw [Nat.zero_mul, Nat.add_zero] at h3
    exact (hW.cell (p := ⟨pb, po + 3, none⟩) hE.lt).trans h3
  have HLS : Hid (Lsp w ao n ys) := hs
  have hpc : c.pn ≤ a.pc := hc.ple
  unfold maxLen at hl
  have I3 := index3
  clear hpa hE hs hO
  go_enter Tryz.func4, Tryz.ntmps4
  go_upto_region 1 with fail
  obtain ⟨W, hW, HB⟩ : ∃ W, (w.alloc (.cells #[.int .i64 c.F, .int .i64 c.C, .int .i64 c.W, .int .i64 c.S, .int .i64 c.V, .int .i64 c.T, .int .u64 c.k.l1, .int .u64 c.k.llc, .int .u64 c.k.mi, .int .u64 c.k.fa, .int .u64 c.k.st, .int .u64 c.k.di, .int .u64 c.sl, .int .u64 c.pd, .int .u64 c.ft, .slice a.ta c.tn a.tc, .slice a.pa c.pn a.pc] 28)) = W ∧ Hid (Cb w W w.heap.size a c) := ⟨_, rfl, HB0⟩
  rw [hW]
  clear hW HB0 hc hm
  go_wp2_with fail
  refine (awake_any _).mono ?_
  rintro _ w1 ⟨rfl, k1⟩
  have H1 : Hid (Cb w w1 w.heap.size a c) := HB.out.below k1
  clear HB k1
  have hld := H1.out.bx.ld
  go_wp2_with (refine wpList_load_at rfl 28 (.tmp 2) rfl _ _ rfl hld ?_)
  refine (C2.out _ H1.out.ci).mono ?_
  rintro _ w2 ⟨rfl, k2⟩
  have H2 : Hid (Cb w w2 w.heap.size a c) := H1.out.below k2
  clear H1 k2 hld C2
  have hld := H2.out.bx.ld
  go_wp2_with (refine wpList_load_at rfl 28 (.tmp 2) rfl _ _ rfl hld ?_)
  refine (CV.out _ H2.out.ci).mono ?_
  rintro _ w3 ⟨t, p, rfl, cc, K3⟩
  have u0 : cU ((s0, fun _ => none) : E.Sc × Us).2 3 4096 = 0 := cU_none _ _
  have un : ((s0, fun _ => none) : E.Sc × Us).2 = fun _ => none := rfl
  generalize ((s0, fun _ => none) : E.Sc × Us) = S0 at *
  have HUN : Hid (S0.2 = fun _ => none) := un
  have CR : Hid (Calls Tryz.prog 23 #[.pointer (some ⟨t, 0, none⟩)] w3 _) := K3.root (by rw [u0]; omega)
  clear K3 hld CV u0 un
  go_wp2_with fail
  refine CR.out.mono ?_
  rintro e w4 ⟨r, rfl, S1, D1, K4, _⟩
  have HL1 : Hid (Pl (par c 0) (B.pt (fun _ => none) r (some 0)) r S1 [] []) := Pl.root D1 HUN.out
  have HK4 : Hid (∀ o1 o2 : Obj, Ts w2 (fun _ => False) t cc p (hwOf c) (par c 0) S1 (B.pt (fun _ => none) r (some 0)) ((w4.alloc o1).alloc o2)) := fun o1 o2 => K4.below (below2 _ _ _)
  clear CR K4 D1 HUN
  generalize B.pt (fun _ => none) r (some 0) = m at *
  go_wp2_with fail
  have HF0 : Hid (Fr w2 ((w4.alloc (.cells #[] 76)).alloc (.cells #[] 74)) t cc p c S1 m [] [] [] (.slice (some ⟨w4.heap.size + 1, 0, none⟩) 0 0) (.slice (some ⟨w4.heap.size, 0, none⟩) 0 0) (.slice none 0 0) (fun _ => False) 0) := Fr.begin (HK4.out _ _) _ _
  clear HK4
  generalize (w4.alloc (.cells #[] 76)).alloc (.cells #[] 74) = W0 at *
  go_loopw [10, 11, 12] (fun v10 v11 i wr => ∃ (k : Nat) (vs vn : Value) (S : E.Sc × Us) (now : List (Int × Int)) (set : List (Nat × Int)), vs = v10 ∧ vn = v11 ∧ k ≤ 20 ∧ k ≤ n ∧ i = .int .i64 k ∧ Pl (par c 0) m r S now set ∧ Fr w2 wr t cc p c S m now [] set vn vs (.slice none 0 0) (fun _ => False) k) (fun _ _ i _ => 20 - (D.iv i).toNat)
  case atStart => exact ⟨0, _, _, S1, [], [], rfl, rfl, by omega, by omega, rfl, HL1.out, HF0.out⟩
  case round =>
    obtain ⟨k, vs, vn, S, now, set, h10, h11, hk20, hkn, rfl, hL, hF⟩ := hrel
    subst h10
    subst h11
    have HL : Hid (Pl (par c 0) m r S now set) := hL
    have HF : Hid (Fr w2 wr t cc p c S m now [] set vn vs (.slice none 0 0) (fun _ => False) k) := hF
    clear hL hF HL1 HF0
    by_cases hlt : k < n ∧ k < 20
    case' pos =>
      obtain ⟨hkn', hk20'⟩ := hlt
      have hbe : Below w.heap.size w wr := H2.out.be.trans (HF.out.be.mono H2.out.be.size)
      obtain ⟨lb, lo, la, lc, rfl, hlc, hsp, hwf, hln⟩ := HLS.out.at' hbe hkn'
      have hft := fitted_ok (cap := lc) hsp hln hwf
      have CF : Hid (Calls Tryz.prog 24 #[.slice la (ys k).length lc] wr fun e w' => ∃ vl xs, e = .returned vl ∧ Fr w2 w' t cc p c S m now xs set vn vs vl (fun _ => False) k) := hft.mono (by rintro e w' ⟨v, rfl, h1, h2⟩; exact ⟨v, _, rfl, HF.out.span h2 h1 (ftd_ok _)⟩)
      clear hsp hwf hft hbe HF
      have ix1 : (0 : Int) ≤ (k : Int) := Int.natCast_nonneg k
      have ix2 : (k : Int) < (n : Int) := Int.ofNat_lt.2 hkn'
      generalize (ys k).length = yl at *
      go_wp2_with fail
      refine CF.out.mono ?_
      rintro e w5 ⟨vl, xs, rfl, hF⟩
      have HF5 : Hid (Fr w2 w5 t cc p c S m now xs set vn vs vl (fun _ => False) k) := hF
      obtain ⟨_, ⟨xa, xc, hxl⟩, _⟩ := hF.shape
      subst hxl
      have CT : Hid (Calls Tryz.prog 25 #[.slice xa xs.length xc] w5 fun e w' => e = .returned (.tuple #[.int .i64 (A.total xs : Nat), .int .i64 0]) ∧ Fr w2 w' t cc p c S m now xs set vn vs (.slice xa xs.length xc) (fun _ => False) k) := (hF.tables rfl).mono (by rintro e w' ⟨rfl, b⟩; exact ⟨rfl, hF.below b⟩)
      clear hF HF5 CF hlc
      go_wp2_with fail
      refine CT.out.mono ?_
      rintro e w6 ⟨rfl, hF⟩
      have CC : Hid (Calls Tryz.prog 26 #[.pointer (some ⟨t, 0, none⟩), .int .i64 (r : Nat)] w6 fun e w' => e = .returned (.tuple #[.int .i64 (all (pr (wd S.1.m) r) : Nat), .int .i64 0]) ∧ Fr w2 w' t cc p c S m now xs set vn vs (.slice xa xs.length xc) (fun _ => False) k) := (hF.count HL.out.rt).mono (by rintro e w' ⟨rfl, b⟩; exact ⟨rfl, hF.below b⟩)
      clear hF CT
      go_wp2_with fail
      refine CC.out.mono ?_
      rintro e w7 ⟨rfl, hF⟩
      have CI : Hid (Calls _ _ _ _ _) := hF.fit1 HL.out rfl
      clear hF CC
      go_wp2_with fail
      refine CI.out.mono ?_
      rintro e w8 ⟨n1, o, g, rfl, S', hO, hF⟩
      have HO1 : Hid (Fo1 (par c 0) m r S S' now xs set n1 o g) := hO
      have CC : Hid (Calls Tryz.prog 26 #[.pointer (some ⟨t, 0, none⟩), .int .i64 (r : Nat)] w8 fun e w' => e = .returned (.tuple #[.int .i64 (all (pr (wd S'.1.m) r) : Nat), .int .i64 0]) ∧ Fr w2 w' t cc p c S' m now xs set vn vs (.slice xa xs.length xc) (fun _ => False) k) := (hF.count HL.out.rt).mono (by rintro e w' ⟨rfl, b⟩; exact ⟨rfl, hF.below b⟩)
      clear hF CI hO
      go_wp2_with fail
      refine CC.out.mono ?_
      rintro e w9 ⟨rfl, hF⟩
      have HF9 : Hid (Fr w2 w9 t cc p c S' m now xs set vn vs (.slice xa xs.length xc) (fun _ => False) k) := hF
      have CN : Hid (Calls Tryz.prog 14 #[.pointer (some ⟨p, 0, none⟩)] w9 fun e w' => ∃ x0 x1 x2 x4 x5 x6 : Nat, e = .returned (.agg #[.int .i64 (x0 : Nat), .int .i64 (x1 : Nat), .int .i64 (x2 : Nat), .int .i64 (all (pr (wd S'.1.m) r) : Nat), .int .i64 (x4 : Nat), .int .i64 (x5 : Nat), .int .i64 (x6 : Nat)]) ∧ Fr w2 w' t cc p c S' m now xs set vn vs (.slice xa xs.length xc) (fun _ => False) k) := hF.counts.mono (by
        rintro e w' ⟨x0, x1, x2, x4, x5, x6, rfl, b⟩
        rw [HO1.out.cu]
        exact ⟨x0, x1, x2, x4, x5, x6, rfl, hF.below b⟩)
      clear hF CC HF9
      have hal := HO1.out.al
      have hal' := HO1.out.al'
      have hnb := HO1.out.nb
      have hob := HO1.out.ob
      have HWay : Hid ((g = 0 ∧ all (pr (wd S.1.m) r) + n1 = all (pr (wd S'.1.m) r) + o ∧ all (pr (wd S'.1.m) r) = A.total xs ∧ Pl (par c 0) m r S' xs (kpt xs set)) ∨ (g = 4 ∧ all (pr (wd S'.1.m) r) = all (pr (wd S.1.m) r) ∧ (par c 0).q 3 < A.total xs ∧ Pl (par c 0) m r S' now set)) := HO1.out.w
      clear HO1 HL
      generalize all (pr (wd S.1.m) r) = N0 at *
      generalize all (pr (wd S'.1.m) r) = N1 at *
      generalize A.total xs = TT at *
      go_upto_if 110 with (go_at_call 14; refine CN.out.mono ?_; rintro e w10 ⟨x0, x1, x2, x4, x5, x6, rfl, hF⟩; have HF10 : Hid (Fr w2 w10 t cc p c S' m now xs set vn vs (.slice xa xs.length xc) (fun _ => False) k) := hF; clear hF)
      clear CN
      go_cut [10, 11] from 52 to 217 (fun t10 t11 wx => ∃ (now' : List (Int × Int)) (set' : List (Nat × Int)) (vn' vs' : Value), vs' = t10 ∧ vn' = t11 ∧ Pl (par c 0) m r S' now' set' ∧ Fr w2 wx t cc p c S' m now' [] set' vn' vs' (.slice none 0 0) (fun _ => False) k)
      case first =>
        rcases HWay.out with ⟨hg, h1, h2, hL⟩ | ⟨hg, h1, h2, hL⟩
        case' inl =>
          have hgb : ((g : Int) == 0) = true := by simp [hg]
          have e1 : ((N1 : Int) != (TT : Int)) = false := by simp [h2]
          have e2 : (((N0 : Int) + (n1 : Int) - (o : Int)) != (N1 : Int)) = false := by simp; omega
          have HL' : Hid (Pl (par c 0) m r S' xs (kpt xs set)) := hL
          have ck := kept_ok (cap2 := xc) HF10.out.rd (by have := HF10.out.sl; omega) HF10.out.sp (HF10.out.spn rfl) (by have := HF10.out.xv.len; omega) HF10.out.xv.may
          have CK : Hid (Calls Tryz.prog 28 #[vs, .slice xa xs.length xc] w10 fun e w' => ∃ v', e = .returned v' ∧ Fr w2 w' t cc p c S' m xs [] (kpt xs set) (.slice xa xs.length xc) v' (.slice none 0 0) (fun _ => False) k) := ck.mono (by
            rintro e w' ⟨v', rfl, h3, h4⟩
            have hle : (kpt xs set).length ≤ k := by
              unfold kpt
              have := List.length_filter_le (fun x : Nat × Int => nd xs 3 (x.1 / 32)) set
              have := HF10.out.sl
              omega
            exact ⟨v', rfl, (HF10.out.row h4 h3 hle (fun x hx => HF10.out.sp x (List.mem_filter.1 hx).1)).turn.clear⟩)
          clear ck hL h1 h2 hg HWay HF10
          go_wp2_with (go_at_call 28; refine CK.out.mono ?_; rintro e w11 ⟨v', rfl, hF⟩; have HF11 : Hid (Fr w2 w11 t cc p c S' m xs [] (kpt xs set) (.slice xa xs.length xc) v' (.slice none 0 0) (fun _ => False) k) := hF; clear hF)
          go_meet
          case rel => exact ⟨xs, _, _, _, rfl, rfl, HL'.out, HF11.out⟩
        case' inr =>
          have hgb : ((g : Int) == 0) = false := by simp [hg]
          have hgc : ((g : Int) != 4) = false := by simp [hg]
          have e1 : ((N1 : Int) != (N0 : Int)) = false := by simp [h1]
          have e3 : decide ((TT : Int) ≤ (c.pf 0).t) = false := by rw [decide_eq_false_iff_not]; omega
          have HL' : Hid (Pl (par c 0) m r S' now set) := hL
          have hsv := H2.out.bx.below (HF10.out.be)
          have k16 := hsv.c16
          rw [HPA.out] at k16
          have kt := HQ.out w10 (H2.out.be.trans (HF10.out.be.mono H2.out.be.size))
          have hpn1 : (0 : Int) < (c.pn : Int) := Int.ofNat_lt.2 hp1
          clear hL h1 h2 hg HWay hsv
          go_wp2
          go_meet
          case rel => exact ⟨now, _, _, _, rfl, rfl, HL'.out, HF10.out.clear⟩
      case rest =>
      obtain ⟨now', set', vn', vs', h10, h11, hL, hF⟩ := hcut
      subst h10
      subst h11
      obtain ⟨W3, hW3⟩ : ∃ W3, W3 = wc := ⟨_, rfl⟩
      subst hW3
      have HL2 : Hid (Pl (par c 0) m r S' now' set') := hL
      have HF2 : Hid (Fr w2 W3 t cc p c S' m now' [] set' vn' vs' (.slice none 0 0) (fun _ => False) k) := hF
      obtain ⟨⟨na, nc, hvn⟩, _, ⟨sa, sc, hvs⟩⟩ := hF.shape
      subst hvn
      subst hvs
      obtain ⟨bb, hbb⟩ : ∃ bb : Bool, bb = decide (0 < now'.length ∧ 0 < (now'.getD 0 (0, 0)).2) := ⟨_, rfl⟩
      have HBB : Hid (bb = decide (0 < now'.length ∧ 0 < (now'.getD 0 (0, 0)).2)) := hbb
      clear hL hF HF10 HWay hbb hnb hob hal hal'
      go_upto_region 30 with fail
      go_cut [152] from 52 to 217 (fun t152 wx => t152 = .bool bb ∧ wx = W3)
      case first =>
        by_cases h0 : 0 < now'.length
        case' pos =>
          obtain ⟨nb, hna, hnb, c0, c1⟩ := HF2.out.now0 rfl h0
          subst hna
          have hg0 : now'.getD 0 (0, 0) = now'[0] := getD_at h0
          have hni : (0 : Int) < (now'.length : Int) := Int.ofNat_lt.2 h0
          have hn0 : ¬ now'.length = 0 := Nat.pos_iff_ne_zero.1 h0
          have HB2 : Hid (bb = decide (0 < now'[0].2)) := by unfold Hid; rw [HBB.out, hg0]; simp [h0]
          generalize now'[0].2 = NN at *
          clear hg0
          go_wp2_with fail
          go_meet
          case rel => exact ⟨by rw [HB2.out]; rfl, rfl⟩
        case' neg =>
          have hn0 : now'.length = 0 := by omega
          have HB2 : Hid (bb = false) := by unfold Hid; rw [HBB.out, hn0]; simp
          have hni : decide ((0 : Int) < (now'.length : Int)) = false := by rw [decide_eq_false_iff_not]; omega
          clear hn0
          go_wp2_with fail
          go_meet
          case rel => exact ⟨by rw [HB2.out], rfl⟩
      case rest =>
      obtain ⟨h152, hwc⟩ := hcut
      subst h152
      subst hwc
      go_upto_if 152 with fail
      go_cut [10] from 52 to 217 (fun t10 wx => ∃ (S2 : E.Sc × Us) (set2 : List (Nat × Int)) (vs2 : Value), vs2 = t10 ∧ Pl (par c 0) m r S2 now' set2 ∧ Fr w2 wx t cc p c S2 m now' [] set2 (.slice na now'.length nc) vs2 (.slice none 0 0) (fun _ => False) (k + 1))
      case first =>
        cases bb
        case' false =>
          go_wp2
          go_meet
          case rel => exact ⟨S', set', _, rfl, HL2.out, HF2.out.up (by omega)⟩
        case' true =>
          obtain ⟨h0, hN⟩ : 0 < now'.length ∧ 0 < (now'.getD 0 (0, 0)).2 := by
            have := HBB.out
            exact of_decide_eq_true this.symm
          rw [getD_at h0] at hN
          obtain ⟨nb, hna, hnb, c0, c1⟩ := HF2.out.now0 rfl h0
          subst hna
          obtain ⟨pg, hpg⟩ : ∃ pg : Nat, now'[0].1 = pg := ⟨now'[0].1.toNat, by have := HF2.out.nv.at' _ (List.getElem_mem h0); omega⟩
          have hpg2 : pg < 1048576 := by have := HF2.out.nv.at' _ (List.getElem_mem h0); omega
          rw [hpg] at c0
          have hni : (0 : Int) < (now'.length : Int) := Int.ofNat_lt.2 h0
          have hn0 : ¬ now'.length = 0 := Nat.pos_iff_ne_zero.1 h0
          have HFm : Hid (Fr w2 (wc.alloc (.cells #[.int .i64 (pg : Nat), .bool false, .bool true, .bool true, .bool false, .bool false, .bool false, .int .i64 (k : Nat)] 76)) t cc p c S' m now' [] set' (.slice (some ⟨nb, 0, none⟩) now'.length nc) (.slice sa set'.length sc) (.slice none 0 0) (fun x => x = wc.heap.size) k) := HF2.out.make _
          have BXm : Hid (C.Blk (wc.alloc (.cells #[.int .i64 (pg : Nat), .bool false, .bool true, .bool true, .bool false, .bool false, .bool false, .int .i64 (k : Nat)] 76)) wc.heap.size 76 [.int .i64 (pg : Nat), .bool false, .bool true, .bool true, .bool false, .bool false, .bool false, .int .i64 (k : Nat)]) := C.blk_new _ _ _
          have CS : Hid (Calls _ _ _ _ _) := HFm.out.put HL2.out h0 hN hpg hk20'
          have HMC : Hid (mc (pg, 6 + (k : Int) * 256) = [.int .i64 (pg : Nat), .bool false, .bool true, .bool true, .bool false, .bool false, .bool false, .int .i64 (k : Nat)]) := by
            unfold Hid mc
            rw [show (6 + (k : Int) * 256) = N.lo false true true false false false + ((k : Nat) : Int) * 256 from rfl, ec_word (by omega) (by omega)]
          have HN0 : Hid (0 < now'[0].2) := hN
          clear hN hpg HBB HF2 HL2
          go_wp2_with fail
          refine CS.out.mono ?_
          rintro e w12 ⟨rfl, S2, hL, hF, hsm⟩
          have HL3 : Hid (Pl (par c 0) m r S2 now' (wot (pg : Int) set' ++ [(pg, 6 + (k : Int) * 256)])) := hL
          have HF3 : Hid (Fr w2 w12 t cc p c S2 m now' [] set' (.slice (some ⟨nb, 0, none⟩) now'.length nc) (.slice sa set'.length sc) (.slice none 0 0) (fun x => x = wc.heap.size) k) := hF
          have BX : Hid (C.Blk w12 wc.heap.size 76 [.int .i64 (pg : Nat), .bool false, .bool true, .bool true, .bool false, .bool false, .bool false, .int .i64 (k : Nat)]) := BXm.out.of_eq (hsm _ rfl)
          clear hL hF hsm CS HFm BXm c0 c1
          generalize wc.heap.size = gx at *
          have HB8 : Hid (∀ W, Below w12.heap.size w12 W → W.cell? ⟨gx, 0, none⟩ = some (.int .i64 (pg : Nat)) ∧ W.cell? ⟨gx, 1, none⟩ = some (.bool false) ∧ W.cell? ⟨gx, 2, none⟩ = some (.bool true) ∧ W.cell? ⟨gx, 3, none⟩ = some (.bool true) ∧ W.cell? ⟨gx, 4, none⟩ = some (.bool false) ∧ W.cell? ⟨gx, 5, none⟩ = some (.bool false) ∧ W.cell? ⟨gx, 6, none⟩ = some (.bool false) ∧ W.cell? ⟨gx, 7, none⟩ = some (.int .i64 (k : Nat))) := fun W hW => by
            have b := BX.out.of_eq (hW.block _ BX.out.lt)
            exact ⟨b.cell 0, b.cell 1, b.cell 2, b.cell 3, b.cell 4, b.cell 5, b.cell 6, b.cell 7⟩
          have CW : Hid (∀ W, Below w12.heap.size w12 W → Calls Tryz.prog 30 #[.slice sa set'.length sc, .int .i64 (pg : Nat)] W fun e w' => ∃ v', e = .returned v' ∧ Mr w' w12.heap.size v' (wot (pg : Int) set') ∧ Below w12.heap.size w12 w' ∧ Below W.heap.size W w') := fun W hW => by
            refine (without_ok (HF3.out.below hW).rd (by have := HF3.out.sl; omega) (pg : Int)).mono ?_
            rintro e w' ⟨v', rfl, h1, h2⟩
            exact ⟨v', rfl, row_base h1 hW.size, hW.trans (h2.mono hW.size), h2⟩
          have HLW : Hid ((wot (pg : Int) set').length ≤ k) := by
            unfold Hid wot
            have := List.length_filter_le (fun x : Nat × Int => decide ((x.1 : Int) ≠ (pg : Int))) set'
            have := HF3.out.sl
            omega
          have APP : Hid (∀ W v g, Below w12.heap.size w12 W → Mr W w12.heap.size v (wot (pg : Int) set') → (∀ j u, ([.int .i64 (pg : Nat), .bool false, .bool true, .bool true, .bool false, .bool false, .bool false, .int .i64 (k : Nat)] : List Value)[j]? = some u → W.cell? ((⟨g, 0, none⟩ : Addr).add j) = some u) → ∀ ty, ∃ v' w', (Builtin.append_ #[64, 64] ty #[v, .slice (some ⟨g, 0, none⟩) 1 1]).run Tryz.prog W = .ok v' w' ∧ (Mr w' w12.heap.size v' (wot (pg : Int) set' ++ [(pg, 6 + (k : Int) * 256)]) ∧ Below w12.heap.size w12 w')) := fun W v g hW hM hc ty => by
            obtain ⟨v', w', r1, r2, r3⟩ := app_m hM hW.size HMC.out g hc (by have := HLW.out; omega) ty
            exact ⟨v', w', r1, r2, grown_below r3 hW (fun x hx => (hM.own_lt x hx).1) hW.size⟩
          have BOX : Hid (∀ (W : World) (o : Obj), Below w12.heap.size w12 W → Below w12.heap.size w12 (W.alloc o)) := fun W o hW => hW.alloc hW.size _
          have HC2 : Hid (∀ w6, Below (w12.alloc (.cells #[.int .i64 (pg : Nat), .bool false, .bool true, .bool true, .bool false, .bool false, .bool false, .int .i64 (k : Nat)] 76)).drew.heap.size (w12.alloc (.cells #[.int .i64 (pg : Nat), .bool false, .bool true, .bool true, .bool false, .bool false, .bool false, .int .i64 (k : Nat)] 76)).drew w6 → ∀ j u, ([.int .i64 (pg : Nat), .bool false, .bool true, .bool true, .bool false, .bool false, .bool false, .int .i64 (k : Nat)] : List Value)[j]? = some u → w6.cell? ((⟨w12.heap.size, 0, none⟩ : Addr).add j) = some u) := fun w6 h6 j u hu => by
            have := cell_new w12 [.int .i64 (pg : Nat), .bool false, .bool true, .bool true, .bool false, .bool false, .bool false, .int .i64 (k : Nat)] 76 _ rfl j u hu
            rw [Go.WideShapes.add_plain] at this ⊢
            exact (h6.cell (p := ⟨w12.heap.size, 0 + j, none⟩) (by show w12.heap.size < (w12.alloc _).heap.size; simp)).trans this
          clear BX
          go_wp2_with fail
          have HBr0 : Hid (Below w12.heap.size w12 w12.drew) := (Below.refl _ _).drew
          go_region_held_law (fun W => W.cell? ⟨gx, 0, none⟩ = some (.int .i64 (pg : Nat)) ∧ W.cell? ⟨gx, 1, none⟩ = some (.bool false) ∧ W.cell? ⟨gx, 2, none⟩ = some (.bool true) ∧ W.cell? ⟨gx, 3, none⟩ = some (.bool true) ∧ W.cell? ⟨gx, 4, none⟩ = some (.bool false) ∧ W.cell? ⟨gx, 5, none⟩ = some (.bool false) ∧ W.cell? ⟨gx, 6, none⟩ = some (.bool false) ∧ W.cell? ⟨gx, 7, none⟩ = some (.int .i64 (k : Nat)))
            (first | exact HB8.out _ (Below.refl _ _) | exact HB8.out _ HBr0.out | exact HB8.out _ HB6.out | exact HB8.out _ (BOX.out _ _ HB6.out) | exact HB8.out _ (BOX.out _ _ (Below.refl _ _)).drew | exact HB8.out _ HB7.out)
            (first
              | (go_at_call 30; refine (CW.out _ (by first | exact HBr0.out | exact (BOX.out _ _ (Below.refl _ _)).drew)).mono ?_; rintro e w6 ⟨v6, rfl, hm6, hb6, hc6⟩; have HM6 : Hid (Mr w6 w12.heap.size v6 (wot (pg : Int) set')) := hm6; have HB6 : Hid (Below w12.heap.size w12 w6) := hb6; have HC6 : Hid (Below _ _ w6) := hc6; clear hm6 hb6 hc6)
              | (refine step_append_m rfl (.tmp 171) (.tmp 173) rfl v6 (.slice (some ⟨w6.heap.size, 0, none⟩) 1 1) rfl rfl (APP.out _ _ _ (BOX.out _ _ HB6.out) (HM6.out.below ((Below.refl _ _).alloc (Nat.le_refl _) _)) (cell_new w6 _ 76 _ rfl) _) ?_; rintro v7 w7 ⟨h7, b7⟩; have HM7 : Hid (Mr w7 w12.heap.size v7 (wot (pg : Int) set' ++ [(pg, 6 + (k : Int) * 256)])) := h7; have HB7 : Hid (Below w12.heap.size w12 w7) := b7; clear h7 b7)
              | (refine step_append_m rfl (.tmp 171) (.tmp 173) rfl v6 (.slice (some ⟨w12.heap.size, 0, none⟩) 1 1) rfl rfl (APP.out w6 v6 w12.heap.size HB6.out HM6.out (HC2.out w6 HC6.out) _) ?_; rintro v7 w7 ⟨h7, b7⟩; have HM7 : Hid (Mr w7 w12.heap.size v7 (wot (pg : Int) set' ++ [(pg, 6 + (k : Int) * 256)])) := h7; have HB7 : Hid (Below w12.heap.size w12 w7) := b7; clear h7 b7))
          all_goals
            simp only [List.getElem_toArray, List.getElem_cons_succ, List.getElem_cons_zero, List.set_cons_zero, List.set_cons_succ]
            go_wp2_with fail
            go_meet
            case rel => exact ⟨S2, _, _, rfl, HL3.out, (HF3.out.row HB7.out HM7.out (by rw [List.length_append, List.length_singleton]; have := HLW.out; omega) (fun x hx => by
              rcases List.mem_append.1 hx with q | q
              · exact HF3.out.sp x (List.mem_filter.1 q).1
              · rw [List.mem_singleton.1 q]; exact hpg2)).free⟩
      case rest =>
      obtain ⟨S2, set2, vs2, h10, hL, hF⟩ := hcut
      subst h10
      have HL4 : Hid (Pl (par c 0) m r S2 now' set2) := hL
      have HF4 : Hid (Fr w2 wc t cc p c S2 m now' [] set2 (.slice na now'.length nc) vs2 (.slice none 0 0) (fun _ => False) (k + 1)) := hF
      obtain ⟨_, _, ⟨ta, tc, hvs⟩⟩ := hF.shape
      subst hvs
      have CLs : Hid (Calls Tryz.prog 31 #[.pointer (some ⟨t, 0, none⟩), .int .i64 (r : Nat)] wc fun e w' => ∃ a cap, e = .returned (.tuple #[.slice a set2.length cap, .int .i64 0]) ∧ Fr w2 w' t cc p c S2 m now' [] set2 (.slice na now'.length nc) (.slice ta set2.length tc) (.slice none 0 0) (fun _ => False) (k + 1)) := (hF.list hL).mono (by rintro e w' ⟨a, cap, rfl, b⟩; exact ⟨a, cap, rfl, hF.below b⟩)
      clear hL hF HF2 HL2 HBB HF4
      go_wp2_with fail
      refine CLs.out.mono ?_
      rintro e w13 ⟨ga, gc, rfl, hF⟩
      have HF5 : Hid (Fr w2 w13 t cc p c S2 m now' [] set2 (.slice na now'.length nc) (.slice ta set2.length tc) (.slice none 0 0) (fun _ => False) (k + 1)) := hF
      have hsl : set2.length ≤ 4096 := by have := hF.sl; omega
      clear hF CLs
      go_wp2_with fail
      go_loopw [25] (fun z wr => ∃ i : Nat, i ≤ set2.length ∧ z = .int .i64 i ∧ Fr w2 wr t cc p c S2 m now' [] set2 (.slice na now'.length nc) (.slice ta set2.length tc) (.slice none 0 0) (fun _ => False) (k + 1)) (fun z _ => set2.length - (D.iv z).toNat)
      case atStart => exact ⟨0, by omega, rfl, HF5.out⟩
      case round =>
        obtain ⟨i, hi, rfl, hF⟩ := hrel
        have HFr : Hid (Fr w2 wr t cc p c S2 m now' [] set2 (.slice na now'.length nc) (.slice ta set2.length tc) (.slice none 0 0) (fun _ => False) (k + 1)) := hF
        clear hF HF5
        by_cases hlt2 : i < set2.length
        case' pos =>
          obtain ⟨x, hx⟩ : ∃ x, set2[i]? = some x := ⟨_, List.getElem?_eq_getElem hlt2⟩
          obtain ⟨sb, hsb, hsw, hc⟩ := HFr.out.rd.at' (Below.refl _ _) hx
          subst hsb
          obtain ⟨b1, b2, b3, b4, b5, b6, xa', hec⟩ : ∃ b1 b2 b3 b4 b5 b6 a, ec x.2 = [.bool b1, .bool b2, .bool b3, .bool b4, .bool b5, .bool b6, .int .i64 a] := ⟨_, _, _, _, _, _, _, rfl⟩
          have hmc : mc x = [.int .i64 (x.1 : Nat), .bool b1, .bool b2, .bool b3, .bool b4, .bool b5, .bool b6, .int .i64 xa'] := by unfold mc; rw [hec]
          have c0 : wr.cell? ⟨sb, i * 8, none⟩ = some (.int .i64 (x.1 : Nat)) := (cells8 hmc hc).1
          have cg := HFr.out.get HL4.out (List.mem_of_getElem? hx)
          rw [hec] at cg
          have CG : Hid (Calls Tryz.prog 32 #[.pointer (some ⟨t, 0, none⟩), .int .i64 (r : Nat), .int .i64 (x.1 : Nat)] wr fun e w' => e = .returned (.tuple #[.agg #[.bool b1, .bool b2, .bool b3, .bool b4, .bool b5, .bool b6, .int .i64 xa'], .int .i64 0]) ∧ Fr w2 w' t cc p c S2 m now' [] set2 (.slice na now'.length nc) (.slice (some ⟨sb, 0, none⟩) set2.length tc) (.slice none 0 0) (fun _ => False) (k + 1)) := cg
          have HX8 : Hid (∀ W, Fr w2 W t cc p c S2 m now' [] set2 (.slice na now'.length nc) (.slice (some ⟨sb, 0, none⟩) set2.length tc) (.slice none 0 0) (fun _ => False) (k + 1) → sb < W.heap.size ∧ W.cell? ⟨sb, i * 8, none⟩ = some (.int .i64 (x.1 : Nat)) ∧ W.cell? ⟨sb, i * 8 + 1, none⟩ = some (.bool b1) ∧ W.cell? ⟨sb, i * 8 + 2, none⟩ = some (.bool b2) ∧ W.cell? ⟨sb, i * 8 + 3, none⟩ = some (.bool b3) ∧ W.cell? ⟨sb, i * 8 + 4, none⟩ = some (.bool b4) ∧ W.cell? ⟨sb, i * 8 + 5, none⟩ = some (.bool b5) ∧ W.cell? ⟨sb, i * 8 + 6, none⟩ = some (.bool b6) ∧ W.cell? ⟨sb, i * 8 + 7, none⟩ = some (.int .i64 xa')) := fun W hW => by
            obtain ⟨sb', e, hlt, h'⟩ := hW.rd.at' (Below.refl _ _) hx
            obtain rfl : sb = sb' := by simpa using e
            exact ⟨hlt, cells8 hmc h'⟩
          have ix1 : (0 : Int) ≤ (i : Int) := Int.natCast_nonneg i
          have ix2 : (i : Int) < (set2.length : Int) := Int.ofNat_lt.2 hlt2
          have ix3 : decide ((i : Int) < (set2.length : Int)) = true := decide_eq_true ix2
          have ens := ne_self
          clear hc hec hmc cg hx
          go_wp2_with fail
          refine CG.out.mono ?_
          rintro e w14 ⟨rfl, hF⟩
          have HF6 : Hid (Fr w2 w14 t cc p c S2 m now' [] set2 (.slice na now'.length nc) (.slice (some ⟨sb, 0, none⟩) set2.length tc) (.slice none 0 0) (fun _ => False) (k + 1)) := hF
          obtain ⟨hs14, d0, d1, d2, d3, d4, d5, d6, d7⟩ := HX8.out _ hF
          have BX : Hid (∀ o : Obj, Below w14.heap.size w14 (w14.alloc o)) := fun o => (Below.refl _ _).alloc (Nat.le_refl _) _
          clear hF CG c0 HX8
          go_wp2
          go_quiet (fail)
          go_wp2
          go_roundw
          case rel => exact ⟨i + 1, by omega, by go_num, HF6.out.below (N.below_drewN (BX.out _) _)⟩
          case measure => simp [D.iv]; omega
        case' neg =>
          obtain rfl : i = set2.length := by omega
          go_wp2
          go_roundw
          case rel => exact ⟨k + 1, _, _, S2, now', set2, rfl, rfl, by omega, by omega, by go_num, HL4.out, HFr.out⟩
          case measure => simp [D.iv]; omega
    case' neg =>
      have h3 : (¬ k < n) ∨ (k < n ∧ ¬ k < 20) := by omega
      have CD : Hid (Calls _ _ _ _ _) := HF.out.drop HL.out
      clear hlt HF HL
      rcases h3 with h3 | ⟨h3, h3'⟩
      all_goals
        go_wp2_with fail
        refine CD.out.mono ?_
        rintro e w5 ⟨kd, hk0, hk4, rfl, hb5, hc5⟩
        have CC : Hid (Calls _ _ _ _ _) := hc5
        have HB5 : Hid (Below w.heap.size w w5) := H2.out.be.trans (hb5.mono H2.out.be.size)
        have hkd : decide ((0 : Int) < (kd : Int)) = true := by rw [decide_eq_true_eq]; omega
        clear hb5 hc5 CD
        go_wp2_with fail
        refine CC.out.mono ?_
        rintro e w6 ⟨x0, x1, x2, x4, x5, x6, rfl, hb6, hc6⟩
        have CW : Hid (Calls _ _ _ _ _) := hc6
        have HB6 : Hid (Below w.heap.size w w6) := HB5.out.trans (hb6.mono HB5.out.size)
        clear hb6 hc6 CC
        go_wp2_with (go_at_call 34; refine CW.out.mono ?_; rintro e w7 ⟨rfl, hb7⟩; have HB7 : Hid (Below w.heap.size w w7) := HB6.out.trans (hb7.mono HB6.out.size); clear hb7)
        go_ret
        exact ⟨rfl, HB7.out⟩
theorem fits_any {w : World} {a : Ad} {c : Cf} (hc : Cin w a c) {ao : Option Addr} {n cap : Nat} {ys : Nat → List (Int × Int)} (hl : n ≤ maxLen) (hs : Lsp w ao n ys) : Calls Tryz.prog 4 #[.agg #[.int .i64 c.F, .int .i64 c.C, .int .i64 c.W, .int .i64 c.S, .int .i64 c.V, .int .i64 c.T, .int .u64 c.k.l1, .int .u64 c.k.llc, .int .u64 c.k.mi, .int .u64 c.k.fa, .int .u64 c.k.st, .int .u64 c.k.di, .int .u64 c.sl, .int .u64 c.pd, .int .u64 c.ft, .slice a.ta c.tn a.tc, .slice a.pa c.pn a.pc], .slice ao n cap] w fun e w' => e = .returned (.bool true) ∧ Below w.heap.size w w' := by
  cases hm : may c
  · exact fits_no hc hm _
  · exact fits_ok hc hm hl hs
end Go.Proofs.YtiegcncpgjnpbaaGreat.Pg
