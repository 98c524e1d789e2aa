/- PoolKnown walked; no condition. -/
import Derived.Test.YtifchflbhdnfaaaGreatVNf
namespace Go.Proofs.YtifchflbhdnfaaaGreat.P
open Go.ChangeShapes Go.WideShapes Go.ChangeAt Go.RowKit
set_option linter.unusedVariables false
set_option maxRecDepth 100000

set_option maxHeartbeats 4000000 in
theorem known_any (w : World) : Calls Tryz.prog 6 #[] w (One (.bool true) w) := by
  have CF : Hid (∀ w, Calls Tryz.prog 25 #[] w (Cfd w)) := fun w => conf_any w
  go_enter Tryz.func6, Tryz.ntmps6
  go_wp2_with fail
  refine (CF.out _).mono ?_
  rintro e w1 ⟨a, c, rfl, hcu, hci, hb1⟩
  have HX : Hid (∃ L, B.Blk (w1.alloc (.cells #[.int .i64 c.F, .int .i64 c.C, .int .i64 c.W, .int .i64 c.S, .int .i64 c.V, .int .i64 c.T, .int .u64 c.k.l1, .int .u64 c.k.llc, .int .u64 c.k.mi, .int .u64 c.k.fa, .int .u64 c.k.st, .int .u64 c.k.di, .int .u64 c.sl, .int .u64 c.pd, .int .u64 c.ft, .slice a.ta c.tn a.tc, .slice a.pa c.pn a.pc] 28)) w1.heap.size 28 L ∧ 1 < L.length) := ⟨_, B.blk_new w1 _ 28, by simp⟩
  have HBx : Hid (Sev _ _ _ _ ∧ Cin _ _ _ ∧ Below w1.heap.size w1 _) := box3 hcu hci
  have HB1 : Hid (Below w.heap.size w ((w1.alloc (.cells #[.int .i64 c.F, .int .i64 c.C, .int .i64 c.W, .int .i64 c.S, .int .i64 c.V, .int .i64 c.T, .int .u64 c.k.l1, .int .u64 c.k.llc, .int .u64 c.k.mi, .int .u64 c.k.fa, .int .u64 c.k.st, .int .u64 c.k.di, .int .u64 c.sl, .int .u64 c.pd, .int .u64 c.ft, .slice a.ta c.tn a.tc, .slice a.pa c.pn a.pc] 28)).setCell ⟨w1.heap.size, 1, none⟩ (.int .i64 3))) := hb1.trans ((box3 hcu hci).2.2.mono hb1.size)
  have HC1 : Hid ((w1.alloc (.cells #[.int .i64 c.F, .int .i64 c.C, .int .i64 c.W, .int .i64 c.S, .int .i64 c.V, .int .i64 c.T, .int .u64 c.k.l1, .int .u64 c.k.llc, .int .u64 c.k.mi, .int .u64 c.k.fa, .int .u64 c.k.st, .int .u64 c.k.di, .int .u64 c.sl, .int .u64 c.pd, .int .u64 c.ft, .slice a.ta c.tn a.tc, .slice a.pa c.pn a.pc] 28)).cell? ⟨w1.heap.size, 1, none⟩ = some (.int .i64 c.C)) := (sev_new w1 a c).c1
  have st := stK w1 a c
  clear hcu hci hb1
  go_upto_region 2 with (refine wpList_store_at rfl 28 (.tmp 1) (.tmp 43) rfl _ _ rfl rfl st ?_)
  generalize w1.alloc (.cells #[.int .i64 c.F, .int .i64 c.C, .int .i64 c.W, .int .i64 c.S, .int .i64 c.V, .int .i64 c.T, .int .u64 c.k.l1, .int .u64 c.k.llc, .int .u64 c.k.mi, .int .u64 c.k.fa, .int .u64 c.k.st, .int .u64 c.k.di, .int .u64 c.sl, .int .u64 c.pd, .int .u64 c.ft, .slice a.ta c.tn a.tc, .slice a.pa c.pn a.pc] 28) = wb at *
  generalize w1.heap.size = g at *
  clear st
  obtain ⟨L, hL, hl1⟩ := HX.out
  have f1 := hL.frozen 1
  have c1 := HC1.out
  go_upto_region 3 with fail
  obtain ⟨hS2, hC2, hb2⟩ := HBx.out
  have HS2 : Hid (Sev _ _ _ _) := hS2
  have HI2 : Hid (Cin _ _ _) := hC2
  clear HX HBx HC1 hL hl1 f1 c1 hS2 hC2 hb2 L
  obtain ⟨d, hd⟩ : ∃ d, d = us3 := ⟨_, rfl⟩
  rw [← hd] at HS2 HI2
  have HD : Hid (d = us3) := hd
  clear hd
  generalize wb.setCell ⟨g, 1, none⟩ (.int .i64 3) = w2 at *
  go_wp2_with fail
  refine (CF.out _).mono ?_
  rintro e w3 ⟨a3, c3, rfl, hcu, hci, hb3⟩
  have HN : Hid (Calls _ _ _ _ _) := new2 hcu hci
  have HS3 : Hid (Sev w3 g a d) := HS2.out.below hb3
  have HI3 : Hid (Cin w3 a d) := HI2.out.below hb3
  have HB3 : Hid (Below w.heap.size w w3) := HB1.out.trans (hb3.mono HB1.out.size)
  clear hcu hci hb3 HS2 HI2 HB1
  go_wp2_with fail
  refine HN.out.mono ?_
  rintro e w4 ⟨rfl, hb4⟩
  have HS4 : Hid (Sev w4 g a d) := HS3.out.below hb4
  have HI4 : Hid (Cin w4 a d) := HI3.out.below hb4
  have HB4 : Hid (Below w.heap.size w w4) := HB3.out.trans (hb4.mono HB3.out.size)
  have hld := HS4.out.ld
  clear HN HS3 HI3 HB3 hb4
  go_wp2_with (refine wpList_load_at rfl 28 (.tmp 1) rfl _ _ rfl hld ?_)
  refine (new3 HD.out HI4.out).mono ?_
  rintro e w5 ⟨rfl, hb5⟩
  have HB5 : Hid (Below w.heap.size w w5) := HB4.out.trans (hb5.mono HB4.out.size)
  clear hld HS4 HI4 HB4 hb5 HD
  go_wp2_with fail
  refine (CF.out _).mono ?_
  rintro e w6 ⟨a6, c6, rfl, hcu, hci, hb6⟩
  have HN : Hid (Calls _ _ _ _ _) := newm hcu hci
  have HB6 : Hid (Below w.heap.size w w6) := HB5.out.trans (hb6.mono HB5.out.size)
  clear hcu hci hb6 HB5
  go_wp2_with fail
  refine HN.out.mono ?_
  rintro e w7 ⟨rfl, hb7⟩
  have HB7 : Hid (Below w.heap.size w w7) := HB6.out.trans (hb7.mono HB6.out.size)
  clear HN hb7 HB6
  go_wp2_with fail
  refine (CF.out _).mono ?_
  rintro e w8 ⟨a8, c8, rfl, hcu, hci, hb8⟩
  have HN : Hid (Calls _ _ _ _ _) := new0 hcu hci
  have HB8 : Hid (Below w.heap.size w w8) := HB7.out.trans (hb8.mono HB7.out.size)
  clear hcu hci hb8 HB7
  go_wp2_with fail
  refine HN.out.mono ?_
  rintro e w9 ⟨p, F9, rfl, hP9, hK9⟩
  have HB9 : Hid (Below w.heap.size w w9) := HB8.out.trans ((kp_false hK9).mono HB8.out.size)
  have HF9 : Hid (∀ x, F9 x → w.heap.size ≤ x) := fun x hx => by
    rcases hK9.new x hx with z | z
    · exact z.elim
    · exact Nat.le_trans HB8.out.size z
  have HP9 : Hid (Po w9 F9 p PU (fun _ => none)) := hP9
  have CC : Hid (Calls _ _ _ _ _) := Counts_p hP9
  obtain ⟨n0, n1, n2, n3, n4, n5, n6⟩ := u0_n
  rw [n0, n1, n2, n3, n4, n5, n6] at CC
  clear HN hP9 hK9 HB8 n0 n1 n2 n3 n4 n5 n6
  go_wp2_with fail
  refine CC.out.mono ?_
  rintro e w10 ⟨rfl, hb10⟩
  have HP10 : Hid (Po w10 F9 p PU (fun _ => none)) := HP9.out.below hb10
  have HB10 : Hid (Below w.heap.size w w10) := HB9.out.trans (hb10.mono HB9.out.size)
  have h7 := eq7 32 0 0 0 0 0 0
  have CFr : Hid (Calls _ _ _ _ _) := Free_p HP10.out
  rw [u0_fr] at CFr
  clear CC HP9 HB9 hb10
  go_wp2_with fail
  refine CFr.out.mono ?_
  rintro e w11 ⟨v11, rfl, hI11, hb11⟩
  obtain ⟨va, vc, rfl, hva⟩ := hI11.arg
  have HP11 : Hid (Po w11 F9 p PU (fun _ => none)) := HP10.out.below hb11
  have HB11 : Hid (Below w.heap.size w w11) := HB10.out.trans (hb11.mono HB10.out.size)
  have CE : Hid (∀ W, W = w11.alloc (.cells #[.int .i64 16, .int .i64 16] 3) → Calls Tryz.prog 17 #[.slice va 2 vc, .slice (some ⟨w11.heap.size, 0, none⟩) 2 2] W (One (.bool true) W)) := by
    rintro W rfl
    exact eq_two (hI11.below (below_new _ _)) (B.blk_new w11 [.int .i64 16, .int .i64 16] 3)
  clear CFr hI11 hb11 hva HP10 HB10 h7
  go_wp2_with fail
  refine (CE.out _ rfl).mono ?_
  rintro e w12 ⟨rfl, hb12⟩
  have HB12' : Hid (Below w11.heap.size w11 w12) := (below_new _ _).trans (hb12.mono (by simp))
  have HB12 : Hid (Below w.heap.size w w12) := HB11.out.trans (HB12'.out.mono HB11.out.size)
  have HP12 : Hid (Po w12 F9 p PU (fun _ => none)) := HP11.out.below HB12'.out
  have CW : Hid (Calls _ _ _ _ _) := Whole_p HP12.out
  rw [none_whole] at CW
  clear CE hb12 HB12' HB11 HP11
  go_wp2_with fail
  refine CW.out.mono ?_
  rintro e w13 ⟨rfl, hb13⟩
  have HP13 : Hid (Po w13 F9 p PU (fun _ => none)) := HP12.out.below hb13
  have HB13 : Hid (Below w.heap.size w w13) := HB12.out.trans (hb13.mono HB12.out.size)
  have CO : Hid (Calls _ _ _ _ _) := Owned_p HP13.out
  rw [none_us] at CO
  clear CW hb13 HB12 HP12
  go_wp2_with fail
  refine CO.out.mono ?_
  rintro e w14 ⟨v14, rfl, hO14, hb14⟩
  obtain ⟨oa, oc, rfl, _⟩ := hO14.cell
  have HP14 : Hid (Po w14 F9 p PU (fun _ => none)) := HP13.out.below hb14
  have HB14 : Hid (Below w.heap.size w w14) := HB13.out.trans (hb14.mono HB13.out.size)
  have CI : Hid (Calls _ _ _ _ _) := Image_p HP14.out (cU_none _ _) 0 u_nx
  rw [u_img] at CI
  clear CO hO14 hb14 HB13 HP13
  go_wp2_with fail
  refine CI.out.mono ?_
  rintro e w15 ⟨l, F15, rfl, hl15, hd15, hP15, hK15⟩
  have HB15 : Hid (Below w.heap.size w w15) := HB14.out.trans (hK15.below _ HB14.out.size HF9.out)
  have HF15 : Hid (∀ x, F15 x → w.heap.size ≤ x) := fun x hx => by
    rcases hK15.new x hx with z | z
    · exact HF9.out x z
    · exact Nat.le_trans HB14.out.size z
  have HP15 : Hid (Po w15 F15 p PU u1) := hP15
  have CI2 : Hid (Calls _ _ _ _ _) := Image_taken HP15.out (by rw [u1_c1]; decide)
  clear CI hl15 hd15 hP15 hK15 HB14 HP14 HF9
  go_wp2_with fail
  refine CI2.out.mono ?_
  rintro e w16 ⟨rfl, hw⟩
  obtain rfl := hw.symm
  clear CI2 hw
  have KQ : Hid (Kq w (w15.alloc (.cells #[.int .u8 2, .int .u8 3, .int .u8 3, .int .u8 4] 5)) p w15.heap.size (w15.heap.size + 1) F15 (vs 0) (.slice none 0 0) (toldL.take 0)) :=
    ⟨HB15.out.alloc HB15.out.size _, HP15.out.below (below_new _ _), HF15.out, Is.nil _ _, Nat.le_succ_of_le HB15.out.size, by simp, (fun k hk => by cases hk), B.blk_new w15 [.int .u8 2, .int .u8 3, .int .u8 3, .int .u8 4] 5, by omega, (fun z => by have := HP15.out.lt _ z; omega)⟩
  have LV : Hid (Lv PU (vs 0) (Lj 0)) := u1_lv
  clear HB15 HP15 HF15
  obtain ⟨i0, hi0, hz0, hz1, hz2⟩ := info_parts B.Tryz.infoI
  go_wp2_with fail
  generalize w15.alloc (.cells #[.int .u8 2, .int .u8 3, .int .u8 3, .int .u8 4] 5) = wl at *
  obtain ⟨bs, hbs⟩ : ∃ bs, w15.heap.size + 1 = bs := ⟨_, rfl⟩
  rw [hbs] at KQ
  generalize w15.heap.size = gU at *
  clear hbs
  go_loopw [13, 96] (fun v z wr => ∃ (j : Nat) (vv : Value), vv = v ∧ j ≤ 4 ∧ z = .int .i64 j ∧ ∃ F, Kq w wr p gU bs F (vs j) v (toldL.take j) ∧ Lv PU (vs j) (Lj j)) (fun _ z _ => 4 - (B.iv z).toNat)
  case atStart => exact ⟨0, _, rfl, by omega, rfl, _, KQ.out, LV.out⟩
  case round =>
    obtain ⟨j, v, hvv, hj, rfl, F, hk, hlv⟩ := hrel
    subst hvv
    have HK : Hid (Kq w wr p gU bs F (vs j) v (toldL.take j)) := hk
    have HL : Hid (Lv PU (vs j) (Lj j)) := hlv
    clear hk hlv KQ LV
    by_cases hlt : j < 4
    · have hcell := liK HK.out.li hlt
      have hq := useK_in hlt
      have hjI : (j : Int) < 4 := by omega
      have CT : Hid (Calls _ _ _ _ _) := Take_p HK.out.po (useK j) hq.1 hq.2 (quotaK hlt)
      have HT : Hid (∀ g us', Tkn PU (vs j) (useK j) g us' → g = frK j ∧ us' = vs (j + 1) ∧ Lv PU (vs (j + 1)) (Lj (j + 1))) := fun g us' h => tkK hlt HL.out h
      generalize useK j = u at *
      go_wp2_with fail
      refine CT.out.mono ?_
      rintro e w5 ⟨g5, us5, F5, rfl, hT5, hP5, hK5⟩
      obtain ⟨rfl, rfl, hL5⟩ := HT.out _ _ hT5
      have HK5 : Hid (Kq w w5 p gU bs F5 (vs (j + 1)) v (toldL.take j)) := HK.out.take hK5 hP5
      have HL5 : Hid (Lv PU (vs (j + 1)) (Lj (j + 1))) := hL5
      have HS : Hid (toldL.take j ++ [(frK j : Int)] = toldL.take (j + 1)) := told_succ hlt
      have HI5 : Hid (Is w5 bs v (toldL.take j)) := HK5.out.is
      have hbw := HK5.out.bw
      have hML : (toldL.take j).length ≤ 4 := by rw [List.length_take]; omega
      generalize toldL.take j = M at *
      generalize frK j = g5 at *
      clear CT hT5 hP5 hK5 HT HL HK hL5 hcell
      go_wp2_with (at_builtin; refine wpList_append_lies _ rfl (.tmp 106) (.tmp 108) 25 rfl bs 3 i0 _ 1 8 Tryz.underlying25 hi0 hz0 hz1 hz2 rfl (by decide) v M.length (B.tv M) rfl (HI5.out.alloc _) ⟨w5.heap.size, 0, none⟩ 1 1 [.int .i64 g5] rfl rfl (cell_one_new _ _ _) (by intro u hu; simp at hu; subst hu; rfl) (by omega) (by unfold maxLen; omega) (by omega) (by simp; omega) (w5.heap.size + 1) (by simp) ?_; intro g6 k6 w6 o6 gr6 at6 lt6)
      have HK6 : Hid (Kq w w6 p gU bs F5 (vs (j + 1)) (.slice (some ⟨g6, 0, none⟩) (M.length + 1) k6) (M ++ [(g5 : Int)])) := HK5.out.more ((World.grownBy_alloc _ _ _).trans gr6) (is_snoc' o6) (by rcases at6 with q | q; exact Or.inl q; exact Or.inr (by omega))
      go_roundw
      case rel => exact ⟨j + 1, _, rfl, by omega, by go_num, _, by rw [HS.out] at HK6; exact HK6.out, HL5.out⟩
      case measure => simp [B.iv]; omega
    · obtain rfl : j = 4 := by omega
      have HK4 : Hid (Kq w wr p gU bs F v5 v toldL) := HK.out
      clear HK HL
      obtain ⟨va, vc, rfl, _⟩ := HK4.out.is.arg
      have T1 : Hid (Calls _ _ _ _ _) := Take_arg HK4.out.po 1 (by omega)
      have QB : Hid (Below w.heap.size w wr ∧ (∀ x, F x → w.heap.size ≤ x) ∧ Po wr F p PU v5 ∧ Is wr bs (.slice va 4 vc) toldL) := ⟨HK4.out.be, HK4.out.fo, HK4.out.po, HK4.out.is⟩
      clear HK4
      go_upto_region 19 with fail
      rename_i Kc hKc
      go_cut [18, 19] from 111 to 115 (fun u v wc => v = .int .i64 2 ∧ Below w.heap.size w wc ∧ (∀ x, F x → w.heap.size ≤ x) ∧ Po wc F p PU v5 ∧ Is wc bs (.slice va 4 vc) toldL)
      case first =>
        go_wp2_with fail
        refine T1.out.mono ?_
        rintro e w1' ⟨rfl, hw⟩
        obtain rfl := hw.symm
        clear T1 hw
        go_wp2_with fail
        go_meet
        case rel => exact ⟨rfl, QB.out⟩
      case rest =>
        obtain ⟨rfl, k1, k2, k3, k4⟩ := hcut
        exact hKc _ _ (known_b w _ p bs vc va F k1 k2 k3 k4 _ _ _ _ _ _ _ _ _ _ _ _ _ _ _ _ _ _ _ _ _ _ _ _ _ _ _ _ _ _ _ _ _ _ _ _ _ _ _ _ _ _ _ _ _ _ _ _ _ _ _ _ _ _ _ _ _ _ _ _ _ _ _ _ _ _ _ _ _ _ _ _ _ _ _ _ _ _ _ _ _ _ _ _ _ _ _ _ _ _ _ _ _ _ _ _ _ _ _ _ _ _ _ _ _ _ _ _ _ _ _ _ _ _ _ _ _ _ _ _ _ _ _ _ _ _ _ _ _ _ _ _ _ _ _ _ _ _ _ _ _ _ _ _ _ _ _ _ _ _ _ _ _ _ _ _ _ _ _ _ _ _ _ _ _ _ _ _ _ _ _ _ _ _ _ _ _ _ _ _ _ _ _ _ _ _ _ _ _ _ _ _ _ _ _ _ _ _ _ _ _ _ _ _ _ _ _ _ _ _ _ _ _ _ _ _ _ _ _ _ _ _ _ _ _ _ _ _ _ _ _ _ _ _ _ _ _ _ _ _ _ _ _ _ _ _ _ _ _ _ _ _ _ _ _ _ _ _ _ _ _ _ _ _ _ _ _ _ _ _ _ _ _ _ _ _ _ _ _ _ _ _ _ _ _ _ _ _ _ _ _ _ _ _ _ _ _ _ _ _ _ _ _ _ _ _ _ _ _ _ _ _ _ _)
end Go.Proofs.YtifchflbhdnfaaaGreat.P
