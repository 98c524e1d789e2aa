/- PoolApart walked; no condition but those that each theorem names. -/
import Derived.Test.YtifchflbhdnfaaaVAm
namespace Go.Proofs.Ytifchflbhdnfaaa.P
open Go.ChangeShapes Go.WideShapes Go.ChangeAt Go.RowKit
set_option linter.unusedVariables false
set_option maxRecDepth 8192

theorem nx_new' {P : Par} (hP : P.Ok) : ∃ a, Nx (opn P (fun _ => none) 0) P.o a := by
  have h3 := hP.o3
  refine nx_of_wh (q := 0) (by rw [opn_new]; exact B.St.new P.N) (by omega) ?_
  rw [opn_new, B.wh_op0]
  have := hP.im
  omega
set_option maxHeartbeats 8000000 in
theorem PoolApart_walk {w : World} {a : Ad} {c : Cf} (hc : Cin w a c) {ao : Option Addr} {len cap : Nat} (hd : Dos w ao len) (hl : len ≤ maxLen) :
    Calls Try.prog 3 #[.agg #[.int .i64 c.F, .int .i64 c.C, .int .i64 c.W, .int .i64 c.S, .int .i64 c.V, .int .i64 c.T, .int .u64 c.k.l1, .int .u64 c.k.llc, .int .u64 c.k.mi, .int .u64 c.k.fa, .int .u64 c.k.st, .int .u64 c.k.di, .int .u64 c.sl, .int .u64 c.pd, .int .u64 c.ft, .slice a.ta c.tn a.tc, .slice a.pa c.pn a.pc], .slice ao len cap] w (One (.bool true) w) := by
  have HB0 := cb_new hc
  have HD : Hid (Dos w ao len) := hd
  have HCin : Hid (Cin w a c) := hc
  have C0 : Hid (∀ W, Calls Try.prog 5 #[] W (One (.bool true) W)) := works_any
  have hl2 : (len : Int) ≤ 9223372036854775807 := by unfold maxLen at hl; omega
  have hpl := hc.pl
  have hmk : ∀ W : World, (Instr.makeSlice 25 (.int .i64 4096) (.int .i64 4096)).run Try.prog W = .ok (.slice (some ⟨W.heap.size, 0, none⟩) 4096 4096) (W.alloc (.cells (Array.replicate 4096 (.int .i64 0)) 3)) := fun W => make_ints 4096 (by omega) W
  clear hd hl hc
  go_enter Try.func3, Try.ntmps3
  go_upto_region 1 with fail
  obtain ⟨W, hW, HB⟩ : ∃ W, (w.alloc (.cells #[.int .i64 c.F, .int .i64 c.C, .int .i64 c.W, .int .i64 c.S, .int .i64 c.V, .int .i64 c.T, .int .u64 c.k.l1, .int .u64 c.k.llc, .int .u64 c.k.mi, .int .u64 c.k.fa, .int .u64 c.k.st, .int .u64 c.k.di, .int .u64 c.sl, .int .u64 c.pd, .int .u64 c.ft, .slice a.ta c.tn a.tc, .slice a.pa c.pn a.pc] 28)) = W ∧ Hid (Cb w W w.heap.size a c) := ⟨_, rfl, HB0⟩
  rw [hW]
  clear hW HB0
  go_wp2_with fail
  refine (C0.out _).mono ?_
  rintro e w1 ⟨rfl, k1⟩
  have H1 : Hid (Cb w w1 w.heap.size a c) := HB.out.below k1
  have T2 : Hid (Ta w (w1.alloc (.cells (Array.replicate 4096 (.int .i64 0)) 3)) a c w1.heap.size (fun _ => 0)) := ⟨H1.out.alloc _, cnt_new w1 4096 (fun _ => rfl), H1.out.bx.lt⟩
  clear HB k1 C0 H1
  go_upto_region 4 with fail
  generalize w1.alloc (.cells (Array.replicate 4096 (.int .i64 0)) 3) = w2 at *
  generalize w1.heap.size = go at *
  clear hmk
  go_wp2
  go_loopw [6] (fun z wr => ∃ n : Nat, n ≤ c.pn ∧ z = .int .i64 n ∧ ∃ f, Ta w wr a c go f ∧ (may c = true → ∀ g : Nat, f g ≠ 0 → Erl c n g) ∧ (may c = false → n = 0)) (fun z _ => c.pn - (B.iv z).toNat)
  case atStart => exact ⟨0, by omega, rfl, _, T2.out, fun _ g hg => absurd rfl hg, fun _ => rfl⟩
  case round =>
    obtain ⟨n, hn, rfl, f, hT, hE, hM0⟩ := hrel
    have HT : Hid (Ta w wr a c go f) := hT
    have HE : Hid (may c = true → ∀ g : Nat, f g ≠ 0 → Erl c n g) := hE
    have c16 := hT.cb.bx.c16
    have HBe : Hid (Below w.heap.size w wr) := hT.cb.be
    clear hT hE T2
    by_cases hjl : n < c.pn ∧ n < 8
    · obtain ⟨hj1, hj2⟩ := hjl
      have hj1I : (n : Int) < (c.pn : Int) := by omega
      have hj2I : (n : Int) < 8 := by omega
      have hld := HT.out.cb.bx.ld
      by_cases hm : may c = true
      · have CN : Hid (∀ W, Cin W a c → Calls Try.prog 6 #[.agg #[.int .i64 c.F, .int .i64 c.C, .int .i64 c.W, .int .i64 c.S, .int .i64 c.V, .int .i64 c.T, .int .u64 c.k.l1, .int .u64 c.k.llc, .int .u64 c.k.mi, .int .u64 c.k.fa, .int .u64 c.k.st, .int .u64 c.k.di, .int .u64 c.sl, .int .u64 c.pd, .int .u64 c.ft, .slice a.ta c.tn a.tc, .slice a.pa c.pn a.pc], .int .i64 n] W fun e w' => ∃ p F, e = .returned (.tuple #[.pointer (some ⟨p, 0, none⟩), .int .i64 0]) ∧ Po w' F p (par c n) (fun _ => none) ∧ B.Kp (fun _ => False) F W w') := fun W hW => New_p hW n hm hj1
        have hO : c.Ok := may_iff.1 hm
        have HO : Hid c.Ok := hO
        have HE2 : Hid (∀ g : Nat, f g ≠ 0 → Erl c n g) := HE.out hm
        have HM : Hid (may c = true) := hm
        obtain ⟨ai, hai⟩ := nx_new' (par_ok hO hj1)
        have HA : Hid (Nx (opn (par c n) (fun _ => none) 0) (par c n).o ai) := hai
        have HLn : Hid ((2 ^ (par c n).o : Nat) ≤ 8) := by
          have := (pow_o (par_ok hO hj1).o3).2.1
          exact this
        clear hM0 hm hO hai HE
        go_wp2_with (refine wpList_load_at rfl 28 (.tmp 2) rfl _ _ rfl hld ?_)
        refine (CN.out _ HT.out.cb.ci).mono ?_
        rintro e w3 ⟨p, F3, rfl, hP3, hK3⟩
        have hgo := Cnt.lt' HT.out.cn
        have HT3 : Hid (Ta w w3 a c go f) := HT.out.below (kp_false hK3)
        have HF3 : Hid (∀ x, F3 x → go < x) := fun x hx => by
          rcases hK3.new x hx with z | z
          · exact z.elim
          · omega
        have CI : Hid (Calls _ _ _ _ _) := Image_p hP3 (cU_none _ _) ai HA.out
        have HG3 : Hid (go < w3.heap.size) := Cnt.lt' HT3.out.cn
        clear hld CN hK3 hP3 hgo HT
        go_wp2_with fail
        refine CI.out.mono ?_
        rintro e w4 ⟨v4, F4, rfl, hI4, hd4, hP4, hK4⟩
        have B4 : Hid (Tb w w4 a c go f n p F4 (mkI (par c n) (fun _ => none) ai (2 ^ (par c n).o)) w3.heap.size v4 (imgL (par c n) ai (2 ^ (par c n).o))) :=
          ⟨HT3.out.keep HCin.out hK4 HF3.out, hP4, fun x hx => by
            rcases hK4.new x hx with z | z
            · exact HF3.out x z
            · have := HG3.out; omega, hI4, HG3.out, hK4.size, hd4, Ml.image (par_ok HO.out hj1) ai _⟩
        have HL4 : Hid ((imgL (par c n) ai (2 ^ (par c n).o)).length ≤ 8) := by rw [imgL_len]; exact HLn.out
        clear CI hI4 hd4 hP4 hK4 HT3 HF3 HA HLn
        generalize imgL (par c n) ai (2 ^ (par c n).o) = M4 at *
        generalize mkI (par c n) (fun _ => none) ai (2 ^ (par c n).o) = us4 at *
        generalize w3.heap.size = bs at *
        obtain ⟨i0, hi0, hz0, hz1, hz2⟩ := info_parts B.Try.infoI
        go_wp2
        go_loopw [9, 11] (fun v z wr => ∃ (j : Nat) (vv : Value), vv = v ∧ j ≤ len ∧ j ≤ 40 ∧ z = .int .i64 j ∧ ∃ F us M, Tb w wr a c go f n p F us bs v M ∧ M.length ≤ 8 + j) (fun _ z _ => len - (B.iv z).toNat)
        case atStart => exact ⟨0, _, rfl, by omega, by omega, rfl, _, _, _, B4.out, HL4.out⟩
        case round =>
          obtain ⟨j, v, hvv, hj, hj40, rfl, F, us, M, hTb, hML⟩ := hrel
          subst hvv
          have TB : Hid (Tb w wr a c go f n p F us bs v M) := hTb
          clear hTb B4 HL4
          by_cases hjl : j < len ∧ j < 40
          · obtain ⟨hq1, hq2⟩ := hjl
            obtain ⟨b, off, K, A, U, rfl, d0, d1, d2, _, _, hU⟩ := HD.out.at' hq1 TB.out.ta.cb.be
            obtain ⟨u, hu⟩ : ∃ u, 2 + U % 5 = u := ⟨_, rfl⟩
            have hu2 : 2 ≤ u ∧ u ≤ 6 := by omega
            have HUS : Hid ((2 : Int) + (U : Int) % 5 = (u : Int)) := by show (2 : Int) + (U : Int) % 5 = (u : Int); omega
            clear hu d0 d1
            have hq1I : (j : Int) < (len : Int) := by omega
            have hq2I : (j : Int) < 40 := by omega
            have CT : Hid (Calls _ _ _ _ _) := Take_use TB.out.po u hu2.1 hu2.2
            go_wp2_with fail
            rw [HUS.out]
            refine CT.out.mono ?_
            rintro e w5 ⟨g5, e5, us5, F5, rfl, hT5, hP5, hK5⟩
            clear CT
            rcases hT5 with ⟨rfl, hT6, _⟩ | ⟨rfl, rfl, hus, _⟩
            · obtain ⟨hg, hus⟩ := hT6.was
              subst hus
              have TB5 : Hid (Tb w w5 a c go f n p F5 (B.pt us g5 (some u)) bs v M) := TB.out.take HCin.out hK5 hP5 TB.out.ml.mono
              have HM5 : Hid (Ml (B.pt us g5 (some u)) (M ++ [(g5 : Int)])) := TB.out.ml.add hg
              have HI5 : Hid (Is w5 bs v M) := TB5.out.is
              have hbw := TB5.out.bw
              clear hT6 hg hP5 hK5 TB
              go_wp2_with (at_builtin; refine wpList_append_lies _ rfl (.tmp 73) (.tmp 75) 25 rfl bs 3 i0 _ 1 8 Try.underlying25 hi0 hz0 hz1 hz2 rfl (by decide) v M.length (B.tv M) rfl (HI5.out.alloc _) ⟨w5.heap.size, 0, none⟩ 1 1 [.int .i64 g5] rfl rfl (cell_one_new _ _ _) (by intro u hu; simp at hu; subst hu; rfl) (by omega) (by unfold maxLen; omega) (by omega) (by simp; omega) (w5.heap.size + 1) (by simp) ?_; intro g6 k6 w6 o6 gr6 at6 lt6)
              have TB6 : Hid (Tb w w6 a c go f n p F5 (B.pt us g5 (some u)) bs (.slice (some ⟨g6, 0, none⟩) (M.length + 1) k6) (M ++ [(g5 : Int)])) := TB5.out.more HCin.out ((World.grownBy_alloc _ _ _).trans gr6) (is_snoc' o6) (by rcases at6 with q | q; exact Or.inl q; exact Or.inr (by omega)) HM5.out
              go_roundw
              case rel => exact ⟨j + 1, _, rfl, by omega, by omega, by go_num, _, _, _, TB6.out, by simp; omega⟩
              case measure => simp [B.iv]; omega
            · subst hus
              have TB5 : Hid (Tb w w5 a c go f n p F5 us5 bs v M) := TB.out.take HCin.out hK5 hP5 TB.out.ml
              clear hP5 hK5 TB
              go_wp2
              go_roundw
              case rel => exact ⟨j + 1, _, rfl, by omega, by omega, by go_num, _, _, _, TB5.out, by omega⟩
              case measure => simp [B.iv]; omega
          · obtain ⟨va, vc, rfl, _⟩ := TB.out.is.cell
            have HMt : Hid (Mt' c n M 0 f) := mt_zero HE2.out
            have hstop : ¬ j < len ∨ ¬ j < 40 := by omega
            by_cases hjl2 : j < len
            case' pos =>
              have hq1I : (j : Int) < (len : Int) := by omega
              have hq2I : ¬ ((j : Int) < 40) := by omega
            case' neg =>
              have hq1I : ¬ ((j : Int) < (len : Int)) := by omega
              have hq2I := True.intro
            all_goals (
              go_wp2
              clear hq1I hq2I hstop hjl2 hjl
              go_loopw [14] (fun z wr => ∃ i : Nat, i ≤ M.length ∧ z = .int .i64 i ∧ ∃ f', Tb w wr a c go f' n p F us bs (.slice va M.length vc) M ∧ Mt' c n M i f') (fun z _ => M.length - (B.iv z).toNat)
              case atStart => exact ⟨0, by omega, rfl, _, TB.out, HMt.out⟩
              case round =>
                obtain ⟨i, hi, rfl, f', hTb, hMt⟩ := hrel
                have TB2 : Hid (Tb w wr a c go f' n p F us bs (.slice va M.length vc) M) := hTb
                have HMt2 : Hid (Mt' c n M i f') := hMt
                by_cases hiM : i < M.length
                · obtain ⟨g, hgx, hg4, hg0⟩ := mt_free HO.out hj1 hTb.po.va hTb.ml hMt (List.getElem?_eq_getElem hiM)
                  have HGX : Hid (M[i]? = some (g : Int)) := by show M[i]? = some (g : Int); rw [List.getElem?_eq_getElem hiM, hgx]
                  obtain ⟨a1, c1, e1, h1⟩ := hTb.is.cell
                  cases e1
                  obtain ⟨gv, rfl, d1⟩ := h1 wr (Below.refl _ _) i hiM
                  rw [List.getD_eq_getElem?_getD, HGX.out] at d1
                  simp only [Option.getD_some] at d1
                  have d2 := hTb.ta.cn.cell hg4
                  rw [hg0] at d2
                  have d3 := hTb.ta.cn.frozen g
                  have TB3 : Hid (∃ f'', Tb w (wr.setCell ⟨go, g, none⟩ (.int .i64 (1 + n))) a c go f'' n p F us bs (.slice (some ⟨gv, 0, none⟩) M.length vc) M ∧ Mt' c n M (i + 1) f'') := ⟨fun x => if x = g then 1 + (n : Int) else f' x, TB2.out.own HCin.out g _ (fun _ => rfl), mt_next HMt2.out HGX.out (fun _ => rfl)⟩
                  have hiI : (i : Int) < (M.length : Int) := by omega
                  have hgI : (g : Int) < 4096 := by omega
                  have hgI0 : (0 : Int) ≤ (g : Int) := by omega
                  clear hTb hMt h1 hg0 hgx TB2 HMt2 TB
                  go_wp2
                  go_roundw
                  case rel => exact ⟨i + 1, by omega, by go_num, by obtain ⟨f'', q1, q2⟩ := TB3.out; exact ⟨f'', q1, q2⟩⟩
                  case measure => simp [B.iv]; omega
                · obtain rfl : i = M.length := by omega
                  have HEn : Hid (∀ g : Nat, f' g ≠ 0 → Erl c (n + 1) g) := mt_end HO.out hj1 hTb.po.va hTb.ml hMt
                  have HTn : Hid (Ta w wr a c go f') := hTb.ta
                  clear hTb hMt TB2 HMt2 TB
                  go_wp2
                  go_roundw
                  case rel => exact ⟨n + 1, by omega, by go_num, f', HTn.out, fun _ => HEn.out, fun q => by rw [HM.out] at q; cases q⟩
                  case measure => simp [B.iv]; omega)
      · have hmf : may c = false := by simpa using hm
        have hfe : fe c n = 5 := by unfold fe; rw [hmf]; rfl
        have CN : Hid (∀ W, Cin W a c → Calls Try.prog 6 #[.agg #[.int .i64 c.F, .int .i64 c.C, .int .i64 c.W, .int .i64 c.S, .int .i64 c.V, .int .i64 c.T, .int .u64 c.k.l1, .int .u64 c.k.llc, .int .u64 c.k.mi, .int .u64 c.k.fa, .int .u64 c.k.st, .int .u64 c.k.di, .int .u64 c.sl, .int .u64 c.pd, .int .u64 c.ft, .slice a.ta c.tn a.tc, .slice a.pa c.pn a.pc], .int .i64 n] W fun e w' => e = .returned (.tuple #[.pointer none, .int .i64 5]) ∧ Below W.heap.size W w') := fun W hW => by
          have := New_no hW n (by rw [hfe]; decide)
          rw [hfe] at this
          exact this
        have CM : Hid (∀ W, Cin W a c → Calls Try.prog 7 #[.agg #[.int .i64 c.F, .int .i64 c.C, .int .i64 c.W, .int .i64 c.S, .int .i64 c.V, .int .i64 c.T, .int .u64 c.k.l1, .int .u64 c.k.llc, .int .u64 c.k.mi, .int .u64 c.k.fa, .int .u64 c.k.st, .int .u64 c.k.di, .int .u64 c.sl, .int .u64 c.pd, .int .u64 c.ft, .slice a.ta c.tn a.tc, .slice a.pa c.pn a.pc]] W (One (.bool false) W)) := fun W hW => by rw [← hmf]; exact May_all hW
        clear hm hmf hfe hM0 HE
        go_wp2_with (refine wpList_load_at rfl 28 (.tmp 2) rfl _ _ rfl hld ?_)
        refine (CN.out _ HT.out.cb.ci).mono ?_
        rintro e w3 ⟨rfl, k3⟩
        have H3 : Hid (Cb w w3 w.heap.size a c) := HT.out.cb.below k3
        clear hld k3 CN HT
        have hld := H3.out.bx.ld
        go_wp2_with (refine wpList_load_wanted rfl 28 (.tmp 2) rfl _ _ rfl hld ?_)
        refine (CM.out _ H3.out.ci).mono ?_
        rintro e w4 ⟨rfl, k4⟩
        have H4 : Hid (Below w.heap.size w w4) := (H3.out.below k4).be
        clear hld k4 H3 CM
        go_wp2
        go_ret
        exact ⟨rfl, H4.out⟩
    · have hstop : ¬ n < c.pn ∨ ¬ n < 8 := by omega
      clear HT HE hM0
      by_cases hn2 : n < c.pn
      · have hj1I : (n : Int) < (c.pn : Int) := by omega
        have hj2I : ¬ ((n : Int) < 8) := by omega
        go_wp2
        go_ret
        exact ⟨rfl, HBe.out⟩
      · have hj1I : ¬ ((n : Int) < (c.pn : Int)) := by omega
        go_wp2
        go_ret
        exact ⟨rfl, HBe.out⟩
end Go.Proofs.Ytifchflbhdnfaaa.P
