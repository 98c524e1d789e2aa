/- PoolAdds walked; no condition but those that each theorem names. -/
import Derived.Test.YtifchflbhdnfaaaGreatVTn
namespace Go.Proofs.YtifchflbhdnfaaaGreat.P
open Go.ChangeShapes Go.WideShapes Go.ChangeAt Go.RowKit
set_option linter.unusedVariables false
set_option maxRecDepth 8192

theorem arg_congr {W : World} {q : Option Addr} {l : Nat} {f f' : Nat → Int} (h : Arg W q l f) (e : ∀ i, i < l → f' i = f i) : Arg W q l f' := by
  rcases h with h | ⟨b, off, h1, h2, h3⟩
  · exact Or.inl h
  · exact Or.inr ⟨b, off, h1, h2, fun i hi => by rw [e i hi]; exact h3 i hi⟩
theorem or3 {a b c d : Prop} (h : a ∨ b ∨ c) (ka : a → d) (kb : b → d) (kc : c → d) : d := h.elim ka (fun q => q.elim kb kc)
theorem Tkn.was' {P : Par} {us : Us} {u g : Nat} {us' : Us} (h : Tkn P us u g us') : us g = none ∧ us' = B.pt us g (some u) := by
  obtain ⟨a, h1, h2, h3⟩ := h
  subst h2
  exact ⟨(opn_iff.1 h1.open).2, h3⟩
theorem img_ones {P : Par} (a m : Nat) : ∀ g u, mkI P (fun _ => none) a m g = some u → u = 1 := by
  intro g u h
  by_cases q : ∃ t, t < m ∧ g = fm P 0 (a + t)
  · obtain ⟨t, h1, rfl⟩ := q
    rw [mkI_in _ a h1] at h
    cases h
    rfl
  · rw [mkI_out _ a g (fun t ht e => q ⟨t, ht, e⟩)] at h
    cases h
set_option maxHeartbeats 16000000 in
theorem PoolAdds_ok {w : World} {a : Ad} {c : Cf} (hc : Cin w a c) (n : Nat) (hm : may c = true) (hn : n < c.pn) {ao : Option Addr} {len cap : Nat} (hd : Dos w ao len) (hl : len ≤ maxLen) :
    Calls Tryz.prog 4 #[.agg #[.int .i64 c.F, .int .i64 c.C, .int .i64 c.W, .int .i64 c.S, .int .i64 c.V, .int .i64 c.T, .int .u64 c.k.l1, .int .u64 c.k.llc, .int .u64 c.k.mi, .int .u64 c.k.fa, .int .u64 c.k.st, .int .u64 c.k.di, .int .u64 c.sl, .int .u64 c.pd, .int .u64 c.ft, .slice a.ta c.tn a.tc, .slice a.pa c.pn a.pc], .int .i64 n, .slice ao len cap] w (One (.bool true) w) := by
  have HB0 := cb_new hc
  have HCin : Hid (Cin w a c) := hc
  have HD : Hid (Dos w ao len) := hd
  have hl2 : (len : Int) ≤ 9223372036854775807 := by unfold maxLen at hl; omega
  have C0 : Hid (∀ W, Calls Tryz.prog 18 #[] W (One (.bool true) W)) := works_any
  have CN : Hid (∀ W, Cin W a c → Calls Tryz.prog 7 #[.agg #[.int .i64 c.F, .int .i64 c.C, .int .i64 c.W, .int .i64 c.S, .int .i64 c.V, .int .i64 c.T, .int .u64 c.k.l1, .int .u64 c.k.llc, .int .u64 c.k.mi, .int .u64 c.k.fa, .int .u64 c.k.st, .int .u64 c.k.di, .int .u64 c.sl, .int .u64 c.pd, .int .u64 c.ft, .slice a.ta c.tn a.tc, .slice a.pa c.pn a.pc], .int .i64 n] W fun e w' => ∃ p F, e = .returned (.tuple #[.pointer (some ⟨p, 0, none⟩), .int .i64 0]) ∧ Po w' F p (par c n) (fun _ => none) ∧ B.Kp (fun _ => False) F W w') := fun W hW => New_p hW n hm hn
  have CA : Hid (∀ W p F us, Cin W a c → Po W F p (par c n) us → Calls Tryz.prog 22 #[.agg #[.int .i64 c.F, .int .i64 c.C, .int .i64 c.W, .int .i64 c.S, .int .i64 c.V, .int .i64 c.T, .int .u64 c.k.l1, .int .u64 c.k.llc, .int .u64 c.k.mi, .int .u64 c.k.fa, .int .u64 c.k.st, .int .u64 c.k.di, .int .u64 c.sl, .int .u64 c.pd, .int .u64 c.ft, .slice a.ta c.tn a.tc, .slice a.pa c.pn a.pc], .int .i64 n, .pointer (some ⟨p, 0, none⟩)] W (One (.bool true) W)) := fun W p F us h1 h2 => adds_ok h1 n hm hn h2
  have HP : Hid (par c n).Ok := par_ok (may_iff.1 hm) hn
  have HR : Hid (Prn c n) := prn_of (may_iff.1 hm) hn
  obtain ⟨ai, hai⟩ := (show ∃ a, Nx (opn (par c n) (fun _ => none) 0) (par c n).o a from by
    have h3 := HP.out.o3
    refine nx_of_wh (q := 0) (by rw [opn_new]; exact B.St.new _) (by omega) ?_
    rw [opn_new, B.wh_op0]
    have := HP.out.im
    omega)
  have HA : Hid (Nx (opn (par c n) (fun _ => none) 0) (par c n).o ai) := hai
  have HA2 : Hid (Nx (opn (par c n) (fun _ => none) 0) (par c n).o ai) := hai
  have HRm : Hid (Room (par c n) (fun _ => none) ai (2 ^ (par c n).o)) := room_of hai.wh.1 hai.wh.2
  have hpl := hc.pl
  have hp1 : (n : Int) < (c.pn : Int) := by omega
  have hp0 : (0 : Int) ≤ (n : Int) := by omega
  obtain ⟨ui, hui⟩ : ∃ ui, mkI (par c n) (fun _ => none) ai (2 ^ (par c n).o) = ui := ⟨_, rfl⟩
  have HUI : Hid (mkI (par c n) (fun _ => none) ai (2 ^ (par c n).o) = ui) := hui
  have HOne : Hid (∀ g u, ui g = some u → u = 1) := by rw [← hui]; exact img_ones ai _
  obtain ⟨q1, q2, q3⟩ := pow_o HP.out.o3
  have ho3 := HP.out.o3
  clear hc hd hl hm hai hui
  go_enter Tryz.func4, Tryz.ntmps4
  go_upto_region 1 with fail
  obtain ⟨W, hW, HB⟩ : ∃ W, (w.alloc (.cells #[.int .i64 c.F, .int .i64 c.C, .int .i64 c.W, .int .i64 c.S, .int .i64 c.V, .int .i64 c.T, .int .u64 c.k.l1, .int .u64 c.k.llc, .int .u64 c.k.mi, .int .u64 c.k.fa, .int .u64 c.k.st, .int .u64 c.k.di, .int .u64 c.sl, .int .u64 c.pd, .int .u64 c.ft, .slice a.ta c.tn a.tc, .slice a.pa c.pn a.pc] 28)) = W ∧ Hid (Cb w W w.heap.size a c) := ⟨_, rfl, HB0⟩
  rw [hW]
  clear hW HB0
  go_wp2_with fail
  refine (C0.out _).mono ?_
  rintro e w1 ⟨rfl, k1⟩
  have H1 : Hid (Cb w w1 w.heap.size a c) := HB.out.below k1
  have hld := H1.out.bx.ld
  clear HB k1 C0
  go_wp2_with (refine wpList_load_at rfl 28 (.tmp 3) rfl _ _ rfl hld ?_)
  refine (CN.out _ H1.out.ci).mono ?_
  rintro e w2 ⟨p, F2, rfl, hP2, hK2⟩
  have T2 : Hid (Tc w w2 a c n p F2 (fun _ => none)) := tc_new H1.out hK2 hP2
  have HS2 : Hid (w.heap.size + 1 ≤ w2.heap.size) := T2.out.cb.bx.lt
  have CF : Hid (Calls _ _ _ _ _) := Free_p hP2
  clear hld H1 hP2 hK2
  go_wp2_with fail
  refine CF.out.mono ?_
  rintro e w3 ⟨v1, rfl, hI3, hb3⟩
  have T3 : Hid (Tc w w3 a c n p F2 (fun _ => none)) := T2.out.below hb3
  have HI3 : Hid (Is w3 (w.heap.size + 1) v1 (frs (par c n) (fun _ => none) (par c n).k) ∧ ∀ g, v1.ownBlock = some g → ¬ F2 g) := ⟨hI3.less HS2.out, fun g hg z => by have h1 := (hI3.lt g hg).1; have h2 := T2.out.po.lt g z; omega⟩
  have CI : Hid (Calls _ _ _ _ _) := Image_p T3.out.po (cU_none _ _) ai HA.out
  clear CF hI3 hb3 T2
  go_wp2_with fail
  refine CI.out.mono ?_
  rintro e w4 ⟨vi, F4, rfl, hIi, _, hP4, hK4⟩
  rw [HUI.out] at hP4
  obtain ⟨ia, ic, rfl, _⟩ := hIi.cell
  rw [imgL_len]
  have TS4 : Hid (Ts w w4 a c n p F4 ui v1 (frs (par c n) (fun _ => none) (par c n).k) (.slice none 0 0) []) :=
    ⟨T3.out.turn HCin.out hK4 hP4, (HI3.out.1.kp hK4 HI3.out.2).1, (HI3.out.1.kp hK4 HI3.out.2).2, Is.nil _ _, (fun g hg => by cases hg), (fun g _ h => by cases h)⟩
  have TL4 : Hid (Tl ui ui []) := tl_new HOne.out
  obtain ⟨b, off, hq, ⟨_, e0, e1, e2, e3, e4, e5, e6, e7⟩⟩ := TS4.out.tc.cb.ci.p.at' hn
  have c16 := TS4.out.tc.cb.bx.c16
  rw [hq] at c16
  rw [← HR.out.o] at e1
  generalize hLv : frs (par c n) (fun _ => none) (par c n).k = L1 at *
  have HLv : Hid (frs (par c n) (fun _ => none) (par c n).k = L1) := hLv
  clear hLv CI hIi hP4 hK4 T3 HI3 hq e0 e2 e3 e4 e5 e6 e7 HA
  generalize hSe : 2 ^ (par c n).o = S at *
  have HSe : Hid (2 ^ (par c n).o = S) := hSe
  clear hSe
  obtain ⟨i0, hi0, hz0, hz1, hz2⟩ := info_parts B.Tryz.infoI
  go_wp2
  clear e1 c16
  go_loopw [11, 12] (fun v z wr => ∃ (j : Nat) (vv : Value), vv = v ∧ j ≤ len ∧ j ≤ 80 ∧ z = .int .i64 j ∧ ∃ F us M, Ts w wr a c n p F us v1 L1 v M ∧ Tl ui us M ∧ M.length ≤ j) (fun _ z _ => len - (B.iv z).toNat)
  case atStart => exact ⟨0, _, rfl, by omega, by omega, rfl, _, _, _, TS4.out, TL4.out, by simp⟩
  case round =>
    obtain ⟨j, v, hvv, hj, hj80, rfl, F, us, M, hT, hTl, hML⟩ := hrel
    subst hvv
    obtain ⟨va, vc, rfl, _⟩ := hT.tw.cell
    obtain ⟨LM, hLM⟩ : ∃ LM, M.length = LM := ⟨_, rfl⟩
    rw [hLM] at hT hML ⊢
    have HLM : Hid (M.length = LM) := hLM
    have TS : Hid (Ts w wr a c n p F us v1 L1 (.slice va LM vc) M) := hT
    have TL : Hid (Tl ui us M) := hTl
    clear hT hTl TS4 TL4 hLM
    by_cases hjl : j < len ∧ j < 80
    · obtain ⟨hq1, hq2⟩ := hjl
      obtain ⟨b, off, K, A, U, rfl, d0, d1, d2, hK, hA, hU⟩ := HD.out.at' hq1 TS.out.tc.cb.be
      obtain ⟨u, hu⟩ : ∃ u, 2 + U % 5 = u := ⟨_, rfl⟩
      have hu2 : 2 ≤ u ∧ u ≤ 6 := by omega
      have HUS : Hid ((2 : Int) + (U : Int) % 5 = (u : Int)) := by show (2 : Int) + (U : Int) % 5 = (u : Int); omega
      have CW2 : Hid (∀ W, Calls Tryz.prog 10 #[.int .i64 K, .int .i64 2] W fun e w' => e = .returned (.int .i64 (K % 2)) ∧ w' = W) := fun W => within_any K 2 (by omega) (by omega) hK.1 (by omega) W
      have hr0 := Int.emod_nonneg K (show (2 : Int) ≠ 0 by omega)
      have hr1 := Int.emod_lt_of_pos K (show (0 : Int) < 2 by omega)
      have hq1I : (j : Int) < (len : Int) := by omega
      have hq2I : (j : Int) < 80 := by omega
      obtain ⟨r, hr⟩ : ∃ r, K % 2 = r := ⟨_, rfl⟩
      rw [hr] at CW2 hr0 hr1
      clear hu hr hK
      have HMl : Hid (LM ≤ j) := hML
      have hways : r = 0 ∨ (r = 1 ∧ LM = 0) ∨ (r = 1 ∧ 0 < LM) := by omega
      have CT : Hid (Calls _ _ _ _ _) := Take_use TS.out.tc.po u hu2.1 hu2.2
      apply or3 hways
      case' ka =>
        intro hr
        subst hr
        go_wp2_with (go_at_call 10; refine (CW2.out _).mono ?_; rintro e w' ⟨rfl, h⟩; obtain rfl := h.symm)
      case' kb =>
        rintro ⟨hr, hM0⟩
        subst hr
        have hM1 : ((LM : Int) == 0) = true := by simp [hM0]
        have hM2 : decide ((LM : Int) = 0) = true := by simp [hM0]
        clear hM0
        go_wp2_with (go_at_call 10; refine (CW2.out _).mono ?_; rintro e w' ⟨rfl, h⟩; obtain rfl := h.symm)
        clear hM1 hM2
      case kc =>
        rintro ⟨hr, hM0⟩
        subst hr
        obtain ⟨kk, hkk⟩ : ∃ kk : Nat, A % (LM : Int) = kk := ⟨(A % (LM : Int)).toNat, by have := Int.emod_nonneg A (show (LM : Int) ≠ 0 by omega); omega⟩
        have hkl : kk < LM := by have := Int.emod_lt_of_pos A (show (0 : Int) < (LM : Int) by omega); omega
        have CW3 : Hid (∀ W, Calls Tryz.prog 10 #[.int .i64 A, .int .i64 LM] W fun e w' => e = .returned (.int .i64 kk) ∧ w' = W) := fun W => by
          have := within_any A LM (by omega) (by omega) hA.1 (by omega) W
          rw [hkk] at this
          exact this
        obtain ⟨x, hx⟩ : ∃ x, M[kk]? = some x := ⟨_, List.getElem?_eq_getElem (by rw [HLM.out]; exact hkl)⟩
        obtain ⟨g, gu, hxg, hgu, hus⟩ := TL.out.at' hx
        subst hxg
        have HX : Hid (M[kk]? = some (g : Int)) := hx
        obtain ⟨a2, c2, e2, hcell⟩ := TS.out.tw.cell
        rw [HLM.out] at e2 hcell
        cases e2
        obtain ⟨gv, rfl, t1⟩ := hcell wr (Below.refl _ _) kk hkl
        rw [List.getD_eq_getElem?_getD, hx] at t1
        simp only [Option.getD_some] at t1
        have CG : Hid (Calls Tryz.prog 13 #[.pointer (some ⟨p, 0, none⟩), .int .i64 g] wr _) := Give_p TS.out.tc.po g gu hus hgu
        have TL5 : Hid (Tl ui (B.pt us g none) (M.take kk ++ M.drop (kk + 1))) := TL.out.give hx hgu hus
        have hg4 : g < 4096 := by
          obtain ⟨_, _, ii, yy, hii, hyy, hge⟩ := TS.out.tc.po.va.us1 g gu hus
          rw [hge]
          exact fm_lt HP.out hii hyy
        have hM1 : ((LM : Int) == 0) = false := by simp; omega
        have hM2 : decide ((LM : Int) = 0) = false := by simp; omega
        have hkI : (kk : Int) < (LM : Int) := by omega
        have HM0 : Hid (0 < LM) := hM0
        clear CT hcell hx hus hkk hA d2 hM0
        go_wp2_with fail
        refine (CW2.out _).mono ?_
        rintro e w' ⟨rfl, h⟩
        obtain rfl := h.symm
        go_wp2_with fail
        refine (CW3.out _).mono ?_
        rintro e w' ⟨rfl, h⟩
        obtain rfl := h.symm
        clear CW2 CW3 d0 d1
        go_wp2_with fail
        refine CG.out.mono ?_
        rintro e w5 ⟨F5, rfl, hP5, hK5⟩
        have TS5 : Hid (Ts w w5 a c n p F5 (B.pt us g none) v1 L1 (.slice (some ⟨gv, 0, none⟩) LM vc) M) := TS.out.pool HCin.out hK5 hP5
        obtain ⟨a2, c2, e2, hcell⟩ := TS5.out.tw.cell
        rw [HLM.out] at e2 hcell
        cases e2
        obtain ⟨gv', e3, t2⟩ := hcell w5 (Below.refl _ _) kk hkl
        cases e3
        rw [List.getD_eq_getElem?_getD, HX.out] at t2
        simp only [Option.getD_some] at t2
        have hno : ∀ y : Nat, (g : Int) = y → (B.pt us g none) y = none := fun y hy => by
          obtain rfl : g = y := by omega
          simp [B.pt]
        have CG2 : Hid (Calls Tryz.prog 13 #[.pointer (some ⟨p, 0, none⟩), .int .i64 g] w5 fun e w' => e = .returned (.int .i64 91) ∧ w' = w5) := Give_none hP5 g (by omega) (by omega) hno
        clear hno
        have HCell : Hid (∀ W, Below w5.heap.size w5 W → ∀ i y, M[i]? = some y → W.cell? ⟨gv, i, none⟩ = some (.int .i64 y)) := fun W hW i y hy => by
          obtain ⟨hlt, _⟩ := List.getElem?_eq_some_iff.1 hy
          obtain ⟨gz, e4, t4⟩ := hcell W hW i (by rw [← HLM.out]; exact hlt)
          cases e4
          rw [t4, List.getD_eq_getElem?_getD, hy]
          rfl
        clear CG hP5 hK5 hcell t1 TS
        go_wp2_with fail
        refine CG2.out.mono ?_
        rintro e w' ⟨rfl, h⟩
        obtain rfl := h.symm
        clear CG2 t2
        have HTL : Hid ((M.take kk).length = kk ∧ (M.drop (kk + 1)).length = LM - (kk + 1)) := by
          show _ ∧ _
          rw [List.length_take, List.length_drop, HLM.out]
          omega
        have hvc : LM ≤ vc := by
          rcases TS5.out.tw.own.shape with ⟨e9, _⟩ | ⟨_, _, _, e9, _, e8, _⟩
          · cases e9
          · simp only [Value.slice.injEq] at e9
            obtain ⟨_, _, rfl⟩ := e9
            rw [HLM.out] at e8
            exact e8
        have CCp : Hid (∀ W, Below w5.heap.size w5 W → Calls Tryz.prog 21 #[.slice (some ⟨gv, 0, none⟩) kk vc] W fun e w' => ∃ v, e = .returned v ∧ Is w' w5.heap.size v (M.take kk) ∧ Below w5.heap.size w5 w') := fun W hW => by
          have h1 := HMl.out
          have := copy_is (w := W) (b := gv) (off := 0) (c := vc) (M.take kk) (by rw [HTL.out.1]; omega) (fun i y hy => by
            have hi : i < kk := by have := (List.getElem?_eq_some_iff.1 hy).1; rwa [HTL.out.1] at this
            rw [List.getElem?_take_of_lt hi] at hy
            rw [Nat.zero_add]
            exact HCell.out W hW i y hy)
          rw [HTL.out.1] at this
          refine this.mono ?_
          rintro e w' ⟨v, rfl, q1, q2⟩
          exact ⟨v, rfl, q1.less hW.size, hW.trans (q2.mono hW.size)⟩
        have hkw : IntKind.i64.wrap ((kk : Int) + 1) = ((kk + 1 : Nat) : Int) := by rw [show ((kk : Int) + 1) = ((kk + 1 : Nat) : Int) by simp]; exact IntWalk.i64_in _ (by omega)
        obtain ⟨k1, hk1⟩ : ∃ k1, kk + 1 = k1 := ⟨_, rfl⟩
        have HK1 : Hid (kk + 1 = k1) := hk1
        rw [hk1] at hkw
        have APP : Hid (∀ W v off2 c2, Below w5.heap.size w5 W → Is W w5.heap.size v (M.take kk) → (off2 = k1 ∨ LM = k1) → ∀ ty, ∃ v' w', (Builtin.append_ #[25, 25] ty #[v, .slice (some ⟨gv, off2, none⟩) (LM - k1) c2]).run Tryz.prog W = .ok v' w' ∧ (Is w' w5.heap.size v' (M.take kk ++ M.drop (kk + 1)) ∧ Below w5.heap.size w5 w')) := fun W v off2 c2 hW hI hoff ty => by
          have h1 := HMl.out
          obtain ⟨v', w', r1, r2, r3⟩ := app_run hI hW.size gv off2 (LM - k1) c2 (M.drop (kk + 1)) (by rw [HTL.out.2, HK1.out]) (fun i y hy => by
            have hi := (List.getElem?_eq_some_iff.1 hy).1
            rw [HTL.out.2] at hi
            rw [List.getElem?_drop] at hy
            rcases hoff with rfl | hz
            · rw [← HK1.out]
              exact HCell.out W hW _ y hy
            · have := HK1.out
              omega) (by rw [HTL.out.1]; omega) ty
          refine ⟨v', w', r1, r2, hW.grown r3 hW.size (fun x hx => (hI.lt x hx).1)⟩
        have hk1l : k1 ≤ LM := by omega
        clear hk1
        have hk1c : k1 ≤ vc := by omega
        have hk1I : (k1 : Int) ≤ (LM : Int) := by omega
        have hkc : kk ≤ vc := by omega
        have hkcI : (kk : Int) ≤ (vc : Int) := by omega
        by_cases hcap : k1 = vc
        · have hlm : LM = k1 := by omega
          have HLk : Hid (LM = k1) := hlm
          subst hcap
          have APP0 : Hid (∀ W v, Below w5.heap.size w5 W → Is W w5.heap.size v (M.take kk) → ∀ ty, ∃ v' w', (Builtin.append_ #[25, 25] ty #[v, .slice (some ⟨gv, 0, none⟩) 0 0]).run Tryz.prog W = .ok v' w' ∧ (Is w' w5.heap.size v' (M.take kk ++ M.drop (kk + 1)) ∧ Below w5.heap.size w5 w')) := fun W v hW hI ty => by
            have := APP.out W v 0 0 hW hI (Or.inr HLk.out) ty
            rw [show LM - k1 = 0 by omega] at this
            exact this
          clear hlm
          go_upto_region 23 with fail
          go_region_held_law (fun W => True) (trivial)
            (first
              | (refine step_append_any rfl (.tmp 145) (.tmp 149) rfl v6 (.slice (some ⟨gv, 0, none⟩) 0 0) (by simp [Act.eval]) (by simp [Act.eval]) (APP0.out w6 v6 HB6.out HI6.out _) ?_; rintro v7 w7 ⟨o7, g7⟩)
              | (go_at_call 21; refine (CCp.out _ (by first | exact (Below.refl _ _).drew | exact Below.refl _ _)).mono ?_; rintro e w6 ⟨v6, rfl, hI6, hb6⟩; have HI6 : Hid (Is w6 w5.heap.size v6 (M.take kk)) := hI6; have HB6 : Hid (Below w5.heap.size w5 w6) := hb6; clear hI6 hb6))
          obtain ⟨a7, c7, e7, _⟩ := o7.cell
          subst e7
          have TS7 : Hid (Ts w w7 a c n p F5 (B.pt us g none) v1 L1 (.slice a7 (M.take kk ++ M.drop (kk + 1)).length c7) (M.take kk ++ M.drop (kk + 1))) := TS5.out.told HCin.out ⟨g7.os, g7.tape, g7.output, g7.size, fun i hi _ => g7.block i hi⟩ (o7.less TS5.out.tc.cb.bx.lt) (fun x hx => Or.inr (o7.lt x hx).1)
          have HBg : Hid ((M.take kk ++ M.drop (kk + 1)).length ≤ j + 1) := by
            show (M.take kk ++ M.drop (kk + 1)).length ≤ j + 1
            rw [List.length_append, HTL.out.1, HTL.out.2]
            have := HMl.out
            omega
          clear o7 g7 HI6 HB6 TS5 HCell APP CCp
          go_upto_region 24 with fail
          have HT9 : Hid (Ts w w7 a c n p F5 (B.pt us g none) v1 L1 (.slice a7 (M.take kk ++ M.drop (kk + 1)).length c7) (M.take kk ++ M.drop (kk + 1))) := TS7.out
          have HL9 : Hid (Tl ui (B.pt us g none) (M.take kk ++ M.drop (kk + 1))) := TL5.out
          have HBd : Hid ((M.take kk ++ M.drop (kk + 1)).length ≤ j + 1) := HBg.out
          have HWh : Hid (decide (tU (B.pt us g none) = cU (B.pt us g none) 1 4096) = decide ((M.take kk ++ M.drop (kk + 1)).length = 0)) := HL9.out.whole HT9.out.tc.po.va HP.out
          obtain ⟨LL, hLL⟩ : ∃ LL, (M.take kk ++ M.drop (kk + 1)).length = LL := ⟨_, rfl⟩
          have HLL : Hid ((M.take kk ++ M.drop (kk + 1)).length = LL) := hLL
          rw [hLL] at HT9 HWh ⊢
          have hLb : LL ≤ 81 := by have := HBd.out; omega
          clear hLL
          have hld := HT9.out.tc.cb.bx.ld
          go_wp2_with (refine wpList_load_at rfl 28 (.tmp 3) rfl _ _ rfl hld ?_)
          refine (CA.out _ _ _ _ HT9.out.tc.cb.ci HT9.out.tc.po).mono ?_
          rintro e w10 ⟨rfl, k10⟩
          have HT10 : Hid (Ts w w10 a c n p F5 (B.pt us g none) v1 L1 (.slice a7 LL c7) (M.take kk ++ M.drop (kk + 1))) := HT9.out.below k10
          have CW : Hid (Calls _ _ _ _ _) := Whole_p HT10.out.tc.po
          rw [HWh.out] at CW
          clear hld k10 HT9 HWh
          go_wp2_with fail
          refine CW.out.mono ?_
          rintro e w11 ⟨rfl, k11⟩
          have HT11 : Hid (Ts w w11 a c n p F5 (B.pt us g none) v1 L1 (.slice a7 LL c7) (M.take kk ++ M.drop (kk + 1))) := HT10.out.below k11
          clear CW k11 HT10
          by_cases hL0 : LL = 0
          · subst hL0
            go_wp2
            go_roundw
            case rel => exact ⟨j + 1, _, rfl, by omega, by omega, by go_num, _, _, _, HT11.out, HL9.out, HBd.out⟩
            case measure => simp [B.iv]; omega
          · have hz1 : decide (LL = 0) = false := by simp [hL0]
            have hz2 : ((LL : Int) == 0) = false := by simp; omega
            have hz3 : decide ((LL : Int) = 0) = false := by simp; omega
            rw [hz1]
            go_wp2
            go_roundw
            case rel => exact ⟨j + 1, _, rfl, by omega, by omega, by go_num, _, _, _, HT11.out, HL9.out, HBd.out⟩
            case measure => simp [B.iv]; omega
        · have hcap2 : ¬ (vc - k1 = 0) := by omega
          have hcap3 : vc ≠ k1 := by omega
          go_upto_region 23 with fail
          go_region_held_law (fun W => True) (trivial)
            (first
              | (refine step_append_any rfl (.tmp 145) (.tmp 149) rfl v6 (.slice (some ⟨gv, k1, none⟩) (LM - k1) (vc - k1)) (by simp [Act.eval]) (by simp [Act.eval]) (APP.out w6 v6 k1 (vc - k1) HB6.out HI6.out (Or.inl rfl) _) ?_; rintro v7 w7 ⟨o7, g7⟩)
              | (go_at_call 21; refine (CCp.out _ (by first | exact (Below.refl _ _).drew | exact Below.refl _ _)).mono ?_; rintro e w6 ⟨v6, rfl, hI6, hb6⟩; have HI6 : Hid (Is w6 w5.heap.size v6 (M.take kk)) := hI6; have HB6 : Hid (Below w5.heap.size w5 w6) := hb6; clear hI6 hb6))
          obtain ⟨a7, c7, e7, _⟩ := o7.cell
          subst e7
          have TS7 : Hid (Ts w w7 a c n p F5 (B.pt us g none) v1 L1 (.slice a7 (M.take kk ++ M.drop (kk + 1)).length c7) (M.take kk ++ M.drop (kk + 1))) := TS5.out.told HCin.out ⟨g7.os, g7.tape, g7.output, g7.size, fun i hi _ => g7.block i hi⟩ (o7.less TS5.out.tc.cb.bx.lt) (fun x hx => Or.inr (o7.lt x hx).1)
          have HBg : Hid ((M.take kk ++ M.drop (kk + 1)).length ≤ j + 1) := by
            show (M.take kk ++ M.drop (kk + 1)).length ≤ j + 1
            rw [List.length_append, HTL.out.1, HTL.out.2]
            have := HMl.out
            omega
          clear o7 g7 HI6 HB6 TS5 HCell APP CCp
          go_upto_region 24 with fail
          have HT9 : Hid (Ts w w7 a c n p F5 (B.pt us g none) v1 L1 (.slice a7 (M.take kk ++ M.drop (kk + 1)).length c7) (M.take kk ++ M.drop (kk + 1))) := TS7.out
          have HL9 : Hid (Tl ui (B.pt us g none) (M.take kk ++ M.drop (kk + 1))) := TL5.out
          have HBd : Hid ((M.take kk ++ M.drop (kk + 1)).length ≤ j + 1) := HBg.out
          have HWh : Hid (decide (tU (B.pt us g none) = cU (B.pt us g none) 1 4096) = decide ((M.take kk ++ M.drop (kk + 1)).length = 0)) := HL9.out.whole HT9.out.tc.po.va HP.out
          obtain ⟨LL, hLL⟩ : ∃ LL, (M.take kk ++ M.drop (kk + 1)).length = LL := ⟨_, rfl⟩
          have HLL : Hid ((M.take kk ++ M.drop (kk + 1)).length = LL) := hLL
          rw [hLL] at HT9 HWh ⊢
          have hLb : LL ≤ 81 := by have := HBd.out; omega
          clear hLL
          have hld := HT9.out.tc.cb.bx.ld
          go_wp2_with (refine wpList_load_at rfl 28 (.tmp 3) rfl _ _ rfl hld ?_)
          refine (CA.out _ _ _ _ HT9.out.tc.cb.ci HT9.out.tc.po).mono ?_
          rintro e w10 ⟨rfl, k10⟩
          have HT10 : Hid (Ts w w10 a c n p F5 (B.pt us g none) v1 L1 (.slice a7 LL c7) (M.take kk ++ M.drop (kk + 1))) := HT9.out.below k10
          have CW : Hid (Calls _ _ _ _ _) := Whole_p HT10.out.tc.po
          rw [HWh.out] at CW
          clear hld k10 HT9 HWh
          go_wp2_with fail
          refine CW.out.mono ?_
          rintro e w11 ⟨rfl, k11⟩
          have HT11 : Hid (Ts w w11 a c n p F5 (B.pt us g none) v1 L1 (.slice a7 LL c7) (M.take kk ++ M.drop (kk + 1))) := HT10.out.below k11
          clear CW k11 HT10
          by_cases hL0 : LL = 0
          · subst hL0
            go_wp2
            go_roundw
            case rel => exact ⟨j + 1, _, rfl, by omega, by omega, by go_num, _, _, _, HT11.out, HL9.out, HBd.out⟩
            case measure => simp [B.iv]; omega
          · have hz1 : decide (LL = 0) = false := by simp [hL0]
            have hz2 : ((LL : Int) == 0) = false := by simp; omega
            have hz3 : decide ((LL : Int) = 0) = false := by simp; omega
            rw [hz1]
            go_wp2
            go_roundw
            case rel => exact ⟨j + 1, _, rfl, by omega, by omega, by go_num, _, _, _, HT11.out, HL9.out, HBd.out⟩
            case measure => simp [B.iv]; omega
      all_goals (
        rw [HUS.out]
        refine CT.out.mono ?_
        rintro e w5 ⟨g5, e5, us5, F5, rfl, hT5, hP5, hK5⟩
        have TS5 : Hid (Ts w w5 a c n p F5 us5 v1 L1 (.slice va LM vc) M) := TS.out.pool HCin.out hK5 hP5
        clear CT CW2 d0 d1 d2 hP5 hK5
        rcases hT5 with ⟨he, hT6, _⟩ | ⟨he, hg, hus, _⟩
        · subst he
          obtain ⟨hg, hus⟩ := hT6.was'
          subst hus
          have HI5 : Hid (Is w5 (w.heap.size + 1) (.slice va LM vc) M) := TS5.out.tw
          have hbw : w.heap.size + 1 ≤ w5.heap.size := TS5.out.tc.cb.bx.lt
          have TL5 : Hid (Tl ui (B.pt us g5 (some u)) (M ++ [(g5 : Int)])) := TL.out.take hg hu2.1
          have HOw : Hid (w5.ownsRow (w.heap.size + 1) 3 1 (.slice va LM vc) LM (B.tv M)) := by have := HI5.out; unfold Is at this; rw [HLM.out] at this; exact this
          clear hT6 hg TS TL
          go_upto_region 24 with (at_builtin; refine wpList_append_lies _ rfl (.tmp 108) (.tmp 110) 25 rfl (w.heap.size + 1) 3 i0 _ 1 8 Tryz.underlying25 hi0 hz0 hz1 hz2 rfl (by decide) (.slice va LM vc) LM (B.tv M) rfl (HOw.out.alloc _) ⟨w5.heap.size, 0, none⟩ 1 1 [.int .i64 g5] rfl rfl (cell_one_new _ _ _) (by intro u hu; simp at hu; subst hu; rfl) (by omega) (by unfold maxLen; omega) (by omega) (by simp; omega) (w5.heap.size + 1) (by simp) ?_; intro g6 k6 w6 o6 gr6 at6 lt6)
          have HI6 : Hid (Is w6 (w.heap.size + 1) (.slice (some ⟨g6, 0, none⟩) (M ++ [(g5 : Int)]).length k6) (M ++ [(g5 : Int)])) := by
            rw [← HLM.out] at o6
            have := is_snoc o6
            rw [show (M ++ [(g5 : Int)]).length = M.length + 1 by simp]
            exact this
          have TS6 : Hid (Ts w w6 a c n p F5 (B.pt us g5 (some u)) v1 L1 (.slice (some ⟨g6, 0, none⟩) (M ++ [(g5 : Int)]).length k6) (M ++ [(g5 : Int)])) := TS5.out.told HCin.out ((World.grownBy_alloc _ _ _).trans gr6) HI6.out (fun g hg => by
            have : g = g6 := by simpa [Value.ownBlock, eq_comm] using hg
            subst this
            rcases at6 with q | q
            · exact Or.inl q
            · exact Or.inr (by omega))
          have HLe : Hid ((M ++ [(g5 : Int)]).length = LM + 1) := by show (M ++ [(g5 : Int)]).length = LM + 1; rw [List.length_append, HLM.out]; rfl
          rw [show LM + 1 = (M ++ [(g5 : Int)]).length from HLe.out.symm]
          clear TS5 HI5 HOw o6 gr6 at6 lt6 HI6
          have HT9 : Hid (Ts w w6 a c n p F5 (B.pt us g5 (some u)) v1 L1 (.slice (some ⟨g6, 0, none⟩) (M ++ [(g5 : Int)]).length k6) (M ++ [(g5 : Int)])) := TS6.out
          have HL9 : Hid (Tl ui (B.pt us g5 (some u)) (M ++ [(g5 : Int)])) := TL5.out
          have HBd : Hid ((M ++ [(g5 : Int)]).length ≤ j + 1) := by have h1 := HMl.out; have h2 := HLe.out; exact (show (M ++ [(g5 : Int)]).length ≤ j + 1 by omega)
          have HWh : Hid (decide (tU (B.pt us g5 (some u)) = cU (B.pt us g5 (some u)) 1 4096) = decide ((M ++ [(g5 : Int)]).length = 0)) := HL9.out.whole HT9.out.tc.po.va HP.out
          obtain ⟨LL, hLL⟩ : ∃ LL, (M ++ [(g5 : Int)]).length = LL := ⟨_, rfl⟩
          have HLL : Hid ((M ++ [(g5 : Int)]).length = LL) := hLL
          rw [hLL] at HT9 HWh ⊢
          have hLb : LL ≤ 81 := by have := HBd.out; omega
          clear hLL
          have hld := HT9.out.tc.cb.bx.ld
          go_wp2_with (refine wpList_load_at rfl 28 (.tmp 3) rfl _ _ rfl hld ?_)
          refine (CA.out _ _ _ _ HT9.out.tc.cb.ci HT9.out.tc.po).mono ?_
          rintro e w10 ⟨rfl, k10⟩
          have HT10 : Hid (Ts w w10 a c n p F5 (B.pt us g5 (some u)) v1 L1 (.slice (some ⟨g6, 0, none⟩) LL k6) (M ++ [(g5 : Int)])) := HT9.out.below k10
          have CW : Hid (Calls _ _ _ _ _) := Whole_p HT10.out.tc.po
          rw [HWh.out] at CW
          clear hld k10 HT9 HWh
          go_wp2_with fail
          refine CW.out.mono ?_
          rintro e w11 ⟨rfl, k11⟩
          have HT11 : Hid (Ts w w11 a c n p F5 (B.pt us g5 (some u)) v1 L1 (.slice (some ⟨g6, 0, none⟩) LL k6) (M ++ [(g5 : Int)])) := HT10.out.below k11
          clear CW k11 HT10
          by_cases hL0 : LL = 0
          · subst hL0
            go_wp2
            go_roundw
            case rel => exact ⟨j + 1, _, rfl, by omega, by omega, by go_num, _, _, _, HT11.out, HL9.out, HBd.out⟩
            case measure => simp [B.iv]; omega
          · have hz1 : decide (LL = 0) = false := by simp [hL0]
            have hz2 : ((LL : Int) == 0) = false := by simp; omega
            have hz3 : decide ((LL : Int) = 0) = false := by simp; omega
            rw [hz1]
            go_wp2
            go_roundw
            case rel => exact ⟨j + 1, _, rfl, by omega, by omega, by go_num, _, _, _, HT11.out, HL9.out, HBd.out⟩
            case measure => simp [B.iv]; omega
        · subst he
          subst hg
          subst hus
          clear TS
          go_upto_region 24 with fail
          have HBm : Hid (M.length ≤ j + 1) := by show M.length ≤ j + 1; have h1 := HMl.out; have h2 := HLM.out; omega
          rw [show LM = M.length from HLM.out.symm]
          have HT9 : Hid (Ts w w5 a c n p F5 us5 v1 L1 (.slice va M.length vc) (M)) := (by rw [HLM.out]; exact TS5.out)
          have HL9 : Hid (Tl ui us5 (M)) := TL.out
          have HBd : Hid ((M).length ≤ j + 1) := HBm.out
          have HWh : Hid (decide (tU us5 = cU us5 1 4096) = decide ((M).length = 0)) := HL9.out.whole HT9.out.tc.po.va HP.out
          obtain ⟨LL, hLL⟩ : ∃ LL, (M).length = LL := ⟨_, rfl⟩
          have HLL : Hid ((M).length = LL) := hLL
          rw [hLL] at HT9 HWh ⊢
          have hLb : LL ≤ 81 := by have := HBd.out; omega
          clear hLL
          have hld := HT9.out.tc.cb.bx.ld
          go_wp2_with (refine wpList_load_at rfl 28 (.tmp 3) rfl _ _ rfl hld ?_)
          refine (CA.out _ _ _ _ HT9.out.tc.cb.ci HT9.out.tc.po).mono ?_
          rintro e w10 ⟨rfl, k10⟩
          have HT10 : Hid (Ts w w10 a c n p F5 us5 v1 L1 (.slice va LL vc) (M)) := HT9.out.below k10
          have CW : Hid (Calls _ _ _ _ _) := Whole_p HT10.out.tc.po
          rw [HWh.out] at CW
          clear hld k10 HT9 HWh
          go_wp2_with fail
          refine CW.out.mono ?_
          rintro e w11 ⟨rfl, k11⟩
          have HT11 : Hid (Ts w w11 a c n p F5 us5 v1 L1 (.slice va LL vc) (M)) := HT10.out.below k11
          clear CW k11 HT10
          by_cases hL0 : LL = 0
          · subst hL0
            go_wp2
            go_roundw
            case rel => exact ⟨j + 1, _, rfl, by omega, by omega, by go_num, _, _, _, HT11.out, HL9.out, HBd.out⟩
            case measure => simp [B.iv]; omega
          · have hz1 : decide (LL = 0) = false := by simp [hL0]
            have hz2 : ((LL : Int) == 0) = false := by simp; omega
            have hz3 : decide ((LL : Int) = 0) = false := by simp; omega
            rw [hz1]
            go_wp2
            go_roundw
            case rel => exact ⟨j + 1, _, rfl, by omega, by omega, by go_num, _, _, _, HT11.out, HL9.out, HBd.out⟩
            case measure => simp [B.iv]; omega)
    · have hstop : ¬ j < len ∨ ¬ j < 80 := by omega
      have HMl : Hid (LM ≤ j) := hML
      clear HD
      by_cases hjl2 : j < len
      case' pos =>
        have hq1I : (j : Int) < (len : Int) := by omega
        have hq2I : ¬ ((j : Int) < 80) := by omega
      case' neg =>
        have hq1I : ¬ ((j : Int) < (len : Int)) := by omega
        have hq2I := True.intro
      all_goals (
        go_wp2
        clear hq1I hq2I hstop hjl2 hjl
        go_loopw [16] (fun z wr => ∃ i : Nat, i ≤ LM ∧ z = .int .i64 i ∧ ∃ F us, Ts w wr a c n p F us v1 L1 (.slice va LM vc) M ∧ Tl ui us (M.drop i)) (fun z _ => LM - (B.iv z).toNat)
        case atStart => exact ⟨0, by omega, rfl, _, _, TS.out, TL.out⟩
        case round =>
          obtain ⟨i, hi, rfl, F, us, hT, hTl⟩ := hrel
          have TS2 : Hid (Ts w wr a c n p F us v1 L1 (.slice va LM vc) M) := hT
          have TL2 : Hid (Tl ui us (M.drop i)) := hTl
          clear TS TL
          by_cases hiM : i < LM
          · obtain ⟨x, hx⟩ : ∃ x, M[i]? = some x := ⟨_, List.getElem?_eq_getElem (by rw [HLM.out]; exact hiM)⟩
            have hx0 : (M.drop i)[0]? = some x := by rw [List.getElem?_drop, Nat.add_zero]; exact hx
            obtain ⟨g, gu, hxg, hgu, hus⟩ := hTl.at' hx0
            subst hxg
            obtain ⟨a2, c2, e2, hcell⟩ := hT.tw.cell
            rw [HLM.out] at e2 hcell
            cases e2
            obtain ⟨gv, rfl, t1⟩ := hcell wr (Below.refl _ _) i hiM
            rw [List.getD_eq_getElem?_getD, hx] at t1
            simp only [Option.getD_some] at t1
            have CG : Hid (Calls Tryz.prog 13 #[.pointer (some ⟨p, 0, none⟩), .int .i64 g] wr _) := Give_p hT.tc.po g gu hus hgu
            have TL3 : Hid (Tl ui (B.pt us g none) (M.drop (i + 1))) := by
              have := hTl.give hx0 hgu hus
              rw [List.take_zero, List.nil_append, List.drop_drop] at this
              exact this
            have hiI : (i : Int) < (LM : Int) := by omega
            clear hT hTl hcell hx hx0 hus TL2
            go_wp2_with fail
            refine CG.out.mono ?_
            rintro e w5 ⟨F5, rfl, hP5, hK5⟩
            have TS3 : Hid (Ts w w5 a c n p F5 (B.pt us g none) v1 L1 (.slice (some ⟨gv, 0, none⟩) LM vc) M) := TS2.out.pool HCin.out hK5 hP5
            clear CG hP5 hK5 t1 TS2
            go_wp2
            go_roundw
            case rel => exact ⟨i + 1, by omega, by go_num, _, _, TS3.out, TL3.out⟩
            case measure => simp [B.iv]; omega
          · obtain rfl : i = LM := by omega
            have hdn : us = ui := by
              have := hTl
              rw [List.drop_of_length_le (by rw [HLM.out]; omega)] at this
              exact this.done hT.tc.po.va HOne.out
            subst hdn
            have TLz : Hid (Tl us us []) := by
              have := hTl
              rw [List.drop_of_length_le (by rw [HLM.out]; omega)] at this
              exact this
            have CF : Hid (Calls _ _ _ _ _) := Free_p hT.tc.po
            clear hT hTl TL2
            go_wp2_with fail
            refine CF.out.mono ?_
            rintro e w6 ⟨v6, rfl, hI6, hb6⟩
            have TS6 : Hid (Ts w w6 a c n p F us v1 L1 (.slice va i vc) M) := TS2.out.below hb6
            have hk1 := HP.out.k1
            have hk2 := HP.out.k2
            obtain ⟨P, hPP⟩ : ∃ P, par c n = P := ⟨_, rfl⟩
            have HPP : Hid (par c n = P) := hPP
            rw [hPP] at hI6 hk1 hk2
            rcases hI6.own.shape with ⟨_, q⟩ | ⟨gn, cn, _, e6, _, hcn, _⟩
            · have := frs_len P us P.k
              rw [q] at this
              simp at this
              omega
            rw [frs_len] at e6 hcn
            subst e6
            have hL1l : L1.length = P.k := by rw [← HLv.out, hPP, frs_len]
            rcases TS6.out.fi.own.shape with ⟨_, q⟩ | ⟨gf, cf, _, e7, _, hcf, _⟩
            · rw [q] at hL1l
              simp at hL1l
              omega
            rw [hL1l] at e7 hcf
            subst e7
            obtain ⟨o1, s1, hs1, ho1⟩ := slice_one gn P.k cn hk1 hcn
            obtain ⟨o2, s2, hs2, ho2⟩ := slice_one gf P.k cf hk1 hcf
            have HW0 : Hid (decide (tU us = cU us 1 4096) = true) := by
              have := TLz.out.whole TS6.out.tc.po.va HP.out
              rw [this]
              rfl
            have HFr : Hid (fre P us 0 + S = P.N ∧ ∀ i, i < P.k → i ≠ 0 → fre P us i = P.N) := by
              have h1 := fre_mk HP.out HRm.out (Nat.le_refl _)
              rw [HUI.out, hPP, fre_new] at h1
              refine ⟨h1, fun i hi h0 => ?_⟩
              have h2 := fre_mk_other HP.out (fun _ => none) ai S (j := i) (by rw [hPP]; exact hi) h0
              rw [HUI.out, hPP, fre_new] at h2
              exact h2
            have HIn : Hid (Is w6 wr.heap.size (.slice (some ⟨gn, 0, none⟩) P.k cn) (frs P us P.k)) := hI6
            have hF0 : ∀ i : Idx (fun W => Below w6.heap.size w6 W), i.W.cell? ⟨gf, 0, none⟩ = some (.int .i64 (P.N : Nat)) := fun i => by
              obtain ⟨a2, c2, e2, hcell⟩ := TS6.out.fi.cell
              rw [hL1l] at e2 hcell
              cases e2
              obtain ⟨g', e', t'⟩ := hcell i.W i.h 0 (by omega)
              cases e'
              rw [t', ← HLv.out, hPP, frs_getD (by omega), fre_new]
            have hN0 : ∀ i : Idx (fun W => Below w6.heap.size w6 W), i.W.cell? ⟨gn, 0, none⟩ = some (.int .i64 (fre P us 0 : Nat)) := fun i => by
              obtain ⟨a2, c2, e2, hcell⟩ := HIn.out.cell
              rw [frs_len] at e2 hcell
              cases e2
              obtain ⟨g', e', t'⟩ := hcell i.W i.h 0 (by omega)
              cases e'
              rw [t', frs_getD (by omega)]
            have CE : Hid (∀ i : Idx (fun W => Below w6.heap.size w6 W), Calls Tryz.prog 17 #[.slice (some ⟨gn, o1, none⟩) (P.k - 1) s1, .slice (some ⟨gf, o2, none⟩) (P.k - 1) s2] i.W (One (.bool true) i.W)) := fun i => by
              have A1 := arg_one (c := s1) HIn.out (frs_len _ _ _) hk1 ho1
              have A2 := arg_one (c := s2) TS6.out.fi hL1l hk1 ho2
              refine EqInts_any (by omega) (A1.below i.h) (arg_congr (A2.below i.h) (fun m hm => ?_))
              rw [← HLv.out, hPP, frs_getD (by omega), frs_getD (by omega), fre_new, HFr.out.2 (m + 1) (by omega) (by omega)]
            have CWh : Hid (∀ i : Idx (fun W => Below w6.heap.size w6 W), Calls Tryz.prog 23 #[.pointer (some ⟨p, 0, none⟩)] i.W (One (.bool true) i.W)) := fun i => by
              have := Whole_p (TS6.out.tc.po.below i.h)
              rw [HW0.out] at this
              exact this
            have hne : Nonempty (Idx (fun W => Below w6.heap.size w6 W)) := ⟨⟨w6, Below.refl _ _⟩⟩
            have hN2 := HP.out.N2
            rw [hPP] at hN2
            have hsub : IntKind.i64.wrap ((P.N : Int) - (S : Int)) = (fre P us 0 : Int) := by
              have := HFr.out.1
              rw [show (P.N : Int) - (S : Int) = ((fre P us 0 : Nat) : Int) by omega]
              exact IntWalk.i64_in _ (by omega)
            have hfb : fre P us 0 ≤ 4096 := Nat.le_trans (fre_le P us 0) hN2
            have hkI : (0 : Int) < (P.k : Int) := by omega
            clear hI6 hb6
            generalize fre P us 0 = f0 at *
            go_upto_region 32 with fail
            refine wp_region_cls (fun W => Below w6.heap.size w6 W) (by kernel_rfl) (by kernel_rfl) (below_drew _ _) ?_
            repeat (go_big_quiet_step (first | (go_at_call 17; exact Calls.cls (CE.out _) (fun _ _ h k => h.trans (k.mono h.size))) | (go_at_call 23; exact Calls.cls (CWh.out _) (fun _ _ h k => h.trans (k.mono h.size)))))
            refine wpQuiet_nil ?_
            rintro w7 ⟨⟨_, hS7⟩, rfl⟩
            have T7 : Hid (Tc w w7 a c n p F us) := TS6.out.tc.below hS7
            clear hS7 hF0 hN0 CE CWh hne hs1 hs2 TS6 HIn HFr HW0 TLz TS2
            have hld := T7.out.cb.bx.ld
            go_wp2_with (refine wpList_load_at rfl 28 (.tmp 3) rfl _ _ rfl hld ?_)
            refine (CN.out _ T7.out.cb.ci).mono ?_
            rintro e w8 ⟨q, Fq, rfl, hPq, hKq⟩
            have HTe : Hid (Te w.heap.size w w8 F Fq p q (par c n) (par c n) us (fun _ => none)) := by
              have kb := kp_false hKq
              have hs := T7.out.cb.be.size
              exact ⟨T7.out.cb.be.trans (kb.mono hs), Nat.le_trans hs kb.size, T7.out.po.below kb, hPq, fun x hx z => by
                rcases hKq.new x z with y | y
                · exact y
                · have := T7.out.po.lt x hx; omega, fun x hx => by have := T7.out.fo x hx; omega, fun x hx => by
                rcases hKq.new x hx with y | y
                · exact y.elim
                · omega⟩
            have CI : Hid (Calls _ _ _ _ _) := Image_p hPq (cU_none _ _) ai HA2.out
            clear hld CN hPq hKq T7
            go_wp2_with fail
            refine CI.out.mono ?_
            rintro e w9 ⟨vi2, Fq9, rfl, _, _, hPq9, hKq9⟩
            rw [HSe.out, HUI.out] at hPq9
            have HTe9 : Hid (Te w.heap.size w w9 F Fq9 p q (par c n) (par c n) us us) := HTe.out.right hKq9 hPq9
            clear CI hPq9 hKq9 HTe HUI
            go_wp2
            go_loopw [21] (fun z wr => ∃ k : Nat, k ≤ 12 ∧ z = .int .i64 k ∧ ∃ Fp Fq us, Te w.heap.size w wr Fp Fq p q (par c n) (par c n) us us) (fun z _ => 12 - (B.iv z).toNat)
            case atStart => exact ⟨0, by omega, rfl, _, _, _, HTe9.out⟩
            case round =>
              obtain ⟨k, hk, rfl, Fp, Fq, us, hT⟩ := hrel
              have HT : Hid (Te w.heap.size w wr Fp Fq p q (par c n) (par c n) us us) := hT
              clear hT HTe9
              by_cases hk12 : k < 12
              · obtain ⟨u, hu⟩ : ∃ u, 2 + k % 5 = u := ⟨_, rfl⟩
                have hu2 : 2 ≤ u ∧ u ≤ 6 := by omega
                have HUS : Hid ((2 : Int) + (k : Int) % 5 = (u : Int)) := by show (2 : Int) + (k : Int) % 5 = (u : Int); omega
                have CT : Hid (Calls _ _ _ _ _) := Take_use HT.out.p u hu2.1 hu2.2
                have hkI2 : (k : Int) < 12 := by omega
                clear hu
                go_wp2_with fail
                rw [HUS.out]
                refine CT.out.mono ?_
                rintro e w10 ⟨g1, e1, us1, Fp1, rfl, hT1, hP1, hK1⟩
                have HT1 : Hid (Te w.heap.size w w10 Fp1 Fq p q (par c n) (par c n) us1 us) := HT.out.left hK1 hP1
                have CT2 : Hid (Calls _ _ _ _ _) := Take_use HT1.out.q u hu2.1 hu2.2
                have HTo : Hid (Tko (par c n) us u g1 e1 us1) := hT1
                clear CT hT1 hP1 hK1 HT
                go_wp2_with fail
                rw [HUS.out]
                refine CT2.out.mono ?_
                rintro e w11 ⟨g2, e2, us2, Fq2, rfl, hT2, hP2, hK2⟩
                obtain ⟨rfl, rfl, rfl⟩ := HTo.out.uniq hT2
                have HT2 : Hid (Te w.heap.size w w11 Fp1 Fq2 p q (par c n) (par c n) us1 us1) := HT1.out.right hK2 hP2
                clear CT2 hT2 hP2 hK2 HT1 HTo
                go_wp2
                go_roundw
                case rel => exact ⟨k + 1, by omega, by go_num, _, _, _, HT2.out⟩
                case measure => simp [B.iv]; omega
              · have HBe : Hid (Below w.heap.size w wr) := HT.out.be
                obtain rfl : k = 12 := by omega
                go_wp2
                go_ret
                exact ⟨rfl, HBe.out⟩)
set_option maxHeartbeats 4000000 in
theorem PoolAdds_no {w : World} {a : Ad} {c : Cf} (hc : Cin w a c) (n : Int) {ao : Option Addr} {len cap : Nat} (hf : fe c n ≠ 0) :
    Calls Tryz.prog 4 #[.agg #[.int .i64 c.F, .int .i64 c.C, .int .i64 c.W, .int .i64 c.S, .int .i64 c.V, .int .i64 c.T, .int .u64 c.k.l1, .int .u64 c.k.llc, .int .u64 c.k.mi, .int .u64 c.k.fa, .int .u64 c.k.st, .int .u64 c.k.di, .int .u64 c.sl, .int .u64 c.pd, .int .u64 c.ft, .slice a.ta c.tn a.tc, .slice a.pa c.pn a.pc], .int .i64 n, .slice ao len cap] w (One (.bool true) w) := by
  have HB0 := cb_new hc
  have C0 : Hid (∀ W, Calls Tryz.prog 18 #[] W (One (.bool true) W)) := works_any
  have CN : Hid (∀ W, Cin W a c → Calls Tryz.prog 7 #[.agg #[.int .i64 c.F, .int .i64 c.C, .int .i64 c.W, .int .i64 c.S, .int .i64 c.V, .int .i64 c.T, .int .u64 c.k.l1, .int .u64 c.k.llc, .int .u64 c.k.mi, .int .u64 c.k.fa, .int .u64 c.k.st, .int .u64 c.k.di, .int .u64 c.sl, .int .u64 c.pd, .int .u64 c.ft, .slice a.ta c.tn a.tc, .slice a.pa c.pn a.pc], .int .i64 n] W fun e w' => e = .returned (.tuple #[.pointer none, .int .i64 (fe c n)]) ∧ Below W.heap.size W w') := fun W hW => New_no hW n hf
  have CM : Hid (∀ W, Cin W a c → Calls Tryz.prog 19 #[.agg #[.int .i64 c.F, .int .i64 c.C, .int .i64 c.W, .int .i64 c.S, .int .i64 c.V, .int .i64 c.T, .int .u64 c.k.l1, .int .u64 c.k.llc, .int .u64 c.k.mi, .int .u64 c.k.fa, .int .u64 c.k.st, .int .u64 c.k.di, .int .u64 c.sl, .int .u64 c.pd, .int .u64 c.ft, .slice a.ta c.tn a.tc, .slice a.pa c.pn a.pc]] W (One (.bool (may c)) W)) := fun W hW => May_all hW
  have HW : Hid ((may c = false ∧ fe c n = 5) ∨ (may c = true ∧ fe c n = 270)) := fe_ways hf
  generalize hfe : fe c n = e0 at *
  generalize hmm : may c = mm at *
  clear hc hfe hmm
  go_enter Tryz.func4, Tryz.ntmps4
  go_upto_region 1 with fail
  obtain ⟨W, hW, HB⟩ : ∃ W, (w.alloc (.cells #[.int .i64 c.F, .int .i64 c.C, .int .i64 c.W, .int .i64 c.S, .int .i64 c.V, .int .i64 c.T, .int .u64 c.k.l1, .int .u64 c.k.llc, .int .u64 c.k.mi, .int .u64 c.k.fa, .int .u64 c.k.st, .int .u64 c.k.di, .int .u64 c.sl, .int .u64 c.pd, .int .u64 c.ft, .slice a.ta c.tn a.tc, .slice a.pa c.pn a.pc] 28)) = W ∧ Hid (Cb w W w.heap.size a c) := ⟨_, rfl, HB0⟩
  rw [hW]
  clear hW HB0
  go_wp2_with fail
  refine (C0.out _).mono ?_
  rintro e w1 ⟨rfl, k1⟩
  have H1 : Hid (Cb w w1 w.heap.size a c) := HB.out.below k1
  have hld := H1.out.bx.ld
  clear HB k1 C0
  go_wp2_with (refine wpList_load_at rfl 28 (.tmp 3) rfl _ _ rfl hld ?_)
  refine (CN.out _ H1.out.ci).mono ?_
  rintro e w2 ⟨rfl, k2⟩
  have H2 : Hid (Cb w w2 w.heap.size a c) := H1.out.below k2
  clear hld k2 H1 CN
  have hld := H2.out.bx.ld
  go_wp2_with (refine wpList_load_at rfl 28 (.tmp 3) rfl _ _ rfl hld ?_)
  refine (CM.out _ H2.out.ci).mono ?_
  rintro e w3 ⟨rfl, k3⟩
  have H3 : Hid (Cb w w3 w.heap.size a c) := H2.out.below k3
  clear hld k3 H2
  rcases HW.out with ⟨rfl, rfl⟩ | ⟨rfl, rfl⟩
  · have HBe : Hid (Below w.heap.size w w3) := H3.out.be
    clear H3
    go_wp2
    go_ret
    exact ⟨rfl, HBe.out⟩
  · have hld := H3.out.bx.ld
    go_wp2_with (refine wpList_load_wanted rfl 28 (.tmp 3) rfl _ _ rfl hld ?_)
    refine (CM.out _ H3.out.ci).mono ?_
    rintro e w4 ⟨rfl, k4⟩
    have H4 : Hid (Below w.heap.size w w4) := (H3.out.below k4).be
    clear hld k4 H3 CM
    go_wp2
    go_ret
    exact ⟨rfl, H4.out⟩
theorem PoolAdds_walk {w : World} {a : Ad} {c : Cf} (hc : Cin w a c) (n : Int) {ao : Option Addr} {len cap : Nat} (hd : Dos w ao len) (hl : len ≤ maxLen) :
    Calls Tryz.prog 4 #[.agg #[.int .i64 c.F, .int .i64 c.C, .int .i64 c.W, .int .i64 c.S, .int .i64 c.V, .int .i64 c.T, .int .u64 c.k.l1, .int .u64 c.k.llc, .int .u64 c.k.mi, .int .u64 c.k.fa, .int .u64 c.k.st, .int .u64 c.k.di, .int .u64 c.sl, .int .u64 c.pd, .int .u64 c.ft, .slice a.ta c.tn a.tc, .slice a.pa c.pn a.pc], .int .i64 n, .slice ao len cap] w (One (.bool true) w) := by
  by_cases hf : fe c n = 0
  · obtain ⟨hm, m, rfl, hmn⟩ := fe_zero hf
    exact PoolAdds_ok hc m hm hmn hd hl
  · exact PoolAdds_no hc n hf
end Go.Proofs.YtifchflbhdnfaaaGreat.P
