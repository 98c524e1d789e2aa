/- PoolEven's mathematics, and its walk; no condition but those that each theorem names. -/
import Derived.Test.YtifchflbhdnfaaaVLw
namespace Go.Proofs.Ytifchflbhdnfaaa.P
open Go.ChangeShapes Go.WideShapes Go.ChangeAt Go.RowKit
set_option linter.unusedVariables false
set_option maxRecDepth 8192

/-- Colours are used alike, the first ones first. -/
def Evn (P : Par) (us : Us) : Prop := ∀ i j, i ≤ j → j < P.k → fre P us i ≤ fre P us j ∧ fre P us j ≤ fre P us 0 + 1
theorem evn_new (P : Par) : Evn P (fun _ => none) := fun i j _ _ => by rw [fre_new, fre_new, fre_new]; omega
theorem Evn.take {P : Par} (hP : P.Ok) {us : Us} {u g e : Nat} {us' : Us} (h : Evn P us) (hT : Tko P us u g e us') : Evn P us' := by
  rcases hT.fre hP with ⟨rfl, _⟩ | ⟨_, h1, h2⟩
  · exact h
  have hb := best_lt hP us
  have hk := hP.k1
  have hlt : ∀ i, i < best P us → fre P us i < fre P us (best P us) := fun i hi => bs_first _ _ i hi
  have hmx := fun i (hi : i < P.k) => best_max us hi
  intro i j hij hj
  have a1 := h 0 (best P us) (by omega) hb
  have a2 := h i j hij hj
  have a3 := hmx j hj
  have a4 := hmx i (by omega)
  have a5 := h 0 i (by omega) (by omega)
  have a6 := h 0 j (by omega) hj
  -- what is behind the best one has as much as it
  have hi1 : i < best P us → fre P us i + 1 = fre P us (best P us) := fun q => by
    have := hlt i q
    omega
  have hj1 : j < best P us → fre P us j + 1 = fre P us (best P us) := fun q => by
    have := hlt j q
    omega
  have hi2 : best P us ≤ i → fre P us i = fre P us (best P us) := fun q => by
    have := h (best P us) i q (by omega)
    omega
  have hj2 : best P us ≤ j → fre P us j = fre P us (best P us) := fun q => by
    have := h (best P us) j q hj
    omega
  have h01 : 0 < best P us → fre P us 0 + 1 = fre P us (best P us) := fun q => by
    have := hlt 0 q
    omega
  by_cases e0 : best P us = 0
  · rw [e0] at h1 h2 hi2 hj2
    have c0 : ∀ m, m < P.k → m ≠ 0 → fre P us' m = fre P us m := h2
    by_cases ei : i = 0
    · subst ei
      by_cases ej : j = 0
      · subst ej; omega
      · rw [c0 j hj ej]; omega
    · rw [c0 i (by omega) ei, c0 j hj (by omega)]; omega
  · have z0 : fre P us' 0 = fre P us 0 := h2 0 (by omega) (by omega)
    rw [z0]
    by_cases ei : i = best P us
    · by_cases ej : j = best P us
      · rw [ei, ej]; omega
      · rw [h2 j hj ej, ei]; omega
    · rw [h2 i (by omega) ei]
      by_cases ej : j = best P us
      · rw [ej]; omega
      · rw [h2 j hj ej]; omega
/-- No colour is drawn from while another one has more. -/
theorem tko_most {P : Par} (hP : P.Ok) {us : Us} {u g e : Nat} {us' : Us} (hT : Tko P us u g e us') {i j : Nat} (hi : i < P.k) (hj : j < P.k) (h : fre P us' i < fre P us i) : fre P us j ≤ fre P us i := by
  rcases hT.fre hP with ⟨rfl, _⟩ | ⟨_, h1, h2⟩
  · omega
  by_cases e : i = best P us
  · rw [e]; exact best_max us hj
  · rw [h2 i hi e] at h; omega
theorem nx_new {P : Par} (hP : P.Ok) : ∃ a, Nx (opn P (fun _ => none) 0) P.o a := by
  have h3 := hP.o3
  refine nx_of_wh (q := 0) (by rw [opn_new]; exact B.St.new P.N) (by omega) ?_
  rw [opn_new, B.wh_op0]
  have := hP.im
  omega
/-- Two new pools, side by side, the second one with its image. -/
theorem te_new {w0 w1 w2 w3 : World} {B0 : Nat} {Fp Fq : Nat → Prop} {p q : Nat} {P : Par} {up uq : Us} (hb : Below B0 w0 w1) (hs : B0 ≤ w1.heap.size) (hp : Po w2 Fp p P up) (kp : B.Kp (fun _ => False) Fp w1 w2) (hq : Po w3 Fq q P uq) (kq : B.Kp (fun _ => False) Fq w2 w3) : Te B0 w0 w3 Fp Fq p q P P up uq := by
  have k1 := kp_false kp
  have k2 := kp_false kq
  have s1 := kp.size
  have s2 := kq.size
  refine ⟨(hb.trans (k1.mono hs)).trans (k2.mono (by omega)), by omega, hp.below k2, hq, fun x hx z => ?_, fun x hx => ?_, fun x hx => ?_⟩
  · have h1 := hp.lt x hx
    rcases kq.new x z with y | y
    · exact y
    · omega
  · rcases kp.new x hx with y | y
    · exact y.elim
    · omega
  · rcases kq.new x hx with y | y
    · exact y.elim
    · omega
set_option maxHeartbeats 4000000 in
theorem PoolEven_ok {w : World} {a : Ad} {c : Cf} (hc : Cin w a c) (n : Int) {ao : Option Addr} {len cap : Nat} (hd : Dos w ao len) (hl : len ≤ maxLen) (hf : fe c n = 0) :
    Calls Try.prog 4 #[.agg #[.int .i64 c.F, .int .i64 c.C, .int .i64 c.W, .int .i64 c.S, .int .i64 c.V, .int .i64 c.T, .int .u64 c.k.l1, .int .u64 c.k.llc, .int .u64 c.k.mi, .int .u64 c.k.fa, .int .u64 c.k.st, .int .u64 c.k.di, .int .u64 c.sl, .int .u64 c.pd, .int .u64 c.ft, .slice a.ta c.tn a.tc, .slice a.pa c.pn a.pc], .int .i64 n, .slice ao len cap] w (One (.bool true) w) := by
  have HB0 := cb_new hc
  have HD : Hid (Dos w ao len) := hd
  have C0 : Hid (∀ W, Calls Try.prog 5 #[] W (One (.bool true) W)) := works_any
  have hl2 : (len : Int) ≤ 9223372036854775807 := by unfold maxLen at hl; omega
  clear hd hl
  obtain ⟨hm, m, rfl, hmn⟩ := fe_zero hf
  have CN : Hid (∀ W, Cin W a c → Calls Try.prog 6 #[.agg #[.int .i64 c.F, .int .i64 c.C, .int .i64 c.W, .int .i64 c.S, .int .i64 c.V, .int .i64 c.T, .int .u64 c.k.l1, .int .u64 c.k.llc, .int .u64 c.k.mi, .int .u64 c.k.fa, .int .u64 c.k.st, .int .u64 c.k.di, .int .u64 c.sl, .int .u64 c.pd, .int .u64 c.ft, .slice a.ta c.tn a.tc, .slice a.pa c.pn a.pc], .int .i64 m] W fun e w' => ∃ p F, e = .returned (.tuple #[.pointer (some ⟨p, 0, none⟩), .int .i64 0]) ∧ Po w' F p (par c m) (fun _ => none) ∧ B.Kp (fun _ => False) F W w') := fun W hW => New_p hW m hm hmn
  have HP : Hid (par c m).Ok := par_ok (may_iff.1 hm) hmn
  clear hf hc hm hmn
  go_enter Try.func4, Try.ntmps4
  go_upto_region 1 with fail
  obtain ⟨W, hW, HB⟩ : ∃ W, (w.alloc (.cells #[.int .i64 c.F, .int .i64 c.C, .int .i64 c.W, .int .i64 c.S, .int .i64 c.V, .int .i64 c.T, .int .u64 c.k.l1, .int .u64 c.k.llc, .int .u64 c.k.mi, .int .u64 c.k.fa, .int .u64 c.k.st, .int .u64 c.k.di, .int .u64 c.sl, .int .u64 c.pd, .int .u64 c.ft, .slice a.ta c.tn a.tc, .slice a.pa c.pn a.pc] 28)) = W ∧ Hid (Cb w W w.heap.size a c) := ⟨_, rfl, HB0⟩
  rw [hW]
  clear hW HB0
  go_wp2_with fail
  refine (C0.out _).mono ?_
  rintro e w1 ⟨rfl, k1⟩
  have H1 : Hid (Cb w w1 w.heap.size a c) := HB.out.below k1
  have hld := H1.out.bx.ld
  clear HB k1 C0
  go_wp2_with (refine wpList_load_at rfl 28 (.tmp 3) rfl _ _ rfl hld ?_)
  refine (CN.out _ H1.out.ci).mono ?_
  rintro e w2 ⟨p, Fp, rfl, hPp, hKp⟩
  have H2 : Hid (Cb w w2 w.heap.size a c) := H1.out.below (kp_false hKp)
  clear hld
  have hld := H2.out.bx.ld
  go_wp2_with (refine wpList_load_at rfl 28 (.tmp 3) rfl _ _ rfl hld ?_)
  refine (CN.out _ H2.out.ci).mono ?_
  rintro e w3 ⟨q, Fq, rfl, hPq, hKq⟩
  have T3 := te_new H1.out.be H1.out.be.size hPp hKp hPq hKq
  obtain ⟨ai, hai⟩ := nx_new HP.out
  have CI : Hid (Calls _ _ _ _ _) := Image_p hPq (cU_none _ _) ai hai
  have HT3 : Hid (Te w.heap.size w w3 Fp Fq p q (par c m) (par c m) (fun _ => none) (fun _ => none)) := T3
  clear hld CN H1 H2 hPp hKp hPq hKq T3 hai
  go_wp2_with fail
  refine CI.out.mono ?_
  rintro e w4 ⟨vi, Fq4, rfl, _, _, hPq4, hKq4⟩
  have HT4 : Hid (Te w.heap.size w w4 Fp Fq4 p q (par c m) (par c m) (fun _ => none) (mkI (par c m) (fun _ => none) ai (2 ^ (par c m).o))) := HT3.out.right hKq4 hPq4
  clear CI HT3 hPq4 hKq4
  generalize mkI (par c m) (fun _ => none) ai (2 ^ (par c m).o) = uq4 at *
  generalize par c m = P at *
  have HE0 : Hid (Evn P (fun _ => none)) := evn_new P
  go_wp2
  go_loopw [11] (fun z wr => ∃ j : Nat, j ≤ len ∧ z = .int .i64 j ∧ ∃ Fp Fq up uq, Te w.heap.size w wr Fp Fq p q P P up uq ∧ Evn P up) (fun z _ => len - (B.iv z).toNat)
  case atStart => exact ⟨0, by omega, rfl, _, _, _, _, HT4.out, HE0.out⟩
  case round =>
    obtain ⟨j, hj, rfl, Fp, Fq, up, uq, hT, hE⟩ := hrel
    have HT : Hid (Te w.heap.size w wr Fp Fq p q P P up uq) := hT
    have HE : Hid (Evn P up) := hE
    clear hT hE HT4 HE0
    by_cases hjl : j < len ∧ j < 60
    · obtain ⟨hj1, hj2⟩ := hjl
      obtain ⟨b, off, K, A, U, rfl, d0, d1, d2, _, _, hU⟩ := HD.out.at' hj1 HT.out.be
      obtain ⟨u, hu⟩ : ∃ u, 2 + U % 5 = u := ⟨_, rfl⟩
      have hu2 : 2 ≤ u ∧ u ≤ 6 := by omega
      have HUS : Hid ((2 : Int) + (U : Int) % 5 = (u : Int)) := by show (2 : Int) + (U : Int) % 5 = (u : Int); omega
      clear hu d0 d1
      have hj1I : (j : Int) < (len : Int) := by omega
      have hj2I : (j : Int) < 60 := by omega
      have CT : Hid (Calls _ _ _ _ _) := Take_use HT.out.p u hu2.1 hu2.2
      go_wp2_with fail
      rw [HUS.out]
      refine CT.out.mono ?_
      rintro e w5 ⟨g5, e5, up5, Fp5, rfl, hT5, hP5, hK5⟩
      have HT5 : Hid (Te w.heap.size w w5 Fp5 Fq p q P P up5 uq) := HT.out.left hK5 hP5
      have HE5 : Hid (Evn P up5) := HE.out.take HP.out hT5
      have CF : Hid (Calls _ _ _ _ _) := Free_p HT5.out.p
      clear CT hT5 hP5 hK5 HT HE
      go_wp2_with fail
      refine CF.out.mono ?_
      rintro e w6 ⟨v6, rfl, hI6, hb6⟩
      obtain ⟨va, vc, rfl, hcell⟩ := hI6.cell
      rw [frs_len] at hcell ⊢
      have HC6 : Hid (∀ W, Below w6.heap.size w6 W → ∀ i, i < P.k → ∃ g, va = some ⟨g, 0, none⟩ ∧ W.cell? ⟨g, i, none⟩ = some (.int .i64 (fre P up5 i))) := fun W hW i hi => by
        obtain ⟨g, h1, h2⟩ := hcell W hW i hi
        exact ⟨g, h1, by rw [h2, frs_getD hi]⟩
      have HT6 : Hid (Te w.heap.size w w6 Fp5 Fq p q P P up5 uq) := HT5.out.below hb6
      have hk1 := HP.out.k1
      have hk2 := HP.out.k2
      clear CF hI6 hb6 hcell HT5
      go_wp2
      go_loopw [14] (fun z wr => ∃ t : Nat, 1 ≤ t ∧ t ≤ P.k ∧ z = .int .i64 t ∧ Below w6.heap.size w6 wr) (fun z _ => P.k - (B.iv z).toNat)
      case atStart => exact ⟨1, by omega, by omega, rfl, Below.refl _ _⟩
      case round =>
        obtain ⟨t, ht0, ht, rfl, hb⟩ := hrel
        have HB7 : Hid (Below w6.heap.size w6 wr) := hb
        by_cases htk : t < P.k
        · obtain ⟨s, hs⟩ : ∃ s, t - 1 = s := ⟨_, rfl⟩
          obtain ⟨gv, rfl, c1⟩ := HC6.out wr hb t htk
          obtain ⟨gv', e1, c2⟩ := HC6.out wr hb s (by omega)
          obtain ⟨gv'', e2, c3⟩ := HC6.out wr hb 0 (by omega)
          cases e1
          cases e2
          have b1 := (HE5.out s t (by omega) htk).1
          have b2 := (HE5.out s t (by omega) htk).2
          have b3 := fre_le P up5 0
          have b4 := HP.out.N2
          generalize fre P up5 t = y at *
          generalize fre P up5 s = x at *
          generalize fre P up5 0 = x0 at *
          clear hb HC6
          have j1 : decide ((y : Int) < (x : Int)) = false := by simp; omega
          have j1' : decide (y < x) = false := by simp; omega
          have j2 : decide ((x0 : Int) + 1 < (y : Int)) = false := by simp; omega
          have j2' : decide (x0 + 1 < y) = false := by simp; omega
          have j3 : (t : Int) < (P.k : Int) := by omega
          have j4 : IntKind.i64.wrap ((t : Int) - 1) = (s : Int) := by rw [show (t : Int) - 1 = (s : Int) by omega]; exact IntWalk.i64_in _ (by omega)
          have j5 : (s : Int) < (P.k : Int) := by omega
          have j6 : s < P.k := by omega
          clear hs
          go_wp2
          go_big_quiet (fail)
          go_wp2
          go_roundw
          case rel => exact ⟨t + 1, by omega, by omega, by go_num, HB7.out.trans ((B.below_of (B.grown_drewN wr _ none) _ (Nat.le_refl _) (by simp)).mono HB7.out.size)⟩
          case measure => simp [B.iv]; omega
        · obtain ⟨K, hK⟩ : ∃ K, P.k = K := ⟨_, rfl⟩
          obtain rfl : K = t := by omega
          have HT8 : Hid (Te w.heap.size w wr Fp5 Fq p q P P up5 uq) := HT6.out.below hb
          have CF : Hid (Calls _ _ _ _ _) := Free_p HT8.out.q
          have HB8 : Hid (Te w.heap.size w wr Fp5 Fq p q P P up5 uq) := HT8.out
          clear HC6 HT6 HB7 hb
          rw [hK]
          go_wp2_with fail
          refine CF.out.mono ?_
          rintro e w9 ⟨v9, rfl, hI9, hb9⟩
          have HT9 : Hid (Te w.heap.size w w9 Fp5 Fq p q P P up5 uq) := HT8.out.below hb9
          have HI9 : Hid (Is w9 wr.heap.size v9 (frs P uq P.k) ∧ ∀ g, v9.ownBlock = some g → ¬ Fq g) := ⟨hI9, fun g hg z => by have h1 := (hI9.lt g hg).1; have h2 := HT8.out.q.lt g z; omega⟩
          have CT2 : Hid (Calls _ _ _ _ _) := Take_use HT9.out.q u hu2.1 hu2.2
          obtain ⟨va9, vc9, rfl, _⟩ := hI9.cell
          rw [frs_len, hK] at HI9 ⊢
          clear CF hI9 hb9 HT8 HB8
          go_wp2_with fail
          refine CT2.out.mono ?_
          rintro e w10 ⟨g10, e10, uq10, Fq10, rfl, hT10, hP10, hK10⟩
          have HT10 : Hid (Te w.heap.size w w10 Fp5 Fq10 p q P P up5 uq10) := HT9.out.right hK10 hP10
          have HI10 : Hid (Is w10 wr.heap.size (.slice va9 K vc9) (frs P uq P.k)) := by rw [hK]; exact (HI9.out.1.kp hK10 HI9.out.2).1
          have HTo : Hid (Tko P uq u g10 e10 uq10) := hT10
          have CF3 : Hid (Calls _ _ _ _ _) := Free_p HT10.out.q
          clear CT2 hT10 hP10 hK10 HT9 HI9
          go_wp2_with fail
          refine CF3.out.mono ?_
          rintro e w11 ⟨v11, rfl, hI11, hb11⟩
          have HT11 : Hid (Te w.heap.size w w11 Fp5 Fq10 p q P P up5 uq10) := HT10.out.below hb11
          obtain ⟨va11, vc11, rfl, hc11⟩ := hI11.cell
          rw [frs_len, hK] at hI11 hc11 ⊢
          have HI11 : Hid (Is w11 w10.heap.size (.slice va11 K vc11) (frs P uq10 P.k)) := by rw [hK]; exact hI11
          have HW11 : Hid (Is w11 wr.heap.size (.slice va9 K vc9) (frs P uq P.k)) := HI10.out.below hb11
          have HMo : Hid (∀ i j, i < K → j < K → fre P uq10 i < fre P uq i → fre P uq j ≤ fre P uq i) := fun i j hi hj => by rw [← hK] at hi hj; exact tko_most HP.out HTo.out hi hj
          have HEq : Hid (e10 = 4 → uq10 = uq) := fun he => by
            rcases HTo.out with ⟨h, _⟩ | ⟨_, _, h, _⟩
            · omega
            · exact h
          have hee := HTo.out.e_le
          clear CF3 hI11 hb11 hc11 HT10 HI10 HTo
          rcases hee with rfl | rfl
          case' inl =>
            go_wp2
            have HB12 : Hid (Below w11.heap.size w11 w11) := Below.refl _ _
            obtain ⟨w12, hw12⟩ : ∃ w12, w12 = w11 := ⟨_, rfl⟩
            rw [← hw12]
            have HB12 : Hid (Below w11.heap.size w11 w12) := by rw [hw12]; exact Below.refl _ _
            clear hw12
          case' inr =>
            have CE : Hid (Calls Try.prog 11 #[.slice va11 K vc11, .slice va9 K vc9] w11 (One (.bool true) w11)) := by
              obtain ⟨a1, c1, e1, h1⟩ := HI11.out.arg
              obtain ⟨a2, c2, e2, h2⟩ := HW11.out.arg
              rw [frs_len, hK] at e1 e2
              cases e1
              cases e2
              rw [HEq.out rfl] at h1
              rw [frs_len] at h1 h2
              have := EqInts_any (c1 := vc11) (c2 := vc9) (by omega) h1 h2
              rw [hK] at this
              exact this
            go_wp2_with fail
            refine CE.out.mono ?_
            rintro e w12 ⟨rfl, hb12⟩
            have HB12 : Hid (Below w11.heap.size w11 w12) := hb12
            clear CE hb12
            go_wp2
          all_goals (
            have HN : Hid (∀ W, Below w12.heap.size w12 W → ∀ i, i < K → ∃ g, va11 = some ⟨g, 0, none⟩ ∧ W.cell? ⟨g, i, none⟩ = some (.int .i64 (fre P uq10 i))) := fun W hW i hi => by
              obtain ⟨a1, c1, e1, h1⟩ := HI11.out.cell
              rw [frs_len, hK] at e1 h1
              cases e1
              obtain ⟨g, z1, z2⟩ := h1 W (HB12.out.trans (hW.mono HB12.out.size)) i hi
              exact ⟨g, z1, by rw [z2, frs_getD hi]⟩
            have HQ : Hid (∀ W, Below w12.heap.size w12 W → ∀ i, i < K → ∃ g, va9 = some ⟨g, 0, none⟩ ∧ W.cell? ⟨g, i, none⟩ = some (.int .i64 (fre P uq i))) := fun W hW i hi => by
              obtain ⟨a1, c1, e1, h1⟩ := HW11.out.cell
              rw [frs_len, hK] at e1 h1
              cases e1
              obtain ⟨g, z1, z2⟩ := h1 W (HB12.out.trans (hW.mono HB12.out.size)) i hi
              exact ⟨g, z1, by rw [z2, frs_getD hi]⟩
            have HT12 : Hid (Te w.heap.size w w12 Fp5 Fq10 p q P P up5 uq10) := HT11.out.below HB12.out
            clear HB12 HI11 HW11 HT11 HEq
            go_loopw [19] (fun z wr => ∃ k : Nat, k ≤ K ∧ z = .int .i64 k ∧ Below w12.heap.size w12 wr) (fun z _ => K - (B.iv z).toNat)
            case atStart => exact ⟨0, by omega, rfl, Below.refl _ _⟩
            case round =>
              obtain ⟨k, hk, rfl, hb⟩ := hrel
              have HBk : Hid (Below w12.heap.size w12 wr) := hb
              clear hb
              by_cases hkK : k < K
              · have hkI : (k : Int) < (K : Int) := by omega
                obtain ⟨R, hR⟩ : ∃ R, R = wr := ⟨_, rfl⟩
                have HBR : Hid (Below w12.heap.size w12 R) := by rw [hR]; exact HBk.out
                rw [← hR]
                clear hR HBk
                go_wp2
                go_loopw [20] (fun z wr => ∃ l : Nat, l ≤ K ∧ z = .int .i64 l ∧ Below w12.heap.size w12 wr) (fun z _ => K - (B.iv z).toNat)
                case atStart => exact ⟨0, by omega, rfl, HBR.out⟩
                case round =>
                  obtain ⟨l, hl, rfl, hb⟩ := hrel
                  have HBl : Hid (Below w12.heap.size w12 wr) := hb
                  by_cases hlK : l < K
                  · have hlI : (l : Int) < (K : Int) := by omega
                    obtain ⟨gn, rfl, c1⟩ := HN.out wr hb k hkK
                    obtain ⟨gw, rfl, c2⟩ := HQ.out wr hb k hkK
                    obtain ⟨gw', e1, c3⟩ := HQ.out wr hb l hlK
                    cases e1
                    have hmo := HMo.out k l hkK hlK
                    generalize fre P uq10 k = x at *
                    generalize fre P uq k = y at *
                    generalize fre P uq l = z at *
                    have HMo2 : Hid (x < y → z ≤ y) := hmo
                    clear hb hmo HN HQ HMo
                    by_cases hxy : x < y
                    · have hzy := HMo2.out hxy
                      have j1 : decide ((x : Int) < (y : Int)) = true := by simp; omega
                      have j1' : decide (x < y) = true := by simp; omega
                      have j2 : decide ((y : Int) < (z : Int)) = false := by simp; omega
                      have j2' : decide (y < z) = false := by simp; omega
                      go_wp2
                      go_big_quiet (fail)
                      go_wp2
                      go_roundw
                      case rel => exact ⟨l + 1, by omega, by go_num, HBl.out.trans ((B.below_of (B.grown_drewN wr _ none) _ (Nat.le_refl _) (by simp)).mono HBl.out.size)⟩
                      case measure => simp [B.iv]; omega
                    · have j1 : decide ((x : Int) < (y : Int)) = false := by simp; omega
                      have j1' : decide (x < y) = false := by simp; omega
                      go_wp2
                      go_big_quiet (fail)
                      go_wp2
                      go_roundw
                      case rel => exact ⟨l + 1, by omega, by go_num, HBl.out.trans ((B.below_of (B.grown_drewN wr _ none) _ (Nat.le_refl _) (by simp)).mono HBl.out.size)⟩
                      case measure => simp [B.iv]; omega
                  · go_wp2
                    go_roundw
                    case rel => exact ⟨k + 1, by omega, by go_num, HBl.out⟩
                    case measure => simp [B.iv]; omega
              · have HT13 : Hid (Te w.heap.size w wr Fp5 Fq10 p q P P up5 uq10) := HT12.out.below HBk.out
                go_wp2
                go_roundw
                case rel => exact ⟨j + 1, by omega, by go_num, _, _, _, _, HT13.out, HE5.out⟩
                case measure => simp [B.iv]; omega)
    · have hstop : len ≤ j ∨ 60 ≤ j := by omega
      have HBe : Hid (Below w.heap.size w wr) := HT.out.be
      clear HT HE
      by_cases hjl2 : j < len
      · have hj1I : (j : Int) < (len : Int) := by omega
        have hj2I : ¬ ((j : Int) < 60) := by omega
        go_wp2
        go_ret
        exact ⟨rfl, HBe.out⟩
      · have hj1I : ¬ ((j : Int) < (len : Int)) := by omega
        go_wp2
        go_ret
        exact ⟨rfl, HBe.out⟩
set_option maxHeartbeats 4000000 in
theorem PoolEven_no {w : World} {a : Ad} {c : Cf} (hc : Cin w a c) (n : Int) {ao : Option Addr} {len cap : Nat} (hf : fe c n ≠ 0) :
    Calls Try.prog 4 #[.agg #[.int .i64 c.F, .int .i64 c.C, .int .i64 c.W, .int .i64 c.S, .int .i64 c.V, .int .i64 c.T, .int .u64 c.k.l1, .int .u64 c.k.llc, .int .u64 c.k.mi, .int .u64 c.k.fa, .int .u64 c.k.st, .int .u64 c.k.di, .int .u64 c.sl, .int .u64 c.pd, .int .u64 c.ft, .slice a.ta c.tn a.tc, .slice a.pa c.pn a.pc], .int .i64 n, .slice ao len cap] w (One (.bool true) w) := by
  have HB0 := cb_new hc
  have C0 : Hid (∀ W, Calls Try.prog 5 #[] W (One (.bool true) W)) := works_any
  have CN : Hid (∀ W, Cin W a c → Calls Try.prog 6 #[.agg #[.int .i64 c.F, .int .i64 c.C, .int .i64 c.W, .int .i64 c.S, .int .i64 c.V, .int .i64 c.T, .int .u64 c.k.l1, .int .u64 c.k.llc, .int .u64 c.k.mi, .int .u64 c.k.fa, .int .u64 c.k.st, .int .u64 c.k.di, .int .u64 c.sl, .int .u64 c.pd, .int .u64 c.ft, .slice a.ta c.tn a.tc, .slice a.pa c.pn a.pc], .int .i64 n] W fun e w' => e = .returned (.tuple #[.pointer none, .int .i64 (fe c n)]) ∧ Below W.heap.size W w') := fun W hW => New_no hW n hf
  have CM : Hid (∀ W, Cin W a c → Calls Try.prog 7 #[.agg #[.int .i64 c.F, .int .i64 c.C, .int .i64 c.W, .int .i64 c.S, .int .i64 c.V, .int .i64 c.T, .int .u64 c.k.l1, .int .u64 c.k.llc, .int .u64 c.k.mi, .int .u64 c.k.fa, .int .u64 c.k.st, .int .u64 c.k.di, .int .u64 c.sl, .int .u64 c.pd, .int .u64 c.ft, .slice a.ta c.tn a.tc, .slice a.pa c.pn a.pc]] W (One (.bool (may c)) W)) := fun W hW => May_all hW
  have HW : Hid ((may c = false ∧ fe c n = 5) ∨ (may c = true ∧ fe c n = 270)) := fe_ways hf
  generalize hfe : fe c n = e0 at *
  generalize hmm : may c = mm at *
  clear hc hfe hmm
  go_enter Try.func4, Try.ntmps4
  go_upto_region 1 with fail
  obtain ⟨W, hW, HB⟩ : ∃ W, (w.alloc (.cells #[.int .i64 c.F, .int .i64 c.C, .int .i64 c.W, .int .i64 c.S, .int .i64 c.V, .int .i64 c.T, .int .u64 c.k.l1, .int .u64 c.k.llc, .int .u64 c.k.mi, .int .u64 c.k.fa, .int .u64 c.k.st, .int .u64 c.k.di, .int .u64 c.sl, .int .u64 c.pd, .int .u64 c.ft, .slice a.ta c.tn a.tc, .slice a.pa c.pn a.pc] 28)) = W ∧ Hid (Cb w W w.heap.size a c) := ⟨_, rfl, HB0⟩
  rw [hW]
  clear hW HB0
  go_wp2_with fail
  refine (C0.out _).mono ?_
  rintro e w1 ⟨rfl, k1⟩
  have H1 : Hid (Cb w w1 w.heap.size a c) := HB.out.below k1
  have hld := H1.out.bx.ld
  clear HB k1 C0
  go_wp2_with (refine wpList_load_at rfl 28 (.tmp 3) rfl _ _ rfl hld ?_)
  refine (CN.out _ H1.out.ci).mono ?_
  rintro e w2 ⟨rfl, k2⟩
  have H2 : Hid (Cb w w2 w.heap.size a c) := H1.out.below k2
  clear hld k2 H1
  have hld := H2.out.bx.ld
  go_wp2_with (refine wpList_load_at rfl 28 (.tmp 3) rfl _ _ rfl hld ?_)
  refine (CN.out _ H2.out.ci).mono ?_
  rintro e w3 ⟨rfl, k3⟩
  have H3 : Hid (Cb w w3 w.heap.size a c) := H2.out.below k3
  clear hld k3 H2 CN
  have hld := H3.out.bx.ld
  go_wp2_with (refine wpList_load_wanted rfl 28 (.tmp 3) rfl _ _ rfl hld ?_)
  refine (CM.out _ H3.out.ci).mono ?_
  rintro e w4 ⟨rfl, k4⟩
  have H4 : Hid (Below w.heap.size w w4) := (H3.out.below k4).be
  clear hld k4 H3 CM
  rcases HW.out with ⟨rfl, rfl⟩ | ⟨rfl, rfl⟩
  · go_wp2
    go_ret
    exact ⟨rfl, H4.out⟩
  · go_wp2
    go_ret
    exact ⟨rfl, H4.out⟩
theorem PoolEven_walk {w : World} {a : Ad} {c : Cf} (hc : Cin w a c) (n : Int) {ao : Option Addr} {len cap : Nat} (hd : Dos w ao len) (hl : len ≤ maxLen) :
    Calls Try.prog 4 #[.agg #[.int .i64 c.F, .int .i64 c.C, .int .i64 c.W, .int .i64 c.S, .int .i64 c.V, .int .i64 c.T, .int .u64 c.k.l1, .int .u64 c.k.llc, .int .u64 c.k.mi, .int .u64 c.k.fa, .int .u64 c.k.st, .int .u64 c.k.di, .int .u64 c.sl, .int .u64 c.pd, .int .u64 c.ft, .slice a.ta c.tn a.tc, .slice a.pa c.pn a.pc], .int .i64 n, .slice ao len cap] w (One (.bool true) w) := by
  by_cases hf : fe c n = 0
  · exact PoolEven_ok hc n hd hl hf
  · exact PoolEven_no hc n hf
end Go.Proofs.Ytifchflbhdnfaaa.P
