/- VmaPages walked: page by page each is as it was made last; no condition. -/
import Derived.Test.YtmhfgfgiiinpjaaYe
import Derived.Deep.CutBlock
namespace Go.Proofs.Ytmhfgfgiiinpjaa.V
open Go.ChangeShapes Go.WideShapes Go.ChangeAt Go.RowKit
set_option linter.unusedVariables false
set_option maxRecDepth 16384

theorem An.ra {W : World} {a : List Rg} {x : Int} {e : Ending} {W' : World} (h : An W (a, x) e W') {b : Nat} (hb : b < W.heap.size) : ∃ ao cap, e = .returned (.tuple #[.slice ao a.length cap, .int .i64 x]) ∧ Ra W' ao cap a b ∧ Below W.heap.size W W' := by
  obtain ⟨v, h1, h2, h3⟩ := h
  obtain ⟨ao, cap, rfl, hr, _, ho⟩ := h2.rn
  refine ⟨ao, cap, h1, ⟨hr, ?_, fun _ bb off e => by have := (ho bb off e).2; omega⟩, h3⟩
  rcases h2.form with ⟨e, q⟩ | ⟨g, c, e, _, _, hc, _⟩
  · simp only at q; rw [q]; exact Nat.zero_le _
  · cases e; exact hc
set_option maxHeartbeats 8000000 in
theorem pages_all {w : World} {ao : Option Addr} {n cap : Nat} {f : Nat → Ak} (h : As w ao n f) (hn : n ≤ maxLen) :
    Calls Try.prog 6 #[.slice ao n cap] w fun e w' => e = .returned (.bool true) ∧ Below w.heap.size w w' := by
  have CW : Hid (Calls Try.prog 21 #[] w fun e w' => e = .returned (.bool true) ∧ Below w.heap.size w w') := works_ok w
  have HA : Hid (As w ao n f) := h
  have hn63 : n < 9223372036854775808 := by unfold maxLen at hn; omega
  clear h hn
  go_enter Try.func6, Try.ntmps6
  go_wp2_with fail
  refine CW.out.mono ?_
  rintro e w1 ⟨rfl, b1⟩
  have HB1 : Hid (Below w.heap.size w w1) := b1
  have HP0 : Hid (Pst w (w1.alloc (.cells (A60 (fun _ => 0)) 53)) w1.heap.size none 0 [] (fun _ => none)) := ⟨bal b1 _, ⟨Or.inl rfl, Nat.le_refl _, fun q => absurd rfl q⟩, ⟨trivial, fun x => rfl⟩, fun x q => absurd rfl q, zero60 w1 _ rfl, b1.size⟩
  obtain ⟨b4, hb4⟩ : ∃ b4, w1.heap.size = b4 := ⟨_, rfl⟩
  rw [hb4] at HP0
  have Hb4 : Hid (w1.heap.size = b4) := hb4
  clear b1 CW hb4
  go_wp2_with fail
  rw [Hb4.out]
  go_loopw [3, 5] (fun t3 t5 wr => ∃ (k : Nat) (a : Option Addr) (c : Nat) (l : List Rg) (F : Int → Option Int), k ≤ n ∧ k ≤ 80 ∧ t5 = .int .i64 k ∧ t3 = .slice a l.length c ∧ Hid (Pst w wr b4 a c l F)) (fun _ t5 _ => 80 - (iv t5).toNat)
  case atStart => exact ⟨0, none, 0, [], fun _ => none, by omega, by omega, rfl, rfl, HP0.out⟩
  case round =>
    obtain ⟨k, a, c, l, F, hk, hk8, rfl, rfl, HP⟩ := hrel
    have ix1 : (0 : Int) ≤ (k : Int) := Int.natCast_nonneg k
    clear HP0
    by_cases hlt : k < n ∧ k < 80
    case neg =>
      have hM : May l := is_may HP.out.is HP.out.hi
      have CPg : Hid (Calls Try.prog 24 #[.slice a l.length c] wr fun e w' => e = .returned (.tuple #[.int .i64 ((cnt F 0 60 : Nat) : Int), .int .i64 0]) ∧ Below wr.heap.size wr w') := by
        have := Pages_ok (HP.out.ra.ri HP.out.is.fm)
        rw [chk_may.2 hM, if_pos rfl, is_tot (u := 60) HP.out.is HP.out.hi] at this
        exact this
      obtain ⟨w2, rfl⟩ : ∃ w2, w2 = wr := ⟨_, rfl⟩
      clear hM
      have hcs : (k < n ∧ 80 ≤ k) ∨ n ≤ k := by omega
      rcases hcs with ⟨h1, h2⟩ | h1
      case' inl =>
        have i1 : (k : Int) < (n : Int) := by omega
        have i2 : (80 : Int) ≤ (k : Int) := by omega
      case' inr => have i1 : (n : Int) ≤ (k : Int) := by omega
      all_goals
        clear hlt
        go_wp2_with fail
        go_loopw [17, 18] (fun t17 t18 wx => ∃ q : Nat, q ≤ 60 ∧ t18 = .int .i64 (q : Nat) ∧ t17 = .int .i64 ((cnt F 0 q : Nat) : Int) ∧ wx = w2) (fun _ t18 _ => 60 - (iv t18).toNat)
        case atStart => exact ⟨0, by omega, rfl, rfl, rfl⟩
        case round =>
          obtain ⟨q, hq, rfl, rfl, rfl⟩ := hrel
          have iq1 : (0 : Int) ≤ (q : Int) := Int.natCast_nonneg q
          have hcl := cnt_le F 0 q
          by_cases hql : q < 60
          case pos =>
            have iq3 : (q : Int) < 60 := by omega
            have cq := HP.out.bl.cell (j := q) hql
            have hen := enc_ne HP.out.is (q : Int)
            have HS : Hid (cnt F 0 (q + 1) = cnt F 0 q + if (F (q : Int)).isSome then 1 else 0) := by
              show cnt F 0 q + (if (F (0 + (q : Int))).isSome then 1 else 0) = _
              rw [Int.zero_add]
            generalize enc (F (q : Int)) = ev at *
            by_cases hev : ev = 0
            case pos =>
              have HS2 : Hid (cnt F 0 (q + 1) = cnt F 0 q) := by
                have h0 : ¬ (F (q : Int)).isSome = true := fun z => hen.2 z hev
                have := HS.out
                rw [if_neg h0] at this
                exact this
              have hev' : (ev == 0) = true := by simpa using hev
              clear hen
              go_wp2_with fail
              go_roundw
              case rel => exact ⟨q + 1, by omega, by go_num, by rw [HS2.out], trivial⟩
              case measure => simp [iv]; omega
            case neg =>
              have HS2 : Hid (cnt F 0 (q + 1) = cnt F 0 q + 1) := by
                have := HS.out
                rw [if_pos (hen.1 hev)] at this
                exact this
              have hev' : (ev == 0) = false := by simpa using hev
              clear hen
              go_wp2_with fail
              go_roundw
              case rel => exact ⟨q + 1, by omega, by go_num, by rw [HS2.out]; go_num, trivial⟩
              case measure => simp [iv]; omega
          case neg =>
            obtain rfl : q = 60 := by omega
            have HBe : Hid (Below w.heap.size w wr) := HP.out.be
            generalize cnt F 0 60 = cc at *
            go_wp2_with fail
            refine CPg.out.mono ?_
            rintro e w3 ⟨rfl, b3⟩
            have HB3 : Hid (Below w.heap.size w w3) := bs HBe.out b3
            clear b3
            go_wp2
            go_ret
            exact ⟨rfl, HB3.out⟩
    case pos =>
      obtain ⟨hkn, hk80⟩ := hlt
      have ix2 : (k : Int) < (n : Int) := Int.ofNat_lt.2 hkn
      have ix3 : (k : Int) < 80 := by omega
      obtain ⟨b, off, rfl, hwf, c0, c1, c2, c3⟩ := HA.out.at' HP.out.be hkn
      generalize f k = x at *
      obtain ⟨p, m, u, t⟩ := x
      simp only at c0 c1 c2 c3
      obtain ⟨⟨hp, hm, hu⟩, ht⟩ := hwf
      simp only at hp hm hu ht
      have Hp : Hid (-9223372036854775808 ≤ p ∧ p < 9223372036854775808) := hp
      have Hm : Hid (-9223372036854775808 ≤ m ∧ m < 9223372036854775808) := hm
      have Ht : Hid (-9223372036854775808 ≤ t ∧ t < 9223372036854775808) := ht
      obtain ⟨hu1, hu2⟩ := hu
      have HPo : Hid (∀ o : Obj, Pst w (wr.alloc o) b4 a c l F) := fun o => HP.out.below (below1 wr o)
      clear hp hm ht
      go_wp2_with fail
      have z (i) := cell_at wr #[.int .i64 p, .int .i64 m, .int .u8 u, .int .i64 t] 24 (Below.refl _ _) i
      have z1 := z 1
      have z2 := z 2
      have z3 := z 3
      simp only [List.getElem?_toArray, List.getElem?_cons_succ, List.getElem?_cons_zero] at z1 z2 z3
      have HP2 := HPo.out (.cells #[.int .i64 p, .int .i64 m, .int .u8 u, .int .i64 t] 24)
      generalize wr.alloc (.cells #[.int .i64 p, .int .i64 m, .int .u8 u, .int .i64 t] 24) = W2 at *
      obtain ⟨bx, hbx⟩ : ∃ bx, wr.heap.size = bx := ⟨_, rfl⟩
      rw [hbx] at z1 z2 z3
      rw [hbx]
      have HQ : Hid (Pst w W2 b4 a c l F) := HP2
      clear z c0 c1 c2 c3 HPo HP2 hbx HP
      refine (within_w p 59 (by omega) Hp.out _).mono ?_
      rintro e w2 ⟨s0, rfl, ⟨s1, s2⟩, rfl⟩
      go_upto_region 10 with fail
      obtain ⟨s, hs⟩ : ∃ s, 1 + s0 = s := ⟨_, rfl⟩
      have s3 : 1 ≤ s := by omega
      have s4 : s ≤ 59 := by omega
      rw [hs]
      clear hs s1 s2
      have HZ : Hid (∀ W, Below w2.heap.size w2 W → W.cell? ⟨bx, 2, none⟩ = some (.int .u8 u) ∧ W.cell? ⟨bx, 3, none⟩ = some (.int .i64 t)) := fun W q => ⟨(q.cell (World.block_lt_of_cell? w2 _ z2)).trans z2, (q.cell (World.block_lt_of_cell? w2 _ z3)).trans z3⟩
      go_cut [8] from 23 to 135 (fun t8 wx => ∃ nn : Nat, t8 = .int .i64 (nn : Nat) ∧ 1 ≤ nn ∧ nn ≤ 20 ∧ s + nn ≤ 60 ∧ wx = w2)
      case first =>
        have hb1 : 20 ≤ 60 - s ∨ (60 - s < 20 ∧ 1 ≤ 60 - s) := by omega
        rcases hb1 with hb1 | ⟨hb1, hb2⟩
        all_goals
          go_wp2_with fail
          refine (within_w m _ (by omega) Hm.out _).mono ?_
          rintro e w3 ⟨j0, rfl, ⟨j1, j2⟩, rfl⟩
          go_wp2_with fail
          go_meet
          exact ⟨(1 + j0).toNat, by rw [Int.toNat_of_nonneg (by omega)], by omega, by omega, by omega, rfl⟩
      case rest =>
        obtain ⟨nn, rfl, n1, n2, n3, hwc⟩ := hcut
        obtain rfl := hwc.symm
        go_upto_region 11 with fail
        go_cut [9] from 23 to 135 (fun t9 wx => ∃ pm : Int, t9 = .int .u8 pm ∧ prm pm ∧ Below w2.heap.size w2 wx)
        case first =>
          have hr : u % 3 = 0 ∨ u % 3 = 1 ∨ u % 3 = 2 := by omega
          have y2 := (HZ.out _ (below1 w2 (.cells #[.int .u8 0, .int .u8 1, .int .u8 3] 5))).1
          have htm : Int.tmod u 3 = u % 3 := Int.tmod_eq_emod_of_nonneg hu1
          rcases hr with hr | hr | hr
          all_goals
            rw [hr] at htm
            go_wp2_with fail
            go_meet
            exact ⟨_, rfl, by unfold prm; omega, below1 _ _⟩
        case rest =>
          obtain ⟨pm, rfl, hpm, hbc⟩ := hcut
          obtain ⟨w5, rfl⟩ : ∃ w5, w5 = wc := ⟨_, rfl⟩
          have HQ5 : Hid (Pst w w5 b4 a c l F) := HQ.out.below hbc
          have HZ5 : Hid (∀ W, Below w5.heap.size w5 W → W.cell? ⟨bx, 3, none⟩ = some (.int .i64 t)) := fun W q => (HZ.out W (bs hbc q)).2
          have Hpm : Hid (prm pm) := hpm
          obtain ⟨sN, hsN⟩ : ∃ sN : Nat, (sN : Int) = s := ⟨s.toNat, by omega⟩
          subst hsN
          clear hbc hpm HZ HQ z1 z2 z3
          go_wp2_with fail
          go_loopw [10, 11] (fun t10 t11 wx => ∃ q : Nat, sN ≤ q ∧ q ≤ sN + nn ∧ t11 = .int .i64 (q : Nat) ∧ t10 = .int .i64 ((cnt F sN (q - sN) : Nat) : Int) ∧ wx = w5) (fun _ t11 _ => sN + nn - (iv t11).toNat)
          case atStart => exact ⟨sN, by omega, by omega, rfl, by rw [Nat.sub_self]; rfl, rfl⟩
          case round =>
            obtain ⟨q, hq1, hq2, rfl, rfl, rfl⟩ := hrel
            have iq1 : (0 : Int) ≤ (q : Int) := Int.natCast_nonneg q
            have hcl := cnt_le F (sN : Int) (q - sN)
            by_cases hql : q < sN + nn
            case pos =>
              have iq2 : (q : Int) < (sN : Int) + (nn : Int) := by omega
              have iq3 : (q : Int) < 60 := by omega
              have cq := HQ5.out.bl.cell (j := q) (by omega)
              have hen := enc_ne HQ5.out.is (q : Int)
              have HS : Hid (cnt F sN (q + 1 - sN) = cnt F sN (q - sN) + if (F (q : Int)).isSome then 1 else 0) := by
                have e : q + 1 - sN = (q - sN) + 1 := by omega
                have e2 : (sN : Int) + ((q - sN : Nat) : Int) = (q : Int) := by omega
                show cnt F sN (q + 1 - sN) = _
                rw [e]
                show cnt F sN (q - sN) + (if (F ((sN : Int) + ((q - sN : Nat) : Int))).isSome then 1 else 0) = _
                rw [e2]
              generalize enc (F (q : Int)) = ev at *
              by_cases hev : ev = 0
              case pos =>
                have HS2 : Hid (cnt F sN (q + 1 - sN) = cnt F sN (q - sN)) := by
                  have h0 : ¬ (F (q : Int)).isSome = true := fun z => hen.2 z hev
                  have := HS.out
                  rw [if_neg h0] at this
                  exact this
                have hev' : (ev == 0) = true := by simpa using hev
                clear hen
                go_wp2_with fail
                go_roundw
                case rel => exact ⟨q + 1, by omega, by omega, by go_num, by rw [HS2.out], trivial⟩
                case measure => simp [iv]; omega
              case neg =>
                have HS2 : Hid (cnt F sN (q + 1 - sN) = cnt F sN (q - sN) + 1) := by
                  have := HS.out
                  rw [if_pos (hen.1 hev)] at this
                  exact this
                have hev' : (ev == 0) = false := by simpa using hev
                clear hen
                go_wp2_with fail
                go_roundw
                case rel => exact ⟨q + 1, by omega, by omega, by go_num, by rw [HS2.out]; go_num, trivial⟩
                case measure => simp [iv]; omega
            case neg =>
              obtain rfl : q = sN + nn := by omega
              obtain ⟨w6, rfl⟩ : ∃ w6, w6 = wr := ⟨_, rfl⟩
              have hmp : sN + nn - sN = nn := by omega
              rw [hmp] at hcl ⊢
              have HM1 : Hid ((∃ x, (sN : Int) ≤ x ∧ x < sN + nn ∧ F x ≠ none) → 0 < cnt F sN nn) := cnt_pos
              have HM2 : Hid ((∀ x, (sN : Int) ≤ x → x < sN + nn → F x = none) → cnt F sN nn = 0) := fun z => cnt_none z
              have HM3 : Hid ((∃ x, (sN : Int) ≤ x ∧ x < sN + nn ∧ F x = none) → cnt F sN nn < nn) := cnt_less
              have HM4 : Hid ((∀ x, (sN : Int) ≤ x → x < sN + nn → F x ≠ none) → cnt F sN nn = nn) := cnt_all.2
              generalize cnt F sN nn = mp at *
              have im1 : (0 : Int) ≤ (mp : Int) := Int.natCast_nonneg mp
              have hM : May l := is_may HQ5.out.is HQ5.out.hi
              have hR : Ri w6 a c l := HQ5.out.ra.ri HQ5.out.is.fm
              have CP : Hid (Calls Try.prog 12 #[.slice a l.length c, .agg #[.int .i64 (sN : Nat), .int .i64 (nn : Nat), .int .u8 pm]] w6 (An w6 (puV l ⟨sN, nn, pm⟩))) := Put_ok hR ⟨sN, nn, pm⟩ (by unfold wfR; simp only; have := Hpm.out; unfold prm at this; omega)
              have CT : Hid (Calls Try.prog 16 #[.slice a l.length c, .agg #[.int .i64 (sN : Nat), .int .i64 (nn : Nat)]] w6 (An w6 (cuV l sN nn))) := Cut_ok hR sN nn (by omega)
              have CR : Hid (Calls Try.prog 18 #[.slice a l.length c, .agg #[.int .i64 (sN : Nat), .int .i64 (nn : Nat)], .int .u8 pm] w6 (An w6 (prV l sN nn pm))) := Protect_ok hR sN nn pm (by unfold wfR; simp only; have := Hpm.out; unfold prm at this; omega)
              have hb4w : b4 < w6.heap.size := HQ5.out.bl.lt
              have HPut := put60 HQ5.out.is HQ5.out.hi (s := sN) (n := nn) (m := pm) (by omega) (by omega) (by omega) Hpm.out
              have HCut := cut60 HQ5.out.is HQ5.out.hi (s := sN) (n := nn) (by omega) (by omega) (by omega)
              have HPro := protect60 HQ5.out.is HQ5.out.hi (s := sN) (n := nn) (m := pm) (by omega) (by omega) (by omega) Hpm.out
              have HPu : Hid ((∃ x, (sN : Int) ≤ x ∧ x < sN + nn ∧ F x ≠ none) ∧ puV l ⟨sN, nn, pm⟩ = ([], 171) ∨ (∀ x, (sN : Int) ≤ x → x < sN + nn → F x = none) ∧ ∃ k, puV l ⟨sN, nn, pm⟩ = (k, 0) ∧ Is k (tn F sN nn (some pm))) := HPut
              have HCu : Hid (∃ k, cuV l sN nn = (k, 0) ∧ Is k (tn F sN nn none)) := HCut
              have HPr : Hid ((∃ x, (sN : Int) ≤ x ∧ x < sN + nn ∧ F x = none) ∧ prV l sN nn pm = ([], 170) ∨ (∀ x, (sN : Int) ≤ x → x < sN + nn → F x ≠ none) ∧ ∃ k, prV l sN nn pm = (k, 0) ∧ Is k (tn F sN nn (some pm))) := HPro
              clear hM hR hmp iq1 HPut HCut HPro
              have z3 := HZ5.out w6 (Below.refl _ _)
              go_wp2_with fail
              refine (within_w t 3 (by omega) Ht.out _).mono ?_
              rintro e w7 ⟨j0, rfl, ⟨j1, j2⟩, rfl⟩
              clear z3
              go_upto_block 4 with fail
              go_cut [12, 13, 14, 15] from 23 to 135 (fun t12 t13 t14 t15 wx => ∃ (a' : Option Addr) (c' : Nat) (l' : List Rg) (e' v : Int), t12 = .slice a' l'.length c' ∧ t13 = .int .i64 e' ∧ t14 = .int .i64 e' ∧ t15 = .int .u8 v ∧ Below w7.heap.size w7 wx ∧ (e' = 171 ∨ e' = 170 ∨ (e' = 0 ∧ ∃ u, v = enc u ∧ Is l' (tn F sN nn u) ∧ Ra wx a' c' l' b4)))
              case first =>
                have hj : j0 = 0 ∨ j0 = 1 ∨ j0 = 2 := by omega
                have Hpm3 : Hid (pm = 0 ∨ pm = 1 ∨ pm = 3) := Hpm.out
                rcases hj with rfl | rfl | rfl
                · go_wp2_with fail
                  refine CP.out.mono ?_
                  intro e w8 hA
                  rcases HPu.out with ⟨hx, hv⟩ | ⟨hx, k', hv, hi⟩
                  · rw [hv] at hA
                    obtain ⟨a', c', rfl, hra, hb8⟩ := hA.ra hb4w
                    have hmp := HM1.out hx
                    have HE : Hid (Below w7.heap.size w7 w8) := hb8
                    clear hA hra hb8 hx hv
                    have hmi : (0 : Int) < (mp : Int) := by omega
                    have hmd : decide ((0 : Int) < (mp : Int)) = true := decide_eq_true hmi
                    rcases Hpm3.out with rfl | rfl | rfl
                    all_goals
                      go_wp2_with fail
                      go_meet
                      exact ⟨_, _, [], _, _, rfl, rfl, rfl, rfl, HE.out, Or.inl rfl⟩
                  · rw [hv] at hA
                    obtain ⟨a', c', rfl, hra, hb8⟩ := hA.ra hb4w
                    have hmp := HM2.out hx
                    have HE : Hid (Below w7.heap.size w7 w8) := hb8
                    have HV : Hid (Is k' (tn F sN nn (some pm)) ∧ Ra w8 a' c' k' b4) := ⟨hi, hra⟩
                    clear hA hra hb8 hx hv hi
                    subst hmp
                    rcases Hpm3.out with rfl | rfl | rfl
                    all_goals
                      go_wp2_with fail
                      go_meet
                      exact ⟨_, _, k', _, _, rfl, rfl, rfl, rfl, HE.out, Or.inr (Or.inr ⟨rfl, some _, rfl, HV.out.1, HV.out.2⟩)⟩
                · go_wp2_with fail
                  refine CT.out.mono ?_
                  intro e w8 hA
                  obtain ⟨k', hv, hi⟩ := HCu.out
                  rw [hv] at hA
                  obtain ⟨a', c', rfl, hra, hb8⟩ := hA.ra hb4w
                  have HE : Hid (Below w7.heap.size w7 w8) := hb8
                  have HV : Hid (Is k' (tn F sN nn none) ∧ Ra w8 a' c' k' b4) := ⟨hi, hra⟩
                  clear hA hra hb8 hv hi
                  go_wp2_with fail
                  go_meet
                  exact ⟨_, _, k', _, _, rfl, rfl, rfl, rfl, HE.out, Or.inr (Or.inr ⟨rfl, none, rfl, HV.out.1, HV.out.2⟩)⟩
                · go_wp2_with fail
                  refine CR.out.mono ?_
                  intro e w8 hA
                  rcases HPr.out with ⟨hx, hv⟩ | ⟨hx, k', hv, hi⟩
                  · rw [hv] at hA
                    obtain ⟨a', c', rfl, hra, hb8⟩ := hA.ra hb4w
                    have hmp := HM3.out hx
                    have HE : Hid (Below w7.heap.size w7 w8) := hb8
                    clear hA hra hb8 hx hv
                    have hmi : (mp : Int) < (nn : Int) := by omega
                    have hmd : decide ((mp : Int) < (nn : Int)) = true := decide_eq_true hmi
                    rcases Hpm3.out with rfl | rfl | rfl
                    all_goals
                      go_wp2_with fail
                      go_meet
                      exact ⟨_, _, [], _, _, rfl, rfl, rfl, rfl, HE.out, Or.inr (Or.inl rfl)⟩
                  · rw [hv] at hA
                    obtain ⟨a', c', rfl, hra, hb8⟩ := hA.ra hb4w
                    have hmp := HM4.out hx
                    have HE : Hid (Below w7.heap.size w7 w8) := hb8
                    have HV : Hid (Is k' (tn F sN nn (some pm)) ∧ Ra w8 a' c' k' b4) := ⟨hi, hra⟩
                    clear hA hra hb8 hx hv hi
                    subst hmp
                    rcases Hpm3.out with rfl | rfl | rfl
                    all_goals
                      go_wp2_with fail
                      go_meet
                      exact ⟨_, _, k', _, _, rfl, rfl, rfl, rfl, HE.out, Or.inr (Or.inr ⟨rfl, some _, rfl, HV.out.1, HV.out.2⟩)⟩
              case rest =>
                obtain ⟨w8, rfl⟩ : ∃ w8, w8 = wc := ⟨_, rfl⟩
                obtain ⟨a', c', l', e', v, rfl, rfl, rfl, rfl, hbc, hcs⟩ := hcut
                have HQ8 : Hid (Pst w w8 b4 a c l F) := HQ5.out.below hbc
                clear hbc HPu HCu HPr CP CT CR HM1 HM2 HM3 HM4
                rcases hcs with rfl | rfl | ⟨rfl, u', rfl, hi, hra⟩
                · go_wp2_with fail
                  go_roundw
                  case rel => exact ⟨k + 1, a, c, l, F, by omega, by omega, by go_num, rfl, HQ8.out⟩
                  case measure => simp [iv]; omega
                · go_wp2_with fail
                  go_roundw
                  case rel => exact ⟨k + 1, a, c, l, F, by omega, by omega, by go_num, rfl, HQ8.out⟩
                  case measure => simp [iv]; omega
                · have HI : Hid (Is l' (tn F sN nn u')) := hi
                  have HR0 : Hid (Ra w8 a' c' l' b4) := hra
                  clear hi hra
                  go_wp2_with fail
                  go_loopw [16] (fun t16 wx => ∃ q : Nat, q ≤ nn ∧ t16 = .int .i64 ((sN + q : Nat) : Int) ∧ Hid (Bl wx b4 (pgd F sN q (enc u'))) ∧ Hid (Ra wx a' c' l' b4) ∧ Below w.heap.size w wx) (fun t16 _ => sN + nn - (iv t16).toNat)
                  case atStart => exact ⟨0, by omega, by rw [Nat.add_zero], HQ8.out.bl.congr (fun j _ => (pgd_zero F sN (enc u') j).symm), HR0.out, HQ8.out.be⟩
                  case round =>
                    obtain ⟨q, hq, rfl, HBl, HRa, hb⟩ := hrel
                    have HBw : Hid (Below w.heap.size w wr) := hb
                    obtain ⟨z, hz⟩ : ∃ z, sN + q = z := ⟨_, rfl⟩
                    rw [hz]
                    have iz1 : (0 : Int) ≤ (z : Int) := Int.natCast_nonneg z
                    by_cases hql : q < nn
                    case pos =>
                      have iz2 : (z : Int) < (sN : Int) + (nn : Int) := by omega
                      have iz3 : (z : Int) < 60 := by omega
                      have cz := HBl.out.cell (j := z) (by omega)
                      have fz := HBl.out.frozen z
                      have HB2 : Hid (Bl (wr.setCell ⟨b4, z, none⟩ (.int .u8 (enc u'))) b4 (pgd F sN (q + 1) (enc u'))) := (HBl.out.set (k := z) (by omega) (enc u')).congr (fun j _ => pgd_succ F (by omega) _ j)
                      have HR2 : Hid (Ra (wr.setCell ⟨b4, z, none⟩ (.int .u8 (enc u'))) a' c' l' b4) := HRa.out.set z _
                      have HBe : Hid (Below w.heap.size w (wr.setCell ⟨b4, z, none⟩ (.int .u8 (enc u')))) := hb.setCell HQ8.out.lo _
                      clear hb
                      go_wp2_with fail
                      go_roundw
                      case rel => exact ⟨q + 1, by omega, by rw [← hz]; go_num, HB2.out, HR2.out, HBe.out⟩
                      case measure => simp [iv]; omega
                    case neg =>
                      obtain rfl : q = nn := by omega
                      obtain ⟨w9, rfl⟩ : ∃ w9, w9 = wr := ⟨_, rfl⟩
                      have HP9 : Hid (Pst w w9 b4 a' c' l' (tn F sN q u')) := ⟨HBw.out, HRa.out, HI.out, tn_in HQ8.out.hi n3, HBl.out.congr (fun j _ => pgd_all F sN q u' j), HQ8.out.lo⟩
                      clear hb HBl HRa HBw HI HR0 HQ8 HQ5 HZ5
                      generalize tn F sN q u' = F' at *
                      have hMay : May l' := is_may HP9.out.is HP9.out.hi
                      have CFm : Hid (∀ W, Below w9.heap.size w9 W → Calls Try.prog 31 #[.slice a' l'.length c'] W fun e w' => e = .returned (.bool true) ∧ Below W.heap.size W w') := fun W hW => form_ok ((HP9.out.ra.below hW).ri HP9.out.is.fm) hMay (is_in HP9.out.is HP9.out.hi)
                      have CSn : Hid (∀ W, Below w9.heap.size w9 W → Calls Try.prog 32 #[.slice a' l'.length c'] W fun e w' => e = .returned (.agg (A60 (fun j => enc (F' j)))) ∧ Below W.heap.size W w') := fun W hW => by
                        have := seen_ok ((HP9.out.ra.below hW).ri HP9.out.is.fm) hMay
                        have e : (fun j : Nat => enc (at_ l' j)) = fun j : Nat => enc (F' j) := funext (fun j => by rw [HP9.out.is.eq])
                        rw [e] at this
                        exact this
                      have hlq : ∀ N : Idx (Below w9.heap.size w9), (Instr.loadAt 53 (.pointer (some ⟨b4, 0, none⟩))).run Try.prog N.W = .ok (.agg (A60 (fun j => enc (F' j)))) N.W := fun N => by
                        have := (HP9.out.bl.below N.h).load
                        simp only [Instr.loadAt, Instr.sureAddr, Sem.run_bind, Sem.run_pure, Result.andThen_ok, this]
                      have hq60 := ne60 (fun j => enc (F' j))
                      have hne : Nonempty (Idx (Below w9.heap.size w9)) := ⟨⟨w9, Below.refl _ _⟩⟩
                      have HPn : Hid (∀ W, Below w9.heap.size w9 W → Pst w W b4 a' c' l' F') := fun W hW => HP9.out.below hW
                      have iz2 : (z : Int) = (sN : Int) + (q : Int) := by omega
                      clear hMay HP9
                      generalize A60 (fun j => enc (F' j)) = G at *
                      go_wp2_with fail
                      refine wp_region_cls (Below w9.heap.size w9) (by kernel_rfl) (by kernel_rfl) ((Below.refl _ _).drew) ?_
                      repeat (first | (go_big_quiet_want; refine quiet_load_at 53 (.tmp 4) rfl _ _ rfl hlq ?_; simp only [Act.put, List.setIfInBounds_toArray, List.set_cons_zero, List.set_cons_succ]; go_big_quiet_on) | (go_big_quiet_step (first | (go_at_call 31; exact cls (CFm.out _ (by first | exact Below.refl _ _ | exact Idx.h _)) (fun _ _ h k => bs h k)) | (go_at_call 32; exact cls (CSn.out _ (by first | exact Below.refl _ _ | exact Idx.h _)) (fun _ _ h k => bs h k)))))
                      refine wpQuiet_nil ?_
                      rintro wA ⟨⟨_, hSA⟩, rfl⟩
                      rename_i wA
                      have HPA : Hid (Pst w wA b4 a' c' l' F') := HPn.out wA hSA
                      clear hlq hq60 hne CFm CSn hSA HPn
                      go_wp2_with fail
                      go_roundw
                      case rel => exact ⟨k + 1, a', c', l', F', by omega, by omega, by go_num, rfl, HPA.out⟩
                      case measure => simp [iv]; omega
end Go.Proofs.Ytmhfgfgiiinpjaa.V
