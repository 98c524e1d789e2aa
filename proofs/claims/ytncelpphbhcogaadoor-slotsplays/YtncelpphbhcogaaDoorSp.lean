/- SlotsPlays walked: each answer, and behind it all that is told, in memory of its own; no condition but the table of math/bits and the ranges of what came in. -/
import Derived.Test.YtncelpphbhcogaaDoorSn
namespace Go.Proofs.YtncelpphbhcogaaDoor.Z
open Go.ChangeShapes Go.WideShapes Go.ChangeAt Go.RowKit
set_option linter.unusedVariables false
set_option maxRecDepth 8192

theorem new_both {w : World} (ht : Tb w) (N : Int) : ∃ er S, Calls Tryd.prog 6 #[.int .i64 N] w fun e w1 => ∃ q, e = .returned (.tuple #[.pointer q, .int .i64 er]) ∧
    Calls Tryd.prog 7 #[.int .i64 N] w1 fun e w2 => ∃ q', e = .returned (.tuple #[.pointer q', .int .i64 er]) ∧ (q.isNone = q'.isNone) ∧ Pl w w2 (.pointer q) (.pointer q') S S := by
  by_cases h : N < 0 ∨ 1024 < N
  · refine ⟨2, none, (New_no N h w).mono fun e w1 ⟨he, hw⟩ => ⟨none, he, (rNew_no N h w1).mono fun e w2 ⟨he2, hw2⟩ => ⟨none, he2, rfl, ?_⟩⟩⟩
    rw [hw2, hw]
    exact pl_none (Below.refl _ _) ht
  · obtain ⟨n, rfl⟩ := Int.eq_ofNat_of_zero_le (show 0 ≤ N by omega)
    have hn : n ≤ 1024 := by omega
    refine ⟨0, some (nw n), (aNew hn ht).mono fun e w1 ⟨s, g, he, hA, hs, hg, hb1, ht1⟩ => ⟨_, he, (rNew_ok hn w1).mono fun e w2 ⟨r, h, he2, hR, hr, hh, hb2⟩ => ⟨_, he2, by simp, pl_some (Below.refl _ _) ht hA hs hg hb1 hR hr hh hb2⟩⟩⟩
theorem Is.kept {w w' : World} {base g : Nat} {v : Value} {L : List Nat} (h : Is w base v L) (k : w.grownBy w' (some g)) (hne : v.ownBlock ≠ some g) : Is w' base v L := row_eq h (fun x hx => k.block x (row_lt h x hx).2 (fun e => by cases e; exact hne hx))
/-- A row that is written over, and one that stays. -/
def Wo (w : World) (B : Nat) (ax : Option Addr) (n : Nat) (vy : Value) (L : List Nat) : Prop :=
  Is w B vy L ∧ (n = 0 ∨ ∃ g M, ax = some ⟨g, 0, none⟩ ∧ B ≤ g ∧ Blk w g 3 M ∧ n ≤ M.length ∧ vy.ownBlock ≠ some g)
theorem Wo.below {w w' : World} {B : Nat} {ax : Option Addr} {n : Nat} {vy : Value} {L : List Nat} (h : Wo w B ax n vy L) (k : Below w.heap.size w w') : Wo w' B ax n vy L :=
  ⟨h.1.below k, h.2.imp id fun ⟨g, M, e, hb, hm, hl, hy⟩ => ⟨g, M, e, hb, hm.below k, hl, hy⟩⟩
theorem Wo.lst {w : World} {B : Nat} {ax : Option Addr} {n : Nat} {vy : Value} {L : List Nat} (h : Wo w B ax n vy L) : Lst w vy L := h.1.lst
theorem Wo.at' {w : World} {B : Nat} {ax : Option Addr} {n : Nat} {vy : Value} {L : List Nat} (h : Wo w B ax n vy L) {j : Nat} (hj : j < n) : ∃ g u, ax = some ⟨g, 0, none⟩ ∧ B ≤ g ∧ w.cell? ⟨g, j, none⟩ = some u ∧ w.frozen? ⟨g, j, none⟩ = false ∧ ∀ v, Wo (w.setCell ⟨g, j, none⟩ v) B ax n vy L := by
  obtain ⟨g, M, rfl, hb, hm, hl, hy⟩ := h.2.resolve_left (by omega)
  refine ⟨g, M[j]'(by omega), rfl, hb, (hm.cell j).trans (List.getElem?_eq_getElem (by omega)), hm.frozen j, fun v => ⟨h.1.kept (grown_setCell' w g j v) hy, Or.inr ⟨g, M.set j v, rfl, hb, hm.set j v, by rw [List.length_set]; exact hl, hy⟩⟩⟩
theorem wo_of {w w' : World} {B B2 : Nat} {vx vy : Value} {L : List Nat} (hx : Is w B vx L) (k : Below w.heap.size w w') (hy : Is w' w.heap.size vy L) (hB : B ≤ w.heap.size) : ∃ ax cx, vx = .slice ax L.length cx ∧ Wo w' B ax L.length vy L := by
  obtain ⟨_, ⟨rfl, h2⟩ | ⟨g', cap, cur, rfl, hb, hw, hn, hm, hs, ht⟩⟩ := hx
  · refine ⟨none, 0, by rw [h2], hy.mono hB, Or.inl h2⟩
  · have hlt : g' < w.heap.size := (Array.getElem?_eq_some_iff.1 hw).1
    refine ⟨_, _, rfl, hy.mono hB, Or.inr ⟨g', cur.toList, rfl, hb, ?_, by simp; omega, fun e => ?_⟩⟩
    · unfold Blk
      rw [k.block g' hlt, hw]
    · have := (hy.lt g' e).1
      omega
set_option maxHeartbeats 4000000 in
theorem plays_walk {w : World} (ht : Tb w) (N full : Int) (hf0 : -9223372036854775808 ≤ full) (hf1 : full < 9223372036854775808) {ao : Option Addr} {L cap : Nat} (hL : L ≤ maxLen) (hD : Dos w.heap.size w ao L) : Calls Tryd.prog 3 #[.int .i64 N, .int .i64 full, .slice ao L cap] w fun e w' => e = .returned (.bool true) ∧ Below w.heap.size w w' := by
  obtain ⟨er0, S0, hnew⟩ := new_both ht N
  have CN : Hid (Calls _ _ _ _ _) := hnew
  have HD : Hid (Dos w.heap.size w ao L) := hD
  unfold maxLen at hL
  clear ht hD hnew
  go_enter Tryd.func3, Tryd.ntmps3
  go_wp2_with fail
  refine CN.out.mono ?_
  rintro e w1 ⟨q, rfl, hR⟩
  have CR : Hid (Calls _ _ _ _ _) := hR
  clear CN hR
  go_wp2_with fail
  refine CR.out.mono ?_
  rintro e w2 ⟨q', rfl, hqq, hp⟩
  have HP0 : Hid (Pl w w2 (.pointer q) (.pointer q') S0 S0) := hp
  obtain ⟨bq, hbq⟩ : ∃ bq, q'.isNone = bq := ⟨_, rfl⟩
  rw [hbq] at hqq
  have hbb : (!(bq == bq)) = false := by simp
  clear hp CR
  go_wp2
  clear hbb hqq hbq
  go_loopw [11] (fun z wr => ∃ (i : Nat) (S : Option (List Bool)), i ≤ 1030 ∧ z = .int .i64 i ∧ Pl w wr (.pointer q) (.pointer q') S S) (fun z _ => 1030 - (intOf z).toNat)
  case atStart => exact ⟨0, S0, by omega, rfl, HP0.out⟩
  case round =>
    obtain ⟨i, S, hi, rfl, hp⟩ := hrel
    have HP : Hid (Pl w wr (.pointer q) (.pointer q') S S) := hp
    clear hp HP0
    by_cases hlt : (i : Int) < full ∧ i < 1030
    · obtain ⟨hl1, hl2⟩ := hlt
      obtain ⟨S', a, er, htk⟩ := tkO_all S
      have CT : Hid (Calls _ _ _ _ _) := takeP HP.out htk
      have HTK : Hid (TkO S S' a er) := htk
      clear htk
      go_wp2_with fail
      refine CT.out.mono ?_
      rintro e wa ⟨rfl, hp1⟩
      have CR : Hid (Calls _ _ _ _ _) := takeR hp1 HTK.out
      clear hp1 CT HTK
      go_wp2_with fail
      refine CR.out.mono ?_
      rintro e wb ⟨rfl, hp2⟩
      have HP2 : Hid (Pl w wb (.pointer q) (.pointer q') S' S') := hp2
      clear hp2 CR
      go_wp2
      go_roundw
      case rel => exact ⟨i + 1, S', by omega, by go_num, HP2.out⟩
      case measure => simp [intOf]; omega
    · by_cases hl1 : (i : Int) < full
      case' pos => obtain rfl : i = 1030 := by omega
      all_goals
        go_wp2
        go_loopw [16] (fun z wr => ∃ (k : Nat) (S : Option (List Bool)), k ≤ L ∧ k ≤ 200 ∧ z = .int .i64 k ∧ Pl w wr (.pointer q) (.pointer q') S S) (fun z _ => 200 - (intOf z).toNat)
        case atStart => exact ⟨0, S, by omega, by omega, rfl, HP.out⟩
        case round =>
          obtain ⟨k, S1, hk1, hk2, rfl, hp⟩ := hrel
          have HP1 : Hid (Pl w wr (.pointer q) (.pointer q') S1 S1) := hp
          clear hp HP
          by_cases hkk : k < L ∧ k < 200
          · obtain ⟨hkl, hk200⟩ := hkk
            obtain ⟨b, off, gv, x, rfl, hbb, d0, d1, hx0, hx1⟩ := (HD.out.below HP1.out.be) k hkl
            have HC : Hid (∀ W, Below w.heap.size w W → W.cell? ⟨b, off + k * 2 + 1, none⟩ = some (.int .i64 x)) := fun W hb => by
              obtain ⟨b', off', gv', x', e, _, _, d1', _⟩ := (HD.out.below hb) k hkl
              cases e
              obtain ⟨b2, off2, gv2, x2, e2, _, _, d12, _⟩ := HD.out k hkl
              cases e2
              have q1 := (World.cell?_of_block (w := w) (a := ⟨b, off + k * 2 + 1, none⟩) (hb.block b hbb))
              have q2 := (World.cell?_of_block (w := w) (a := ⟨b, off + k * 2 + 1, none⟩) (HP1.out.be.block b hbb))
              rw [q1, ← q2]
              exact d1
            clear hbb
            cases gv
            case' true =>
              obtain ⟨S2, er, hgv⟩ := gvO_all S1 x
              have HG1 : Hid (∀ W, Below wr.heap.size wr W → Calls Tryd.prog 10 #[.pointer q, .int .i64 x] W fun e w' => e = .returned (.int .i64 er) ∧ Pl w w' (.pointer q) (.pointer q') S2 S1 ∧ w'.cell? ⟨b, off + k * 2 + 1, none⟩ = some (.int .i64 x)) := fun W hb => (giveP (HP1.out.below hb) hgv).mono fun e w' ⟨he, hp⟩ => ⟨he, hp, HC.out _ hp.be⟩
              have HG2 : Hid (∀ W, Pl w W (.pointer q) (.pointer q') S2 S1 → Calls Tryd.prog 11 #[.pointer q', .int .i64 x] W fun e w' => e = .returned (.int .i64 er) ∧ Pl w w' (.pointer q) (.pointer q') S2 S2 ∧ w'.cell? ⟨b, off + k * 2 + 1, none⟩ = some (.int .i64 x)) := fun W hp => (giveR hp hgv).mono fun e w' ⟨he, hp⟩ => ⟨he, hp, HC.out _ hp.be⟩
              clear hgv HC HP1
              have hv : (er == er) = true := by simp
              have hd : decide (er = er) = true := by simp
              go_wp2
              go_region_held3 (fun W => W.cell? ⟨b, off + k * 2 + 1, none⟩ = some (.int .i64 x))
                (first | exact d1 | exact HC1.out | exact HC2.out)
                (first
                  | (go_at_call 10; refine (HG1.out _ (by first | exact (Below.refl _ _).drew | exact Below.refl _ _)).mono ?_; rintro e W1 ⟨rfl, hp1, hc1⟩; have HQ1 : Hid (Pl w W1 (.pointer q) (.pointer q') S2 S1) := hp1; have HC1 : Hid (W1.cell? ⟨b, off + k * 2 + 1, none⟩ = some (.int .i64 x)) := hc1; clear hp1 hc1)
                  | (go_at_call 11; refine (HG2.out _ HQ1.out).mono ?_; rintro e wt ⟨rfl, hp2, hc2⟩; have HP2 : Hid (Pl w wt (.pointer q) (.pointer q') S2 S2) := hp2; have HC2 : Hid (wt.cell? ⟨b, off + k * 2 + 1, none⟩ = some (.int .i64 x)) := hc2; clear hp2 hc2))
              clear HG1 HG2 HQ1 HC1 HC2
            case' false =>
              obtain ⟨S2, a, er, htk⟩ := tkO_all S1
              have CT : Hid (Calls _ _ _ _ _) := takeP HP1.out htk
              have HTK : Hid (TkO S1 S2 a er) := htk
              clear htk HC HP1
              have hv : (er == er) = true := by simp
              have hd : decide (er = er) = true := by simp
              go_wp2_with fail
              refine CT.out.mono ?_
              rintro e wa ⟨rfl, hp1⟩
              have CR : Hid (Calls _ _ _ _ _) := takeR hp1 HTK.out
              clear hp1 CT HTK
              go_wp2_with fail
              refine CR.out.mono ?_
              rintro e wt ⟨rfl, hp2⟩
              have HP2 : Hid (Pl w wt (.pointer q) (.pointer q') S2 S2) := hp2
              clear hp2 CR
            all_goals
              have CU1 : Hid (Calls Tryd.prog 12 _ _ _) := usedP HP2.out
              have hle := usO_le HP2.out
              go_wp2_with fail
              refine CU1.out.mono ?_
              rintro e wu ⟨vx, rfl, hix, hbu⟩
              have HPU : Hid (Pl w wu (.pointer q) (.pointer q') S2 S2) := HP2.out.below hbu
              have CU2 : Hid (Calls Tryd.prog 12 _ _ _) := usedP HPU.out
              have HIX : Hid (Is wu wt.heap.size vx (usO S2)) := hix
              have HBU : Hid (Below wt.heap.size wt wu) := hbu
              clear hix hbu CU1
              go_wp2_with fail
              refine CU2.out.mono ?_
              rintro e wv ⟨vy, rfl, hiy, hbv⟩
              obtain ⟨ax, cx, rfl, hwo⟩ := wo_of (B2 := 0) HIX.out hbv hiy HBU.out.size
              have HWO : Hid (Wo wv wt.heap.size ax (usO S2).length vy (usO S2)) := hwo
              have HLX0 : Hid (Lst wv (.slice ax (usO S2).length cx) (usO S2)) := HIX.out.lst.below hbv
              have HBV : Hid (Below wt.heap.size wt wv) := bs HBU.out hbv
              have CF1 : Hid (Calls Tryd.prog 13 _ _ _) := freeP (HP2.out.below HBV.out)
              have HLX1 : Hid (∀ W, Below wv.heap.size wv W → Lst W (.slice ax (usO S2).length cx) (usO S2)) := fun W k => HLX0.out.below k
              clear HLX0 hiy hbv hwo CU2 HBU HIX HPU
              go_wp2_with fail
              refine CF1.out.mono ?_
              rintro e wf ⟨rfl, hbf⟩
              have HBF : Hid (Below wt.heap.size wt wf) := bs HBV.out hbf
              have HWF : Hid (Wo wf wt.heap.size ax (usO S2).length vy (usO S2)) := HWO.out.below hbf
              have HLX2 : Hid (Lst wf (.slice ax (usO S2).length cx) (usO S2)) := HLX1.out wf hbf
              have CF2 : Hid (Calls Tryd.prog 14 _ _ _) := freeR (HP2.out.below HBF.out)
              clear hbf CF1 HBV HWO HLX1
              generalize frO S2 = fr at *
              go_wp2_with fail
              refine CF2.out.mono ?_
              rintro e wg ⟨rfl, hbg⟩
              have HBG : Hid (Below wt.heap.size wt wg) := bs HBF.out hbg
              have HWG : Hid (Wo wg wt.heap.size ax (usO S2).length vy (usO S2)) := HWF.out.below hbg
              have HLX : Hid (Lst wg (.slice ax (usO S2).length cx) (usO S2)) := HLX2.out.below hbg
              have CU3 : Hid (Calls Tryd.prog 16 _ _ _) := usedR (HP2.out.below HBG.out)
              clear hbg CF2 HBF HWF HLX2
              have hfr : (fr == fr) = true := by simp
              have hfd : decide (fr = fr) = true := by simp
              go_wp2_with fail
              refine CU3.out.mono ?_
              rintro e wh ⟨v3, rfl, hi3, hbh⟩
              have HBH : Hid (Below wt.heap.size wt wh) := bs HBG.out hbh
              have HWH : Hid (Wo wh wt.heap.size ax (usO S2).length vy (usO S2)) := HWG.out.below hbh
              have CE1 : Hid (Calls Tryd.prog 15 _ _ _) := EqInts_any (v1 := .slice ax (usO S2).length cx) hle (HLX.out.below hbh) hi3.lst
              clear hbh hi3 CU3 HBG HWG HLX
              have HLL : Hid (usO S2 = usO S2) := rfl
              obtain ⟨Lq, hLq⟩ : ∃ Lq, usO S2 = Lq := ⟨_, rfl⟩
              have HLQ : Hid (usO S2 = Lq) := hLq
              rw [hLq] at HWH CE1 hle
              clear hLq HLL
              obtain ⟨nq, hnq⟩ : ∃ nq, Lq.length = nq := ⟨_, rfl⟩
              have HNQ : Hid (Lq.length = nq) := hnq
              rw [hnq] at HWH CE1 hle
              rw [HLQ.out, HNQ.out]
              clear hnq
              go_wp2_with fail
              refine CE1.out.mono ?_
              rintro e wi ⟨rfl, hbi⟩
              have HBI : Hid (Below wt.heap.size wt wi) := bs HBH.out hbi
              have HWI : Hid (Wo wi wt.heap.size ax nq vy Lq) := HWH.out.below hbi
              clear hbi CE1 HBH HWH hfr hfd
              go_wp2
              go_loopw [23] (fun z wr => ∃ j : Nat, j ≤ nq ∧ z = .int .i64 j ∧ Below wt.heap.size wt wr ∧ Wo wr wt.heap.size ax nq vy Lq) (fun z _ => nq - (intOf z).toNat)
              case atStart => exact ⟨0, by omega, rfl, HBI.out, HWI.out⟩
              case round =>
                obtain ⟨j, hj, rfl, hb, hwo⟩ := hrel
                have HB : Hid (Below wt.heap.size wt wr) := hb
                have HW : Hid (Wo wr wt.heap.size ax nq vy Lq) := hwo
                clear hb hwo HBI HWI
                by_cases hjn : j < nq
                · obtain ⟨gx, u, rfl, hgx, hcx, hfz, hset⟩ := HW.out.at' hjn
                  have HS : Hid (∀ v, Wo (wr.setCell ⟨gx, j, none⟩ v) wt.heap.size (some ⟨gx, 0, none⟩) nq vy Lq) := hset
                  have HBS : Hid (∀ v, Below wt.heap.size wt (wr.setCell ⟨gx, j, none⟩ v)) := fun v => HB.out.trans (below_setCell hgx HB.out.size j v)
                  clear hset hgx
                  go_wp2
                  go_roundw
                  case rel => exact ⟨j + 1, by omega, by go_num, HBS.out _, HS.out _⟩
                  case measure => simp [intOf]; omega
                · obtain rfl : j = nq := by omega
                  have CU4 : Hid (Calls Tryd.prog 16 _ _ _) := usedR (HP2.out.below HB.out)
                  go_wp2_with fail
                  refine CU4.out.mono ?_
                  rintro e wk ⟨v4, rfl, hi4, hbk⟩
                  rw [HLQ.out] at hi4
                  have HBK : Hid (Below wt.heap.size wt wk) := bs HB.out hbk
                  have CE2 : Hid (Calls Tryd.prog 15 _ _ _) := EqInts_any (L := Lq) (by rw [HNQ.out]; exact hle) (HW.out.below hbk).lst hi4.lst
                  clear hbk hi4 CU4 HB HW
                  go_wp2_with fail
                  refine CE2.out.mono ?_
                  rintro e wl ⟨rfl, hbl⟩
                  have HPL : Hid (Pl w wl (.pointer q) (.pointer q') S2 S2) := HP2.out.below (bs HBK.out hbl)
                  clear hbl CE2 HBK HP2
                  go_wp2
                  go_roundw
                  case rel => exact ⟨k + 1, S2, by omega, by omega, by go_num, HPL.out⟩
                  case measure => simp [intOf]; omega
          · have FP : Hid (Pl w wr (.pointer q) (.pointer q') S1 S1) := HP1.out
            by_cases hkl : k < L
            case' pos => obtain rfl : k = 200 := by omega
            case' neg => obtain rfl : k = L := by omega
            all_goals
              have CA : Hid (Calls Tryd.prog 13 _ _ _) := freeP FP.out
              clear HP1
              go_wp2_with fail
              refine CA.out.mono ?_
              rintro e x1 ⟨rfl, hb⟩
              have FP1 : Hid (Pl w x1 (.pointer q) (.pointer q') S1 S1) := FP.out.below hb
              have CB : Hid (Calls Tryd.prog 14 _ _ _) := freeR FP1.out
              clear hb CA FP
              have hle := usO_le FP1.out
              have hfr : (frO S1 == frO S1) = true := by simp
              have hfd : decide (frO S1 = frO S1) = true := by simp
              go_wp2_with fail
              refine CB.out.mono ?_
              rintro e x2 ⟨rfl, hb⟩
              have FP2 : Hid (Pl w x2 (.pointer q) (.pointer q') S1 S1) := FP1.out.below hb
              have CC : Hid (Calls Tryd.prog 12 _ _ _) := usedP FP2.out
              clear hb CB FP1
              go_wp2_with fail
              refine CC.out.mono ?_
              rintro e x3 ⟨v1, rfl, hi, hb⟩
              have FP3 : Hid (Pl w x3 (.pointer q) (.pointer q') S1 S1) := FP2.out.below hb
              have CD : Hid (Calls Tryd.prog 16 _ _ _) := usedR FP3.out
              have HI : Hid (Is x3 x2.heap.size v1 (usO S1)) := hi
              clear hi hb CC FP2
              go_wp2_with fail
              refine CD.out.mono ?_
              rintro e x4 ⟨v2, rfl, hi, hb⟩
              have FP4 : Hid (Pl w x4 (.pointer q) (.pointer q') S1 S1) := FP3.out.below hb
              have CE : Hid (Calls Tryd.prog 15 _ _ _) := EqInts_any hle (HI.out.below hb).lst hi.lst
              clear hi hb CD FP3 HI
              go_wp2_with fail
              refine CE.out.mono ?_
              rintro e x5 ⟨rfl, hb⟩
              have FP5 : Hid (Pl w x5 (.pointer q) (.pointer q') S1 S1) := FP4.out.below hb
              have CF : Hid (Calls Tryd.prog 17 _ _ _) := works_any FP5.out.tb
              clear hb CE FP4
              go_wp2_with fail
              refine CF.out.mono ?_
              rintro e x6 ⟨rfl, hb⟩
              have HBE : Hid (Below w.heap.size w x6) := bs FP5.out.be hb
              clear hb CF FP5
              go_wp2
              go_ret
              exact ⟨rfl, HBE.out⟩
end Go.Proofs.YtncelpphbhcogaaDoor.Z
