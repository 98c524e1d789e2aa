/- RingPlays, for every input; no condition but the list's reading. -/
import Derived.Test.YtimeoinmepfpnaaTb
namespace Go.Proofs.Ytimeoinmepfpnaa.Ri
open Go.ChangeShapes Go.WideShapes Go.ChangeAt Go.RowKit
set_option linter.unusedVariables false
set_option maxRecDepth 8192

theorem tv_set (l : List Int) (i : Nat) (x : Int) : (tv l).set i (.int .i64 x) = tv (l.set i x) := by simp [tv, List.map_set]
theorem Own.set {w : World} {g cap i : Nat} {l : List Int} (h : Own w (.slice (some ⟨g, 0, none⟩) l.length cap) l) (hi : i < l.length) (x : Int) : Own (w.setCell ⟨g, i, none⟩ (.int .i64 x)) (.slice (some ⟨g, 0, none⟩) l.length cap) (l.set i x) := by
  rcases h.shape with ⟨e, _⟩ | ⟨g', cap', Lv, h1, h2, h3, h4, h5, h6⟩
  · cases e
  · cases h1
    have hl : (l.set i x).length = l.length := List.length_set
    have := Own.of_blk (l := l.set i x) (cap := cap) (h2.set i (.int .i64 x)) (by rw [hl]; exact h3) h4 (by rw [List.length_set]; exact h5) (by
      rw [hl, List.take_set, h6, tv_set])
    rw [hl] at this
    exact this
theorem Wn.keep {F : Nat → Prop} {B0 : Nat} {w w' : World} {p g s : Nat} {v : Value} {L : List Int} (h : Wn B0 w p g s v L) (k : Ch F w w') (hp : ¬ F p) (hg : ¬ F g) (hs : ∀ i, Sv s v i → ¬ F i) : Wn B0 w' p g s v L := ⟨h.rx.ch k hp hg, h.rr.ch k hs, h.ap, h.bp, h.bg, h.bv⟩
set_option maxHeartbeats 4000000 in
theorem plays_ok {W0 : World} {n : Int} {ao : Option Addr} {len cap : Nat} (hn0 : -9223372036854775808 ≤ n) (hn1 : n < 9223372036854775808) (hd : Dos W0.heap.size W0 ao len) (hl : len ≤ maxLen) :
    Calls Try.prog 3 #[.int .i64 n, .slice ao len cap] W0 fun e w' => e = .returned (.bool true) ∧ Below W0.heap.size W0 w' := by
  unfold maxLen at hl
  have HD : Hid (Dos W0.heap.size W0 ao len) := hd
  have N1 := New_ok W0
  clear hd
  go_enter Try.func3, Try.ntmps3
  go_wp2_with fail
  refine N1.mono ?_
  rintro e w1 ⟨rfl, q1, b1⟩
  have N2 := rNew_ok w1
  have H1 : Hid (Rn w1 (W0.heap.size + 1) W0.heap.size [] 0 ∧ Below W0.heap.size W0 w1) := ⟨q1, b1⟩
  clear N1 q1 b1
  go_wp2_with fail
  refine N2.mono ?_
  rintro e w2 ⟨rfl, q2, b2⟩
  have H2 : Hid (Below W0.heap.size W0 w2 ∧ Wn W0.heap.size w2 (W0.heap.size + 1) W0.heap.size w1.heap.size (.slice none 0 0) []) := by
    have hpl := H1.out.1.pl
    have hgl := H1.out.1.gl
    refine ⟨bs H1.out.2 b2, ⟨⟨[], 0, H1.out.1.below b2, rfl⟩, q2, fun i hi => ?_, by omega, Nat.le_refl _, fun i hi => ?_⟩⟩
    · rcases hi with rfl | hi
      · omega
      · cases hi
    · rcases hi with rfl | hi
      · exact H1.out.2.size
      · cases hi
  obtain ⟨p, hp⟩ : ∃ p, p = W0.heap.size + 1 := ⟨_, rfl⟩
  obtain ⟨s, hs⟩ : ∃ s, s = w1.heap.size := ⟨_, rfl⟩
  rw [← hp, ← hs] at H2
  rw [← hp, ← hs]
  clear hp hs N2 q2 b2 H1
  go_wp2_with fail
  go_loopw [7] (fun ti wr => ∃ (k g : Nat) (v : Value) (L : List Int), ti = .int .i64 (k : Nat) ∧ k ≤ 40 ∧ Below W0.heap.size W0 wr ∧ Wn W0.heap.size wr p g s v L) (fun ti _ => 40 - (intOf ti).toNat)
  case atStart => exact ⟨0, _, _, _, rfl, by omega, H2.out⟩
  case round =>
    clear H2
    obtain ⟨k, g, v, L, rfl, hk, hb, hw⟩ := hrel
    have HW : Hid (Below W0.heap.size W0 wr ∧ Wn W0.heap.size wr p g s v L) := ⟨hb, hw⟩
    clear hb hw
    by_cases hkn : (k : Int) < n ∧ k < 40
    · obtain ⟨hk1, hk2⟩ := hkn
      have A1 : Hid (Calls _ _ _ _ _) := Add_ok HW.out.2.rx (2 * (k : Int)) (by omega)
      have A2 : Hid (∀ w1 L1 er, AdS L (2 * (k : Int)) L1 er → Tn wr p g L1 w1 → Calls Try.prog 11 #[.pointer (some ⟨s, 0, none⟩), .int .i64 (2 * (k : Int))] w1 fun e w2 => e = .returned (.int .i64 er) ∧ ∃ g' v', Wn W0.heap.size w2 p g' s v' L1 ∧ Below W0.heap.size wr w2) := fun w1 L1 er ha ht => (rAdd_ok (HW.out.2.mid ht) (2 * (k : Int)) (by omega)).mono fun e w2 ⟨L2, e2, a, b, c⟩ => by
        obtain ⟨rfl, rfl⟩ := ha.uniq b
        obtain ⟨g', v', q1, q2⟩ := HW.out.2.both ht (Below.refl _ _) c
        exact ⟨a, g', v', q1, HW.out.2.ch_to q2⟩
      go_wp2_with fail
      refine A1.out.mono ?_
      rintro e w3 ⟨L1, er, rfl, ha, ht⟩
      have A3 : Hid (Calls _ _ _ _ _) := A2.out w3 L1 er ha ht
      clear A1 A2 ha ht
      go_wp2_with fail
      refine A3.out.mono ?_
      rintro e w4 ⟨rfl, g', v', q1, q2⟩
      have H4 : Hid (Below W0.heap.size W0 w4 ∧ Wn W0.heap.size w4 p g' s v' L1) := ⟨HW.out.1.trans q2, q1⟩
      clear A3 q1 q2
      go_wp2
      go_roundw
      case rel => exact ⟨k + 1, g', v', L1, by go_num, by omega, H4.out⟩
      case measure => simp [intOf]; omega
    · have cs : ¬ (k : Int) < n ∨ ((k : Int) < n ∧ ¬ k < 40) := by omega
      clear hkn
      rename_i wr0
      rcases cs with c1 | ⟨c1, c2⟩
      all_goals (
        go_wp2_with fail
        go_loopw [8] (fun ti wr => ∃ (j g : Nat) (v : Value) (L : List Int), ti = .int .i64 (j : Nat) ∧ j ≤ len ∧ j ≤ 150 ∧ Below W0.heap.size W0 wr ∧ Wn W0.heap.size wr p g s v L) (fun ti _ => 150 - (intOf ti).toNat)
        case atStart => exact ⟨0, _, _, _, rfl, by omega, by omega, HW.out⟩
        case round =>
          clear HW
          obtain ⟨j, g2, v2, L2, rfl, hjl, hj, hb, hw⟩ := hrel
          have HW : Hid (Below W0.heap.size W0 wr ∧ Wn W0.heap.size wr p g2 s v2 L2) := ⟨hb, hw⟩
          clear hb hw
          by_cases hjn : j < len
          · by_cases hj2 : j < 150
            · obtain ⟨bb, off, y, rfl, hbb, d0, d1, d2, d3, dk⟩ := (HD.out.below HW.out.1) j hjn
              have CD : Hid (Calls _ _ _ _ _) := done_ok HW.out.2 y dk
              clear dk
              go_wp2_with fail
              refine CD.out.mono ?_
              rintro e w3 ⟨rfl, g3, v3, L3, q1, q2⟩
              have H3 : Hid (Below W0.heap.size W0 w3 ∧ Wn W0.heap.size w3 p g3 s v3 L3) := ⟨HW.out.1.trans q2, q1⟩
              have CL : Hid (Calls _ _ _ _ _) := List_ok q1.rx
              clear CD q1 q2 d0 d1 d2 d3 HW
              go_wp2_with fail
              refine CL.out.mono ?_
              rintro e w4 ⟨va, rfl, na⟩
              have CM : Hid (Calls _ _ _ _ _) := List_ok (H3.out.2.rx.below na.2.1)
              have HA : Hid (Nw w3 va L3 w4) := na
              clear CL na
              go_wp2_with fail
              refine CM.out.mono ?_
              rintro e w5 ⟨vb, rfl, nb⟩
              have HB : Hid (Nw w4 vb L3 w5) := nb
              have CR : Hid (Calls _ _ _ _ _) := rList_ok ((H3.out.2.rr.below HA.out.2.1).below nb.2.1)
              clear CM nb
              go_wp2_with fail
              refine CR.out.mono ?_
              rintro e w6 ⟨vc, rfl, nc⟩
              have HC : Hid (Nw w5 vc L3 w6) := nc
              have hl3 := H3.out.2.rx.ok.le
              have CE : Hid (Calls _ _ _ _ _) := EqInts_any (by omega) ((HA.out.1.below HB.out.2.1).below nc.2.1).lst nc.1.lst
              clear CR nc
              go_wp2_with fail
              refine CE.out.mono ?_
              rintro e w7 ⟨rfl, b7⟩
              have n1 : w3.heap.size ≤ w4.heap.size := HA.out.2.1.size
              have HE : Hid (Below W0.heap.size W0 w7 ∧ Wn W0.heap.size w7 p g3 s v3 L3 ∧ Own w7 va L3 ∧ Own w7 vb L3 ∧ (∀ z, va.ownBlock = some z → w3.heap.size ≤ z) ∧ (∀ z, va.ownBlock = some z → vb.ownBlock ≠ some z)) := by
                have e1 := HB.out.2.1
                have e2 := HC.out.2.1
                have bel : Below w3.heap.size w3 w7 := bs (bs (bs HA.out.2.1 e1) e2) b7
                refine ⟨H3.out.1.trans (bel.mono H3.out.1.size), H3.out.2.below bel, ((HA.out.1.below e1).below e2).below b7, (HB.out.1.below e2).below b7, HA.out.2.2, fun z hz q => ?_⟩
                have := HA.out.1.lt z hz
                have := HB.out.2.2 z q
                omega
              obtain ⟨qa, ca, hva, _⟩ := HA.out.1.lst
              subst hva
              have hl3 := H3.out.2.rx.ok.le
              have hgp : p < w3.heap.size ∧ g3 < w3.heap.size := ⟨H3.out.2.rx.pl, H3.out.2.rx.gl⟩
              have HSV : Hid (∀ i, Sv s v3 i → i < w3.heap.size) := H3.out.2.rr.lt
              clear CE b7 HA HB HC H3
              have HLM : Hid (L3.length ≤ 4096) := hl3
              have hl5 : L3.length ≤ 5000 := by omega
              clear hl3
              generalize hm : L3.length = m at *
              go_wp2_with fail
              rename_i wr1
              go_loopw [11] (fun ti wr => ∃ (q : Nat) (l' : List Int), ti = .int .i64 (q : Nat) ∧ q ≤ m ∧ l'.length = m ∧ Own wr (.slice qa m ca) l' ∧ Ch (fun i => (Value.slice qa m ca).ownBlock = some i) w7 wr) (fun ti _ => m - (intOf ti).toNat)
              case atStart => exact ⟨0, L3, rfl, by omega, hm, HE.out.2.2.1, Ch.refl _ _⟩
              case round =>
                obtain ⟨q, l', rfl, hq, hl', ho, hc⟩ := hrel
                have HI : Hid (Own wr (.slice qa m ca) l' ∧ Ch (fun i => (Value.slice qa m ca).ownBlock = some i) w7 wr) := ⟨ho, hc⟩
                by_cases hqm : q < m
                · obtain ⟨ga, c9, Lv, e9, hB9, _⟩ := ho.shape.resolve_left (fun z => by have := z.2; rw [this] at hl'; simp at hl'; omega)
                  injection e9 with e9a e9b e9c
                  subst e9a
                  clear e9b e9c
                  have hcell : wr.cell? ⟨ga, q, none⟩ = some (.int .i64 (l'.getD q 0)) := by
                    have ho2 := ho
                    rw [← hl'] at ho2
                    exact ho2.cells (by rw [List.getD_eq_getElem?_getD, List.getElem?_eq_getElem (by omega)]; rfl)
                  have hfz : wr.frozen? ⟨ga, q, none⟩ = false := hB9.frozen q
                  have HS : Hid (Own (wr.setCell ⟨ga, q, none⟩ (.int .i64 (-1))) (.slice (some ⟨ga, 0, none⟩) m ca) (l'.set q (-1)) ∧ Ch (fun i => (Value.slice (some ⟨ga, 0, none⟩) m ca).ownBlock = some i) w7 (wr.setCell ⟨ga, q, none⟩ (.int .i64 (-1)))) := by
                    refine ⟨?_, hc.same (Ch.grown (grown_setCell' wr ga q _) (fun z hz => hz))⟩
                    have ho2 := ho
                    rw [← hl'] at ho2
                    have := ho2.set (i := q) (by omega) (-1)
                    rw [hl'] at this
                    exact this
                  clear ho hc hB9 HI
                  generalize l'.getD q 0 = c0 at *
                  go_wp2
                  go_roundw
                  case rel => exact ⟨q + 1, _, by go_num, by omega, by rw [List.length_set]; exact hl', HS.out.1, HS.out.2⟩
                  case measure => simp [intOf]; omega
                · obtain rfl : q = m := by omega
                  have HF : Hid (Below W0.heap.size W0 wr ∧ Wn W0.heap.size wr p g3 s v3 L3 ∧ Own wr vb L3) := by
                    have hva := HE.out.2.2.2.2.1
                    refine ⟨HE.out.1.trans (hc.to HE.out.1.size (fun i z => by have := hva i z; have := HE.out.2.1.b0; have := HE.out.2.1.bp; omega)), HE.out.2.1.keep hc (fun z => by have := hva _ z; omega) (fun z => by have := hva _ z; omega) (fun i hi z => by have := hva _ z; have := HSV.out i hi; omega), HE.out.2.2.2.1.ch hc (fun z hz y => HE.out.2.2.2.2.2 z y hz)⟩
                  have CR : Hid (Calls _ _ _ _ _) := rList_ok HF.out.2.1.rr
                  clear ho hc HI HE
                  go_wp2_with fail
                  refine CR.out.mono ?_
                  rintro e w8 ⟨vd, rfl, nd⟩
                  have CE : Hid (Calls _ _ _ _ _) := EqInts_any (by have := HLM.out; omega) (HF.out.2.2.below nd.2.1).lst nd.1.lst
                  have HG : Hid (Below W0.heap.size W0 w8 ∧ Wn W0.heap.size w8 p g3 s v3 L3) := ⟨HF.out.1.trans (nd.2.1.mono HF.out.1.size), HF.out.2.1.below nd.2.1⟩
                  clear CR nd HF
                  go_wp2_with fail
                  refine CE.out.mono ?_
                  rintro e w9 ⟨rfl, b9⟩
                  have HK : Hid (Below W0.heap.size W0 w9 ∧ Wn W0.heap.size w9 p g3 s v3 L3) := ⟨HG.out.1.trans (b9.mono HG.out.1.size), HG.out.2.below b9⟩
                  clear CE b9 HG
                  go_wp2
                  go_roundw
                  case rel => exact ⟨j + 1, g3, v3, L3, by go_num, by omega, by omega, HK.out⟩
                  case measure => simp [intOf]; omega
            · have CW := works_ok wr
              clear HD
              go_wp2_with fail
              refine CW.mono ?_
              rintro e w3 ⟨rfl, b3⟩
              have HZ : Hid (Below W0.heap.size W0 w3) := HW.out.1.trans (b3.mono HW.out.1.size)
              clear CW b3 HW
              go_wp2
              go_ret
              exact ⟨rfl, HZ.out⟩
          · have CW := works_ok wr
            clear HD
            go_wp2_with fail
            refine CW.mono ?_
            rintro e w3 ⟨rfl, b3⟩
            have HZ : Hid (Below W0.heap.size W0 w3) := HW.out.1.trans (b3.mono HW.out.1.size)
            clear CW b3 HW
            go_wp2
            go_ret
            exact ⟨rfl, HZ.out⟩)
end Go.Proofs.Ytimeoinmepfpnaa.Ri
