/- The reference's cache: what its Touch and Lines give back and write. -/
import Derived.Test.YtpedgpaebdoafaaRf
namespace Go.Proofs.Ytpedgpaebdoafaa
open Go.ChangeShapes Go.WideShapes Go.ChangeAt Go.RowKit
set_option linter.unusedVariables false

theorem tch_step (ways : Nat) (t x : Int) (l : List Int) (h1 : 1 ≤ ways) : tch ways t (l ++ [x]) = if x ≠ t ∧ (tch ways t l).length < ways then tch ways t l ++ [x] else tch ways t l := by
  unfold tch
  by_cases e : x = t
  · subst e
    rw [if_neg (by simp)]
    simp
  · have e1 : (l ++ [x]).filter (fun y => y != t) = l.filter (fun y => y != t) ++ [x] := by simp [e]
    rw [e1, ← List.cons_append]
    generalize t :: l.filter (fun y => y != t) = A
    by_cases q : A.length < ways
    · rw [if_pos ⟨e, by rw [List.length_take]; omega⟩, List.take_of_length_le (by simp; omega), List.take_of_length_le (by omega)]
    · rw [if_neg (fun z => by have := z.2; rw [List.length_take] at this; omega), List.take_append_of_le_length (by omega)]
theorem tch_pos (ways : Nat) (t : Int) (l : List Int) (h1 : 1 ≤ ways) : 1 ≤ (tch ways t l).length := by
  unfold tch
  simp
  omega
theorem grown_of_below {w w' : World} (h : Below w.heap.size w w') (row : Option Nat) : w.grownBy w' row := ⟨h.os, h.tape, h.output, h.size, fun k hk _ => h.block k hk⟩
set_option maxHeartbeats 2000000 in
theorem rTouch_ok {w : World} {F : Nat → Prop} {p n ways : Nat} {f : Nat → List Int} (h : Ca w F p n ways f) (i : Nat) (hi : i < n) (t : Int) (h0 : 0 ≤ t) (h1 : t < 18446744073709551616) :
    Calls Try.prog 24 #[.pointer (some ⟨p, 0, none⟩), .int .i64 i, .int .u64 t] w fun e w' => e = .returned (.bool (decide (t ∈ f i))) ∧ Tch w F p n ways f i t w' := by
  obtain ⟨i0, hi0, hz0, hz1, hz2⟩ := info_parts Try.infoU
  obtain ⟨b, V, hP⟩ := h.parts
  have h16 := hP.c.w16
  have hw1 := hP.c.w1
  have hn4 := hP.c.n4
  have hl := hP.c.len i hi
  obtain ⟨a0, cap0, hv⟩ := (hP.c.own i hi).len
  have HP : Hid (Pt w F p b n ways V f) := hP
  have HC : Hid (Calls _ _ _ _ _) := rHas_c hP.c i hi t
  have hblt := hP.c.blt
  clear hP h
  obtain ⟨m, hm⟩ : ∃ m, (f i).length = m := ⟨_, rfl⟩
  have HM : Hid ((f i).length = m) := hm
  rw [hm] at hv hl
  have HV : Hid (V i = .slice a0 m cap0) := hv
  clear hm hv
  generalize decide (t ∈ f i) = bb at *
  have HT0 : Hid (tch ways t ((f i).take 0) = [t]) := by
    unfold Hid tch
    obtain ⟨k, rfl⟩ : ∃ k, ways = k + 1 := ⟨ways - 1, by omega⟩
    simp
  have HS : Hid (∀ k x, (f i)[k]? = some x → tch ways t ((f i).take (k + 1)) = if x ≠ t ∧ (tch ways t ((f i).take k)).length < ways then tch ways t ((f i).take k) ++ [x] else tch ways t ((f i).take k)) := by
    intro k x hx
    rw [show (f i).take (k + 1) = (f i).take k ++ [x] by rw [List.take_add_one, hx]; rfl]
    exact tch_step ways t x _ hw1
  have HE : Hid (tch ways t ((f i).take m) = tch ways t (f i)) := by unfold Hid; rw [List.take_of_length_le (by rw [HM.out]; exact Nat.le_refl _)]
  go_enter Try.func24, Try.ntmps24
  go_wp2_with fail
  refine HC.out.mono ?_
  rintro e w' ⟨rfl, rfl⟩
  clear HC
  go_wp2_with fail
  go_loopw [8, 9] (fun v i' wr => ∃ k : Nat, k ≤ m ∧ i' = .int .i64 k ∧ wr.ownsRow w'.heap.size 32 1 v (tch ways t ((f i).take k)).length (tv (tch ways t ((f i).take k))) ∧ Below w'.heap.size w' wr) (fun _ i' _ => m - (intOf i').toNat)
  case atStart =>
    refine ⟨0, by omega, rfl, ?_, (Below.refl _ _).alloc (Nat.le_refl _) _⟩
    rw [HT0.out]
    exact ⟨rfl, Or.inr ⟨w'.heap.size, 1, #[.int .u64 t], rfl, Nat.le_refl _, heap_alloc_last w' _, Nat.le_refl _, by unfold maxLen; omega, rfl, rfl⟩⟩
  case round =>
    obtain ⟨k, hk, rfl, o, hb⟩ := hrel
    have HO : Hid (wr.ownsRow w'.heap.size 32 1 u8 (tch ways t ((f i).take k)).length (tv (tch ways t ((f i).take k)))) := o
    have HB : Hid (Below w'.heap.size w' wr) := hb
    have hsz := hb.size
    have HMr : Hid (Cch wr p b n ways V f) := HP.out.c.below hb
    have c0 := HMr.out.c0
    have c1 := HMr.out.c1
    have c2 := HMr.out.row i hi
    rw [HV.out] at c2
    obtain ⟨a8, cap8, hu8⟩ := owns_len o
    clear o hb
    by_cases hlt : k < m
    · have hg : (f i)[k]? = some ((f i)[k]'(by rw [HM.out]; exact hlt)) := List.getElem?_eq_getElem _
      generalize (f i)[k]'(by rw [HM.out]; exact hlt) = x at hg
      have HST : Hid _ := HS.out k x hg
      obtain ⟨g1, cp1, e1, d1⟩ := (HMr.out.own i hi).cell hg
      rw [HV.out, HM.out] at e1
      cases e1
      clear hg
      have hlen := tch_len ways t ((f i).take k)
      obtain ⟨A, hA⟩ : ∃ A, tch ways t ((f i).take k) = A := ⟨_, rfl⟩
      rw [hA] at HO HST hlen hu8
      subst hu8
      clear hA
      by_cases ex : x = t
      · subst ex
        rw [if_neg (by simp)] at HST
        go_wp2_with fail
        go_roundw
        case rel => exact ⟨k + 1, by omega, by go_num, by rw [HST.out]; exact HO.out, HB.out⟩
        case measure => simp [intOf]; omega
      · by_cases hw : A.length < ways
        · rw [if_pos ⟨ex, hw⟩] at HST
          go_wp2_with (at_builtin; refine wpList_append_own _ rfl (.tmp 49) (.tmp 60) 37 rfl w'.heap.size 32 i0 _ 1 8 Try.underlying37 hi0 hz0 hz1 hz2 rfl (by decide) (.slice a8 A.length cap8) A.length (tv A) rfl (World.ownsRow.alloc HO.out _) ⟨wr.heap.size, 0, none⟩ 1 1 [.int .u64 x] rfl rfl (cell_one_new _ _ _) (by intro u hu; simp at hu; subst hu; rfl) (by unfold maxLen; omega) (by omega) (by simp; omega) ?_; intro v2 w2 o2 gr2 nil2)
          go_roundw
          case rel =>
            refine ⟨k + 1, by omega, by go_num, ?_, (HB.out.alloc hsz _).grown gr2 (by simp; omega) (fun k hk => (HO.out.lt k hk).1)⟩
            rw [HST.out, show (A ++ [x]).length = A.length + 1 by simp, show tv (A ++ [x]) = tv A ++ [.int .u64 x] by simp [tv]]
            exact o2
          case measure => simp [intOf]; omega
        · rw [if_neg (fun z => hw z.2)] at HST
          go_wp2_with fail
          go_roundw
          case rel => exact ⟨k + 1, by omega, by go_num, by rw [HST.out]; exact HO.out, HB.out⟩
          case measure => simp [intOf]; omega
    · obtain rfl : k = m := by omega
      have d2 := HMr.out.fz i hi
      rw [HE.out] at HO hu8
      have HX : Hid (Tch w' F p n ways f i t (wr.setCell ⟨b, i, none⟩ u8)) := by
        have hpos := tch_pos ways t (f i) hw1
        rcases HO.out.2 with ⟨_, q⟩ | ⟨g, cap, cur, q1, q2, q3, q4, q5, q6, q7⟩
        · omega
        · have eb : g ≠ b := by omega
          subst q1
          refine HP.out.turn_new i hi (tch ways t (f i)) g _ cap (grown_of_below HB.out _) (Or.inr q2) (World.grownBy.refl _ _) ?_ (tch_len _ _ _) (tch_nodup _ _ (HP.out.c.nod i hi)) (tch_ok _ (HP.out.c.ok i hi) h0 h1)
          have := owns_weak HO.out (Nat.zero_le _)
          exact Own.of_eq this (fun g' hg' => by cases hg'; exact (grown_setCell' _ _ _ _).block g (Array.getElem?_eq_some_iff.1 q3).1 (some_ne eb))
      subst hu8
      clear HO HMr HB
      generalize (tch ways t (f i)).length = N at *
      go_wp2
      go_ret
      exact ⟨rfl, HX.out⟩
set_option maxHeartbeats 2000000 in
theorem rLines_ok {w : World} {F : Nat → Prop} {p n ways : Nat} {f : Nat → List Int} (h : Ca w F p n ways f) :
    Calls Try.prog 26 #[.pointer (some ⟨p, 0, none⟩)] w fun e w' => ∃ v, e = .returned v ∧ Lns w.heap.size w' v (lns f n) ∧ Below w.heap.size w w' := by
  obtain ⟨i0, hi0, hz0, hz1, hz2⟩ := info_parts Try.infoL
  obtain ⟨b, V, hP⟩ := h.parts
  have h4 := hP.c.n4
  have HM : Hid (Cch w p b n ways V f) := hP.c
  clear hP h
  go_enter Try.func26, Try.ntmps26
  go_wp2_with fail
  go_loopw [3, 4] (fun v i wr => ∃ k : Nat, k ≤ n ∧ i = .int .i64 k ∧ Lns w.heap.size wr v (lns f k) ∧ Below w.heap.size w wr) (fun _ i _ => n - (intOf i).toNat)
  case atStart => exact ⟨0, by omega, rfl, Lns.nil _ _, Below.refl _ _⟩
  case round =>
    obtain ⟨k, hk, rfl, o, hb⟩ := hrel
    have HO : Hid (Lns w.heap.size wr u3 (lns f k)) := o
    have HB : Hid (Below w.heap.size w wr) := hb
    have hsz := hb.size
    have hd := (HM.out.below hb).c1
    clear o hb
    by_cases hlt : k < n
    · obtain ⟨a, cap, hv⟩ := (HM.out.own k hlt).len
      have HV : Hid (V k = .slice a (f k).length cap) := hv
      clear hv
      have hm := HM.out.len k hlt
      have hm2 := HM.out.w16
      have hcn := HM.out.cnt (k + 1) (by omega)
      rw [show cnt f (k + 1) = (lns f k).length + (f k).length by rw [lns_len]; rfl] at hcn
      obtain ⟨m, hmm⟩ : ∃ m, (f k).length = m := ⟨_, rfl⟩
      have HMM : Hid ((f k).length = m) := hmm
      rw [hmm] at hm hcn HV
      clear hmm
      go_wp2_with fail
      clear hd
      go_loopw [3, 5] (fun v i wr => ∃ j : Nat, j ≤ m ∧ i = .int .i64 j ∧ Lns w.heap.size wr v (lns f k ++ ((f k).take j).map (fun t => (k, t))) ∧ Below w.heap.size w wr) (fun _ i _ => m - (intOf i).toNat)
      case atStart => exact ⟨0, by omega, rfl, by simpa using HO.out, HB.out⟩
      case round =>
        clear HO HB hsz
        obtain ⟨j, hj, rfl, o, hb⟩ := hrel
        have HO : Hid (Lns w.heap.size wr u3 _) := o
        have HB : Hid (Below w.heap.size w wr) := hb
        have hsz := hb.size
        have hd := (HM.out.below hb).c1
        have hr := (HM.out.below hb).row k hlt
        rw [HV.out] at hr
        clear o hb
        by_cases hjl : j < m
        · have hg : (f k)[j]? = some ((f k)[j]'(by rw [HMM.out]; exact hjl)) := List.getElem?_eq_getElem _
          generalize (f k)[j]'(by rw [HMM.out]; exact hjl) = t at *
          have HG : Hid ((f k)[j]? = some t) := hg
          obtain ⟨g, cap', e1, hcell⟩ := ((HM.out.below HB.out).own k hlt).cell hg
          clear hg
          rw [HV.out, HMM.out] at e1
          cases e1
          have hlen : (lns f k ++ ((f k).take j).map (fun t => (k, t))).length + 1 ≤ 65536 := by simp; rw [HMM.out]; omega
          have HS : Hid ((f k).take (j + 1) = (f k).take j ++ [t]) := by unfold Hid; rw [List.take_add_one, HG.out]; rfl
          obtain ⟨A, hA⟩ : ∃ A, lns f k ++ ((f k).take j).map (fun t => (k, t)) = A := ⟨_, rfl⟩
          have HA : Hid (lns f k ++ ((f k).take j).map (fun t => (k, t)) = A) := hA
          rw [hA] at HO hlen
          clear hA
          have HOr : Hid (wr.ownsRow w.heap.size 56 2 u3 A.length (lv A)) := HO.out
          go_wp2_with (at_builtin; refine wpList_append_own _ rfl (.tmp 27) (.tmp 40) 50 rfl w.heap.size 56 i0 _ 2 16 Try.underlying50 hi0 hz0 hz1 hz2 rfl (by decide) u3 A.length _ rfl (World.ownsRow.alloc HOr.out _) ⟨wr.heap.size, 0, none⟩ 1 1 [.int .i64 k, .int .u64 t] rfl rfl (cell_two_new _ _ _ _) (by intro u hu; simp at hu; rcases hu with rfl | rfl <;> rfl) (by unfold maxLen; omega) (by omega) (by simp; omega) ?_; intro v2 w2 o2 gr2 nil2)
          go_roundw
          case rel =>
            refine ⟨j + 1, by omega, by go_num, ?_, (HB.out.alloc hsz _).grown gr2 (by simp; omega) (fun k hk => (HOr.out.lt k hk).1)⟩
            rw [HS.out, List.map_append, ← List.append_assoc, HA.out]
            exact Lns.add rfl o2
          case measure => simp [intOf]; omega
        · obtain rfl : j = m := by omega
          have HO2 : Hid (Lns w.heap.size wr u3 (lns f (k + 1))) := by
            have e := HO.out
            rw [List.take_of_length_le (by rw [HMM.out]; exact Nat.le_refl _)] at e
            exact e
          clear HO
          go_wp2
          go_roundw
          case rel => exact ⟨k + 1, by omega, by go_num, HO2.out, HB.out⟩
          case measure => simp [intOf]; omega
    · obtain rfl : k = n := by omega
      go_wp2
      go_ret
      exact ⟨_, rfl, HO.out, HB.out⟩
end Go.Proofs.Ytpedgpaebdoafaa
