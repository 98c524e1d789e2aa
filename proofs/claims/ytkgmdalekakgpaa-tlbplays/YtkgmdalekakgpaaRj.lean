/- The reference's TLB: Mark, Fill, DropAll, Empty, All. -/
import Derived.Test.YtkgmdalekakgpaaRi
import Derived.Deep.QuietTactic
namespace Go.Proofs.Ytkgmdalekakgpaa
open Go.ChangeShapes Go.WideShapes Go.ChangeAt Go.RowKit
set_option linter.unusedVariables false
set_option linter.unusedSimpArgs false

theorem wo_neg (l : List Tr) : wo (-1) l = l := by unfold wo; rw [if_pos (by omega)]
theorem Own.marked {B : Nat} {w : World} {v : Value} {l : List Tr} (h : Own B w v l) (hu : Uq l) {a g : Int} {k : Nat} {x : Tr} (hx : Ix a g l k x) :
    ∃ gr cap, v = .slice (some ⟨gr, 0, none⟩) l.length cap ∧ w.cell? ⟨gr, k * 6 + 5, none⟩ = some (.bool x.d) ∧ w.frozen? ⟨gr, k * 6 + 5, none⟩ = false ∧ B ≤ gr ∧ gr < w.heap.size ∧ l.length ≤ cap ∧ cap ≤ maxLen ∧ Own B (w.setCell ⟨gr, k * 6 + 5, none⟩ (.bool true)) v (mrk a g l) := by
  obtain ⟨gr, cap, e1, h6, hfz, hgl, hc1, hc2⟩ := h.cell hx.at'
  subst e1
  obtain ⟨gr', cap', L, e3, hBg, hB, _, hm, hL, hT⟩ := h.shape.resolve_left (by rintro ⟨e, _⟩; cases e)
  cases e3
  refine ⟨gr, cap, rfl, h6.c5, hfz _, hBg, hgl, hc1, hc2, ?_⟩
  have el := mrk_len a g l
  have ho := Own.of_blk (B := B) (l := mrk a g l) hBg (hB.set (k * 6 + 5) (.bool true)) (by rw [el]; exact hc1) hm (by simpa using hL) (by
    rw [el, List.take_set, hT, mrk_list hu hx.at' hx.is])
  rw [el] at ho
  exact ho
set_option maxHeartbeats 2000000 in
theorem RMark_hit {w : World} {F : Nat → Prop} {p n : Nat} {l : List Tr} (h : Ca w F p n l) (a g : Int) (ha : okA a = true) (hg : okP g = true) {k : Nat} {x : Tr} (hx : Ix a g l k x) :
    Calls Try.prog 32 #[.pointer (some ⟨p, 0, none⟩), .int .i64 a, .int .i64 g] w fun e w' => e = .returned (.tuple #[.bool true, .int .i64 0]) ∧ Lv w F p n (mrk a g l) w' := by
  obtain ⟨v, hP⟩ := h
  have HP : Hid (Pt w F p n v l) := hP
  have hl := hP.c.len
  have hn := hP.c.n64
  have hplt := hP.c.lt
  have HX : Hid (Ix a g l k x) := hx
  have hkl : k < l.length := (List.getElem?_eq_some_iff.1 hx.at').1
  have CS : Hid (Calls _ _ _ _ _) := RPeek_hit HP.out.ca a g ha hg hx
  clear hP ha hg hx
  go_enter Try.func32, Try.ntmps32
  go_wp2_with fail
  refine CS.out.mono ?_
  rintro e w1 ⟨rfl, hb⟩
  have T1 : Hid (Pt w1 F p n v l) := HP.out.below hb
  have B1 : Hid (Below w.heap.size w w1) := hb
  have hsz := hb.size
  clear hb CS HP
  go_wp2_with fail
  have T2 : Hid (Pt (w1.alloc (.cells #[.int .i64 x.a, .int .i64 x.p, .int .i64 x.f, .bool x.r, .bool x.w, .bool x.d] 32)) F p n v l) := T1.out.below (below_new _ _)
  have B2 : Hid (Below w.heap.size w (w1.alloc (.cells #[.int .i64 x.a, .int .i64 x.p, .int .i64 x.f, .bool x.r, .bool x.w, .bool x.d] 32))) := B1.out.alloc (by omega) _
  generalize hw2 : w1.alloc (.cells #[.int .i64 x.a, .int .i64 x.p, .int .i64 x.f, .bool x.r, .bool x.w, .bool x.d] 32) = w2 at *
  clear hw2
  refine (at_told T2.out.c HX.out).mono ?_
  rintro e w' ⟨rfl, rfl⟩
  have CW : Hid (Calls _ _ _ _ _) := Rwithout_any T2.out.c.own (by omega) (-1)
  rw [wo_neg] at CW
  have q1 := T2.out.c.c1
  go_wp2_with fail
  refine CW.out.mono ?_
  rintro e w4 ⟨v4, rfl, o4, hb4⟩
  have T4 : Hid (Pt w4 F p n v l) := T2.out.below hb4
  obtain ⟨gr, cap, e4, d5, f5, hBg, hgl, hc1, hc2, om⟩ := o4.marked T2.out.c.uq HX.out
  subst e4
  have B5 : Hid (Below w'.heap.size w' (w4.setCell ⟨gr, k * 6 + 5, none⟩ (.bool true))) := hb4.grown (grown_setCell' _ _ _ _) hb4.size (fun i hi => by injection hi with hi; omega)
  have L5 : Hid (Lv w' F p n (mrk a g l) ((w4.setCell ⟨gr, k * 6 + 5, none⟩ (.bool true)).setCell ⟨p, 1, none⟩ (.slice (some ⟨gr, 0, none⟩) l.length cap))) := T2.out.put B5.out om (by rw [mrk_len]; exact hl) (mrk_uq a g T2.out.c.uq)
  have c1 := T4.out.c.c1
  have z1 := T4.out.c.z1
  have hp2 : p < w'.heap.size := T2.out.c.lt
  have hne : gr ≠ p := by omega
  unfold maxLen at hc2
  clear q1 CW hb4 o4 om
  go_wp2
  go_ret2
  exact ⟨rfl, Lv.pre B2.out L5.out⟩
theorem RMark_ok {w : World} {F : Nat → Prop} {p n : Nat} {l : List Tr} (h : Ca w F p n l) (a g : Int) :
    Calls Try.prog 32 #[.pointer (some ⟨p, 0, none⟩), .int .i64 a, .int .i64 g] w fun e w' => e = .returned (.tuple #[.bool (isT a g l).1, .int .i64 (isT a g l).2]) ∧ Lv w F p n (mrkL a g l) w' := by
  rcases isT_cases (a := a) (p := g) (l := l) with ⟨ha, hg, k, x, hx, e⟩ | ⟨ha, hg, hx, e⟩ | hb
  · rw [show isT a g l = (true, 0) by simp [isT, ha, hg, e], show mrkL a g l = mrk a g l by simp [mrkL, ha, hg]]
    exact RMark_hit h a g ha hg hx
  · rw [show isT a g l = (false, 0) by simp [isT, ha, hg, e], show mrkL a g l = l by simp [mrkL, ha, hg, mrk_none hx]]
    refine (RMark_miss (miss_none h ha hg hx)).mono ?_
    rintro e w' ⟨he, hb⟩
    exact ⟨he, Lv.of_below h hb⟩
  · rw [show isT a g l = (false, 2) by simp [isT, bad_and hb], show mrkL a g l = l by simp [mrkL, bad_and hb]]
    refine (RMark_miss (miss_bad h hb)).mono ?_
    rintro e w' ⟨he, hb⟩
    exact ⟨he, Lv.of_below h hb⟩
theorem REmpty_nil (w : World) :
    Calls Try.prog 35 #[.pointer none] w fun e w' => e = .returned (.tuple #[.int .i64 0, .int .i64 1]) ∧ w' = w := by
  go_enter Try.func35, Try.ntmps35
  go_wp2_with fail
  refine (asked_nil 0 0 w).mono ?_
  rintro e w' ⟨rfl, rfl⟩
  go_wp2
  go_ret2
  exact ⟨rfl, rfl⟩
theorem REmpty_ok {w : World} {F : Nat → Prop} {p n : Nat} {l : List Tr} (h : Ca w F p n l) :
    Calls Try.prog 35 #[.pointer (some ⟨p, 0, none⟩)] w fun e w' => e = .returned (.tuple #[.int .i64 l.length, .int .i64 0]) ∧ Lv w F p n [] w' := by
  obtain ⟨v, hP⟩ := h
  have CM : Hid (Calls Try.prog 47 #[.pointer (some ⟨p, 0, none⟩), .int .i64 0, .int .i64 0] w fun e w' => e = .returned (.int .i64 0) ∧ w' = w) := asked_any hP.c 0 0
  have HL : Hid (Lv w F p n [] (w.setCell ⟨p, 1, none⟩ (.slice none 0 0))) := hP.emptied
  obtain ⟨ao, cap, hv⟩ := hP.c.own.len
  have q1 := hP.c.c1
  have z1 := hP.c.z1
  rw [hv] at q1
  have hl := hP.c.len
  have hn := hP.c.n64
  clear hP hv
  go_enter Try.func35, Try.ntmps35
  go_wp2_with fail
  refine CM.out.mono ?_
  rintro e w' ⟨rfl, rfl⟩
  go_wp2
  go_ret2
  exact ⟨rfl, HL.out⟩
theorem RAll_nil (w : World) :
    Calls Try.prog 13 #[.pointer none] w fun e w' => e = .returned (.slice none 0 0) ∧ w' = w := by
  go_enter Try.func13, Try.ntmps13
  go_wp2
  go_ret
  exact ⟨rfl, rfl⟩
theorem RAll_ok {w : World} {F : Nat → Prop} {p n : Nat} {l : List Tr} (h : Ca w F p n l) :
    Calls Try.prog 13 #[.pointer (some ⟨p, 0, none⟩)] w fun e w' => ∃ v, e = .returned v ∧ Own w.heap.size w' v l ∧ Below w.heap.size w w' := by
  obtain ⟨v, hP⟩ := h
  have hl := hP.c.len
  have hn := hP.c.n64
  have q1 := hP.c.c1
  have CW : Hid (Calls _ _ _ _ _) := Rwithout_any hP.c.own (by omega) (-1)
  rw [wo_neg] at CW
  clear hP
  go_enter Try.func13, Try.ntmps13
  go_wp2_with fail
  refine CW.out.mono ?_
  rintro e w' ⟨v', rfl, o, hb⟩
  have HO : Hid (Own w.heap.size w' v' l) := o
  have HB : Hid (Below w.heap.size w w') := hb
  clear o hb CW q1
  go_wp2
  go_ret
  exact ⟨_, rfl, HO.out, HB.out⟩
theorem RDropAll_err {w : World} {q : Option Addr} {a er : Int} (he : (er != 0) = true) (hA : Calls Try.prog 47 #[.pointer q, .int .i64 a, .int .i64 0] w fun e w' => e = .returned (.int .i64 er) ∧ w' = w) :
    Calls Try.prog 34 #[.pointer q, .int .i64 a] w fun e w' => e = .returned (.tuple #[.int .i64 0, .int .i64 er]) ∧ w' = w := by
  have CA : Hid (Calls _ _ _ _ _) := hA
  clear hA
  go_enter Try.func34, Try.ntmps34
  go_wp2_with fail
  refine CA.out.mono ?_
  rintro e w' ⟨rfl, rfl⟩
  go_wp2
  go_ret2
  exact ⟨rfl, rfl⟩
set_option maxHeartbeats 2000000 in
theorem RDropAll_go {w : World} {F : Nat → Prop} {p n : Nat} {l : List Tr} (h : Ca w F p n l) (a : Int) (ha : okA a = true) :
    Calls Try.prog 34 #[.pointer (some ⟨p, 0, none⟩), .int .i64 a] w fun e w' => e = .returned (.tuple #[.int .i64 ((l.length : Int) - (outOf a l).length), .int .i64 0]) ∧ Lv w F p n (outOf a l) w' := by
  obtain ⟨i0, hi0, hz0, hz1, hz2⟩ := info_parts Try.infoT
  obtain ⟨v, hP⟩ := h
  have CA : Hid (Calls Try.prog 47 #[.pointer (some ⟨p, 0, none⟩), .int .i64 a, .int .i64 0] w fun e w' => e = .returned (.int .i64 0) ∧ w' = w) := by
    have := asked_any hP.c a 0
    rw [show askE a 0 = 0 by simp [askE, ha, okP]] at this
    exact this
  have HP : Hid (Pt w F p n v l) := hP
  have hl := hP.c.len
  have hn := hP.c.n64
  obtain ⟨ao, cap, hv⟩ := hP.c.own.len
  subst hv
  clear hP ha
  go_enter Try.func34, Try.ntmps34
  go_wp2_with fail
  refine CA.out.mono ?_
  rintro e w' ⟨rfl, rfl⟩
  clear CA
  go_wp2_with fail
  go_loopw [7, 8] (fun v i wr => ∃ j : Nat, j ≤ l.length ∧ i = .int .i64 j ∧ Own w'.heap.size wr v (outOf a (l.take j)) ∧ Below w'.heap.size w' wr) (fun _ i _ => l.length - (intOf i).toNat)
  case atStart => exact ⟨0, by omega, rfl, Own.nil _ _, Below.refl _ _⟩
  case round =>
    obtain ⟨j, hj, rfl, o, hb⟩ := hrel
    have HB : Hid (Below w'.heap.size w' wr) := hb
    have hsz := hb.size
    have HK : Hid (wr.ownsRow w'.heap.size 32 6 u7 (outOf a (l.take j)).length (tv (outOf a (l.take j)))) := o
    have hA : (outOf a (l.take j)).length ≤ 1000 := Nat.le_trans (out_len _ _) (by simp; omega)
    have q1 := (HP.out.below hb).c.c1
    clear o
    by_cases hlt : j < l.length
    · have hg : l[j]? = some l[j] := List.getElem?_eq_getElem hlt
      have HG : Hid (l[j]? = some l[j]) := hg
      obtain ⟨gr, cap', e1, ⟨d0, d1, d2, d3, d4, d5⟩, _, hgl, hc1, hc2⟩ := (HP.out.below hb).c.own.cell hg
      cases e1
      clear hg hb
      generalize l[j] = z at *
      unfold maxLen at hc2
      by_cases ha : z.a = a
      · have q2 : (z.a != a) = false := by simp [ha]
        have HK2 : Hid (Own w'.heap.size wr u7 (outOf a (l.take (j + 1)))) := by
          unfold Hid
          rw [out_snoc_is HG.out (by simpa using ha)]
          exact HK.out
        clear ha
        go_wp2_with fail
        go_roundw
        case rel => exact ⟨j + 1, by omega, by go_num, HK2.out, HB.out⟩
        case measure => simp [intOf]; omega
      · have q2 : (z.a != a) = true := by simpa using ha
        have HN : Hid (∀ j u, (tc z)[j]? = some u → (wr.alloc (.cells #[.int .i64 z.a, .int .i64 z.p, .int .i64 z.f, .bool z.r, .bool z.w, .bool z.d] 32)).cell? ((⟨wr.heap.size, 0, none⟩ : Addr).add j) = some u) := box_cells wr z 32
        have HT : Hid (∀ v ∈ tc z, v.oneCell' = true) := tc_one z
        have HF : Hid (outOf a (l.take (j + 1)) = outOf a (l.take j) ++ [z]) := out_snoc_no HG.out (by simpa using ha)
        clear ha
        obtain ⟨A, hAA⟩ : ∃ A, outOf a (l.take j) = A := ⟨_, rfl⟩
        have HAA : Hid (outOf a (l.take j) = A) := hAA
        rw [hAA] at HK hA HF
        clear hAA
        go_wp2_with (at_builtin; refine wpList_append_own _ rfl (.tmp 35) (.tmp 43) 35 rfl w'.heap.size 32 i0 _ 6 32 Try.underlying35 hi0 hz0 hz1 hz2 rfl (by decide) _ A.length _ rfl (World.ownsRow.alloc HK.out _) ⟨wr.heap.size, 0, none⟩ 1 1 (tc z) rfl rfl HN.out HT.out (by unfold maxLen; omega) (by omega) (by simp; omega) ?_; intro v3 w3 o3 gr3 nil3)
        go_roundw
        case rel =>
          refine ⟨j + 1, by omega, by go_num, ?_, (HB.out.alloc hsz _).grown gr3 (by simp; omega) (fun k hk => (HK.out.lt k hk).1)⟩
          rw [HF.out]
          unfold Own
          rw [tv_app, List.length_append, show tv [z] = tc z by simp [tv]]
          exact o3
        case measure => simp [intOf]; omega
    · obtain rfl : j = l.length := by omega
      have HK2 : Own w'.heap.size wr u7 (outOf a l) := by
        have := HK.out
        rw [List.take_of_length_le (Nat.le_refl _)] at this
        exact this
      have z1 := (HP.out.below hb).c.z1
      have hol := out_len a l
      have HL : Hid (Lv w' F p n (outOf a l) (wr.setCell ⟨p, 1, none⟩ u7)) := HP.out.put hb HK2 (Nat.le_trans hol hl) (out_uq a HP.out.c.uq)
      obtain ⟨ao7, cap7, h7⟩ := HK2.len
      subst h7
      generalize hmm : (outOf a l).length = m at *
      have HM : Hid ((outOf a l).length = m) := hmm
      clear hb HK2 HK hmm hA
      go_wp2
      go_ret2
      exact ⟨by rw [HM.out]; rfl, HL.out⟩
theorem RDropAll_ok {w : World} {F : Nat → Prop} {p n : Nat} {l : List Tr} (h : Ca w F p n l) (a : Int) :
    Calls Try.prog 34 #[.pointer (some ⟨p, 0, none⟩), .int .i64 a] w fun e w' => e = .returned (.tuple #[.int .i64 (dal a l).1, .int .i64 (dal a l).2]) ∧ Lv w F p n (dalL a l) w' := by
  cases ha : okA a with
  | true =>
    rw [show dal a l = ((l.length : Int) - (outOf a l).length, 0) by simp [dal, ha], show dalL a l = outOf a l by simp [dalL, ha]]
    exact RDropAll_go h a ha
  | false =>
    rw [show dal a l = (0, 2) by simp [dal, ha], show dalL a l = l by simp [dalL, ha]]
    obtain ⟨v, hP⟩ := h
    have CA := asked_any hP.c a 0
    rw [show askE a 0 = 2 by simp [askE, ha]] at CA
    refine (RDropAll_err rfl CA).mono ?_
    rintro e w' ⟨he, rfl⟩
    exact ⟨he, Lv.of_below ⟨v, hP⟩ (Below.refl _ _)⟩
theorem RDropAll_nil (w : World) (a : Int) :
    Calls Try.prog 34 #[.pointer none, .int .i64 a] w fun e w' => e = .returned (.tuple #[.int .i64 0, .int .i64 1]) ∧ w' = w := RDropAll_err rfl (asked_nil a 0 w)
end Go.Proofs.Ytkgmdalekakgpaa
