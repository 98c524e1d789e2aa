/- ColourFrames walked: of every number of frames, of colours, and list, the program's Frames and Count answer as the document's do; what is handed in is only read, what is answered is new memory. -/
import Derived.Test.YtoondpgdodmngaaPf
namespace Go.Proofs.Ytoondpgdodmngaa
open Go.ChangeShapes Go.WideShapes Go.ChangeAt Go.RowKit
set_option linter.unusedVariables false

theorem Is.arg' {w : World} {base : Nat} {ao : Option Addr} {l c : Nat} {L : List Int} (h : Is w base (.slice ao l c) L) : Arg w ao L.length (nth L) := by
  obtain ⟨ao', c', e, hA⟩ := h.arg
  cases e
  exact hA
/-- What stands behind the three calls: the list, the copy, the row that is written (v1), the two rows that are not. -/
structure St (w0 W : World) (B1 lo g l : Nat) (a : Option Addr) (f : Nat → Int) (H L : List Int) (v1 : Value) (a2 a3 : Option Addr) : Prop where
  arg : Arg W a l f
  row : Rw W g g (l + 3) H
  own : Is W B1 v1 L
  arg2 : Arg W a2 L.length (nth L)
  arg3 : Arg W a3 L.length (nth L)
  bel : Below w0.heap.size w0 W
  lo1 : ∀ k, v1.ownBlock = some k → k < lo
  lo2 : ∀ g off, a2 = some ⟨g, off, none⟩ → lo ≤ g
  lo3 : ∀ g off, a3 = some ⟨g, off, none⟩ → lo ≤ g
  b1 : w0.heap.size ≤ B1
  lo4 : lo ≤ W.heap.size
  b2 : B1 ≤ W.heap.size
theorem St.drew {w0 W : World} {B1 lo g l : Nat} {a : Option Addr} {f : Nat → Int} {H L : List Int} {v1 : Value} {a2 a3 : Option Addr} (h : St w0 W B1 lo g l a f H L v1 a2 a3) (m : Nat) : St w0 (W.drewN m) B1 lo g l a f H L v1 a2 a3 :=
  ⟨h.arg, h.row, h.own, h.arg2, h.arg3, below_drewN h.bel m, h.lo1, h.lo2, h.lo3, h.b1, h.lo4, h.b2⟩
set_option maxRecDepth 20000 in
set_option maxHeartbeats 2000000 in
theorem frames_any (w : World) (F n : Int) (a : Option Addr) (l c : Nat) (f : Nat → Int) (hl : l * 8 ≤ 140737488351232) (hA : Arg w a l f) :
    Calls Try.prog 4 #[.int .i64 F, .int .i64 n, .slice a l c] w fun e w' => e = .returned (.bool true) ∧ Below w.heap.size w w' := by
  obtain ⟨L, er, b1, b2, b3⟩ := ans_both F n l f (by unfold maxLen; omega)
  have B1 : Hid (Ans 16 F n l f L er) := b1
  have B2 : Hid (Ans 17 F n l f L er) := b2
  have BC : Hid (∀ c, ∃ v er, (∀ w, Calls Try.prog 19 #[.int .i64 F, .int .i64 n, .int .i64 c] w (Two v er w)) ∧ (∀ w, Calls Try.prog 20 #[.int .i64 F, .int .i64 n, .int .i64 c] w fun e w' => e = .returned (.tuple #[.int .i64 v, .int .i64 er]) ∧ Below w.heap.size w w')) := counts_both F n
  have HA : Hid (Arg w a l f) := hA
  obtain ⟨i0, hi, hz0, hz1, hz2⟩ := info_parts Try.infoI
  clear b1 b2 hA
  go_enter Try.func4, Try.ntmps4
  go_wp2_with (at_make; refine wpList_make_full _ rfl _ _ 28 rfl w.heap.size 3 i0 (.int .i64 0) 1 Try.underlying28 hi hz0 hz1 _ _ _ _ (l + 3) rfl rfl (by omega) (by omega) (by rw [hz2]; omega) (by unfold maxLen; omega) (Nat.le_refl _) ?_; intro w1 hown1 hgrow1)
  have HR : Hid (Rw w1 w.heap.size w.heap.size (l + 3) (List.replicate (l + 3) 0)) := made_Rw hown1
  have HB : Hid (Below w.heap.size w w1) := (Below.refl _ _).grown hgrow1 (Nat.le_refl _) (by simp)
  clear hown1 hgrow1
  generalize hg : w.heap.size = g at HR ⊢
  have HG : Hid (w.heap.size = g) := hg
  clear hg
  go_loopw [8] (fun i wr => ∃ (k : Nat) (H : List Int), k ≤ l + 3 ∧ i = .int .i64 k ∧ Rw wr g g (l + 3) H ∧ (∀ i, i < k → nth H i = tg l f i) ∧ Below w.heap.size w wr) (fun i _ => l + 3 - (intOf i).toNat)
  case atStart => exact ⟨0, _, by omega, rfl, HR.out, fun i hi => by omega, HB.out⟩
  case round =>
    clear HR HB
    obtain ⟨k, H, hk, rfl, hR, hT, hb⟩ := hrel
    have HR : Hid (Rw wr g g (l + 3) H) := hR
    have HT : Hid (∀ i, i < k → nth H i = tg l f i) := hT
    have HL : Hid (Below w.heap.size w wr) := hb
    clear hR hT hb
    by_cases hlt : k < l + 3
    · have c0 := HR.out.cell hlt
      have c1 := HR.out.frozen k
      have R1 : Hid (Rw (wr.setCell ⟨g, k, none⟩ (.int .i64 (-77))) g g (l + 3) (H.set k (-77))) := HR.out.set k (-77)
      have hlen : k < H.length := by rw [HR.out.1]; exact hlt
      have L1 : Hid (Below w.heap.size w (wr.setCell ⟨g, k, none⟩ (.int .i64 (-77)))) := HL.out.grown (HR.out.2.stored k _).2 HL.out.size (fun t ht => by injection ht; have := HG.out; omega)
      by_cases hlt2 : k < l
      · obtain ⟨b, off, rfl, hc⟩ := HA.out.at' L1.out hlt2
        have d0 := R1.out.cell hlt
        have d1 := R1.out.frozen k
        have R2 : Hid (Rw ((wr.setCell ⟨g, k, none⟩ (.int .i64 (-77))).setCell ⟨g, k, none⟩ (.int .i64 (f k))) g g (l + 3) ((H.set k (-77)).set k (f k))) := R1.out.set k (f k)
        have L2 : Hid (Below w.heap.size w ((wr.setCell ⟨g, k, none⟩ (.int .i64 (-77))).setCell ⟨g, k, none⟩ (.int .i64 (f k)))) := L1.out.grown (R1.out.2.stored k _).2 L1.out.size (fun t ht => by injection ht; have := HG.out; omega)
        have HT2 : Hid (∀ i, i < k + 1 → nth ((H.set k (-77)).set k (f k)) i = tg l f i) := fun i hi => by
          rw [nth_set (by simpa using hlen)]
          by_cases e : i = k
          · subst e; rw [if_pos rfl]; unfold tg; rw [if_pos hlt2]
          · rw [if_neg e, nth_set hlen, if_neg e]; exact HT.out i (by omega)
        generalize nth H k = z0 at *
        generalize nth (H.set k (-77)) k = z1 at *
        generalize f k = x at *
        clear HT HL
        go_wp2
        go_roundw
        case rel => exact ⟨k + 1, _, by omega, by go_num, R2.out, HT2.out, L2.out⟩
        case measure => simp [intOf]; omega
      · have HT2 : Hid (∀ i, i < k + 1 → nth (H.set k (-77)) i = tg l f i) := fun i hi => by
          rw [nth_set hlen]
          by_cases e : i = k
          · subst e; rw [if_pos rfl]; unfold tg; rw [if_neg hlt2]
          · rw [if_neg e]; exact HT.out i (by omega)
        generalize nth H k = z0 at *
        clear HT HL
        go_wp2
        go_roundw
        case rel => exact ⟨k + 1, _, by omega, by go_num, R1.out, HT2.out, L1.out⟩
        case measure => simp [intOf]; omega
    · obtain rfl : k = l + 3 := by omega
      have HI0 : Hid (Arg wr (some ⟨g, 0, none⟩) l f) := (HR.out.arg (show l ≤ l + 3 by omega)).congr (fun i hi => by rw [HT.out i (by omega)]; unfold tg; rw [if_pos hi])
      have t1 : nth H l = -77 := by rw [HT.out l (by omega)]; unfold tg; rw [if_neg (by omega)]
      have t2 : nth H (l + 2) = -77 := by rw [HT.out (l + 2) (by omega)]; unfold tg; rw [if_neg (by omega)]
      have HT1 : Hid (nth H l = -77) := t1
      have HT2 : Hid (nth H (l + 2) = -77) := t2
      have HTT : Hid (∀ i, i < l → nth H i = f i) := fun i hi => by rw [HT.out i (by omega)]; unfold tg; rw [if_pos hi]
      clear HT t1 t2
      have hle : (l : Int) ≤ (l : Int) + 3 := by omega
      go_wp2_with fail
      refine (B1.out wr (some ⟨g, 0, none⟩) (l + 3) HI0.out).mono ?_
      rintro e w1 ⟨v1, rfl, o1, k1⟩
      have O1 : Hid (Is w1 wr.heap.size v1 L) := o1
      have K1 : Hid (Below wr.heap.size wr w1) := k1
      clear o1 k1
      go_wp2_with fail
      refine (B1.out w1 (some ⟨g, 0, none⟩) (l + 3) (HI0.out.below K1.out)).mono ?_
      rintro e w2 ⟨v2, rfl, o2, k2⟩
      have O2 : Hid (Is w2 w1.heap.size v2 L) := o2
      have K2 : Hid (Below w1.heap.size w1 w2) := k2
      clear o2 k2
      go_wp2_with fail
      refine (B2.out w2 a c (((HA.out.below HL.out).below K1.out).below K2.out)).mono ?_
      rintro e w3 ⟨v3, rfl, o3, k3⟩
      have O3 : Hid (Is w3 w2.heap.size v3 L) := o3
      have K3 : Hid (Below w2.heap.size w2 w3) := k3
      clear o3 k3
      have S1 := K1.out.size
      have S2 := K2.out.size
      have S3 := K3.out.size
      have hlo := HL.out.size
      have O23 := O2.out.below K3.out
      obtain ⟨a1, c1, e1, u1, u2, _⟩ := O1.out.form
      obtain ⟨a2, c2, e2, _, _, _⟩ := O23.form
      obtain ⟨a3, c3, e3, _, _, _⟩ := O3.out.form
      subst e1 e2 e3
      obtain ⟨a2', c2', e2, hA2⟩ := O23.arg
      cases e2
      obtain ⟨a3', c3', e3, hA3⟩ := O3.out.arg
      cases e3
      have HS : Hid (St w w3 wr.heap.size w1.heap.size g l a f H L (.slice a1 L.length c1) a2 a3) :=
        { arg := (((HA.out.below HL.out).below K1.out).below K2.out).below K3.out
          row := ((HR.out.below K1.out).below K2.out).below K3.out
          own := (O1.out.below K2.out).below K3.out
          arg2 := hA2
          arg3 := hA3
          bel := ((HL.out.trans (K1.out.mono hlo)).trans (K2.out.mono (by omega))).trans (K3.out.mono (by omega))
          lo1 := fun k hk => (O1.out.lt k hk).2
          lo2 := O2.out.lo
          lo3 := fun g off e => by have := O3.out.lo g off e; omega
          b1 := hlo
          lo4 := by omega
          b2 := by omega }
      have hcm1 : c1 ≤ 9223372036854775807 := u2
      clear O1 O2 O3 O23 K1 K2 K3 hA2 hA3 S1 S2 S3 hlo u1 u2 HI0 HR HL B1 B2
      obtain ⟨N, hN⟩ : ∃ N, L.length = N := ⟨_, rfl⟩
      have HN : Hid (L.length = N) := hN
      rw [hN] at b3 HS ⊢
      clear hN
      generalize wr.heap.size = B at *
      generalize w1.heap.size = lo at *
      have he : (er != er) = false := by simp
      go_wp2_with fail
      refine (EqInts_any (l := N) (f := nth L) (by unfold maxLen; omega) (by rw [← HN.out]; exact HS.out.own.arg') (by rw [← HN.out]; exact HS.out.arg3)).mono ?_
      rintro e w4 ⟨rfl, m, rfl⟩
      have HS4 : Hid _ := HS.out.drew m
      clear HS
      generalize w3.drewN m = w4 at *
      go_wp2_with fail
      refine (EqInts_any (l := l) (f := f) (by unfold maxLen; omega) ((HS4.out.row.arg (show l ≤ l + 3 by omega)).congr HTT.out) HS4.out.arg).mono ?_
      rintro e w5 ⟨rfl, m2, rfl⟩
      have HS5 : Hid _ := HS4.out.drew m2
      clear HS4
      generalize w4.drewN m2 = w5 at *
      have cl := HS5.out.row.cell (show l < l + 3 by omega)
      have cl2 := HS5.out.row.cell (show l + 2 < l + 3 by omega)
      rw [HT1.out] at cl
      rw [HT2.out] at cl2
      have il : ((l : Int) + 2) < (l : Int) + 3 := by omega
      have il2 : ((l : Int) + 2).toNat = l + 2 := by omega
      go_wp2_with fail
      clear cl cl2 HT1 HT2 HTT il il2
      go_loopw [15] (fun i wr => ∃ (k : Nat) (L' : List Int), k ≤ N ∧ i = .int .i64 k ∧ L'.length = N ∧ Is wr B (.slice a1 N c1) L' ∧ Keep lo w5 wr ∧ Below w.heap.size w wr) (fun i _ => N - (intOf i).toNat)
      case atStart => exact ⟨0, L, by omega, rfl, HN.out, HS5.out.own, Keep.refl _ _, HS5.out.bel⟩
      case round =>
        obtain ⟨k, L', hk, rfl, hL', hI, hK, hb⟩ := hrel
        have HI : Hid (Is wr B (.slice a1 N c1) L') := hI
        have HK : Hid (Keep lo w5 wr) := hK
        have HL : Hid (Below w.heap.size w wr) := hb
        have HL' : Hid (L'.length = N) := hL'
        clear hI hK hb hL'
        by_cases hlt : k < N
        · obtain ⟨ao, c', e, _, _, q⟩ := HI.out.form
          injection e with e1 e2 e3
          subst e1
          rcases q with ⟨q, _⟩ | ⟨ga, rfl, g1, g2, hc⟩
          · exfalso
            have := HL'.out
            rw [q] at this
            simp at this
            omega
          · obtain ⟨d0, d1⟩ := hc k (by rw [HL'.out]; exact hlt)
            have o' := HI.out
            unfold Is at o'
            rw [HL'.out] at o'
            have OS := o'.stored k (.int .i64 (-5))
            rw [← enI_set] at OS
            have HI2 : Hid (Is (wr.setCell ⟨ga, k, none⟩ (.int .i64 (-5))) B (.slice (some ⟨ga, 0, none⟩) N c1) (L'.set k (-5))) := by
              unfold Hid Is
              rw [List.length_set, HL'.out]
              exact OS.1
            have HK2 : Hid (Keep lo w5 (wr.setCell ⟨ga, k, none⟩ (.int .i64 (-5)))) := HK.out.grown OS.2 (fun t ht => by injection ht with ht; subst ht; exact Or.inl (HS5.out.lo1 _ rfl))
            have HL2 : Hid (Below w.heap.size w (wr.setCell ⟨ga, k, none⟩ (.int .i64 (-5)))) := HL.out.grown OS.2 HL.out.size (fun t ht => by injection ht with ht; subst ht; have := HS5.out.b1; omega)
            have HL3 : Hid ((L'.set k (-5)).length = N) := by unfold Hid; rw [List.length_set]; exact HL'.out
            clear o' OS hc e2 e3
            generalize nth L' k = z at *
            go_wp2
            go_roundw
            case rel => exact ⟨k + 1, _, by omega, by go_num, HL3.out, HI2.out, HK2.out, HL2.out⟩
            case measure => simp [intOf]; omega
        · obtain rfl : k = N := by omega
          go_wp2
          go_loopw [9, 16] (fun v i wr => ∃ (t : Nat) (vv : Value) (L' : List Int), vv = v ∧ t ≤ 10 ∧ i = .int .i64 t ∧ L'.length = k + t ∧ Is wr B v L' ∧ (∀ j, v.ownBlock = some j → j < lo ∨ w5.heap.size ≤ j) ∧ Keep lo w5 wr ∧ Below w.heap.size w wr) (fun _ i _ => 10 - (intOf i).toNat)
          case atStart => exact ⟨0, _, L', rfl, by omega, rfl, HL'.out, HI.out, fun j hj => Or.inl (HS5.out.lo1 j hj), HK.out, HL.out⟩
          case round =>
            clear HI HK HL HL'
            obtain ⟨t, v, L', hvv, ht, rfl, hL', hI, hJ, hK, hb⟩ := hrel
            subst hvv
            have HI : Hid (Is wr B v L') := hI
            have HK : Hid (Keep lo w5 wr) := hK
            have HJ : Hid (∀ j, v.ownBlock = some j → j < lo ∨ w5.heap.size ≤ j) := hJ
            have HL : Hid (Below w.heap.size w wr) := hb
            have HL' : Hid (L'.length = k + t) := hL'
            clear hI hK hb hL' hJ
            by_cases hlt2 : t < 10
            · have o' := HI.out
              unfold Is at o'
              rw [HL'.out] at o'
              have O : Hid (wr.ownsRow B 3 1 v (k + t) (enI L')) := o'
              have hsz := HL.out.size
              have hks := HK.out.1
              have hBw : B ≤ wr.heap.size := Nat.le_trans HS5.out.b2 hks
              clear o'
              go_wp2_with (at_builtin; refine wpList_append_lies _ rfl (.tmp 126) (.tmp 127) 28 rfl B 3 i0 _ 1 8 Try.underlying28 hi hz0 hz1 hz2 rfl (by decide) _ (k + t) _ rfl (O.out.alloc _) ⟨wr.heap.size, 0, none⟩ 1 1 [.int .i64 (-6)] rfl rfl (cell_one_new _ _ _) (by intro u hu; simp at hu; subst hu; rfl) (by omega) (by unfold maxLen; omega) (by omega) (by simp; omega) (wr.heap.size + 1) (by simp) ?_; intro g5 k5 w6 o5 gr5 at5 lt5)
              go_roundw
              case rel =>
                refine ⟨t + 1, _, L' ++ [-6], rfl, by omega, by go_num, by rw [List.length_append, HL'.out]; simp; omega, ?_, ?_, ?_, ?_⟩
                · unfold Is
                  rw [enI_snoc, List.length_append, HL'.out]
                  exact o5
                · intro j hj
                  rcases at5 with q | q
                  · simp [Value.ownBlock] at hj
                    subst hj
                    exact HJ.out _ q
                  · simp [Value.ownBlock] at hj
                    omega
                · exact (HK.out.grown (World.grownBy_alloc _ _ none) (by simp)).grown gr5 HJ.out
                · exact (HL.out.alloc hsz _).grown gr5 (by simp; omega) (fun j hj => Nat.le_trans HS5.out.b1 (O.out.lt j hj).1)
              case measure => simp [intOf]; omega
            · have HA4 : Hid (Arg wr a l f) := HA.out.below HL.out
              have H2 : Hid (Arg wr a2 k (nth L)) := by have := HK.out.arg HS5.out.arg2 HS5.out.lo2; rw [HN.out] at this; exact this
              have H3 : Hid (Arg wr a3 k (nth L)) := by have := HK.out.arg HS5.out.arg3 HS5.out.lo3; rw [HN.out] at this; exact this
              clear HS5 HK HJ HI HL'
              generalize hW : wr = W at *
              clear hW
              go_wp2
              go_loopw [17] (fun i wr => ∃ (t : Nat), t ≤ l ∧ t ≤ 20 ∧ i = .int .i64 t ∧ Below W.heap.size W wr) (fun i _ => 20 - (intOf i).toNat)
              case atStart => exact ⟨0, by omega, by omega, rfl, Below.refl _ _⟩
              case round =>
                obtain ⟨t, ht1, ht2, rfl, hb⟩ := hrel
                have HM : Hid (Below W.heap.size W wr) := hb
                clear hb
                by_cases q1 : t < l
                · by_cases q2 : t < 20
                  · obtain ⟨b, off, rfl, hc⟩ := HA4.out.at' HM.out q1
                    obtain ⟨cv, ce, p1, p2⟩ := BC.out (f t)
                    generalize f t = x at *
                    have P1 : Hid (∀ w, Calls Try.prog 19 #[.int .i64 F, .int .i64 n, .int .i64 x] w (Two cv ce w)) := p1
                    have P2 : Hid (∀ w, Calls Try.prog 20 #[.int .i64 F, .int .i64 n, .int .i64 x] w fun e w' => e = .returned (.tuple #[.int .i64 cv, .int .i64 ce]) ∧ Below w.heap.size w w') := p2
                    have n1 : (cv != cv) = false := by simp
                    have n2 : (ce != ce) = false := by simp
                    clear p1 p2
                    go_wp2_with fail
                    refine (P1.out _).mono ?_
                    rintro e w6 ⟨rfl, h1⟩
                    obtain rfl := h1.symm
                    go_wp2_with fail
                    refine (P2.out _).mono ?_
                    rintro e w6 ⟨rfl, h1⟩
                    have HM6 : Hid (Below W.heap.size W w6) := HM.out.trans (h1.mono HM.out.size)
                    clear h1 P1 P2 hc
                    go_wp2
                    go_roundw
                    case rel => exact ⟨t + 1, by omega, by omega, by go_num, HM6.out⟩
                    case measure => simp [intOf]; omega
                  · go_wp2_with fail
                    refine (EqInts_any (by unfold maxLen; omega) (H2.out.below HM.out) (H3.out.below HM.out)).mono ?_
                    rintro e w6 ⟨rfl, m3, rfl⟩
                    go_wp2_with fail
                    refine (works_any _).mono ?_
                    rintro e w7 ⟨rfl, h7⟩
                    have HF : Hid (Below w.heap.size w w7) := (HL.out.trans ((below_drewN HM.out m3).mono HL.out.size)).trans (h7.mono (Nat.le_trans HL.out.size HM.out.size))
                    clear h7
                    go_wp2
                    go_ret
                    exact ⟨rfl, HF.out⟩
                · go_wp2_with fail
                  refine (EqInts_any (by unfold maxLen; omega) (H2.out.below HM.out) (H3.out.below HM.out)).mono ?_
                  rintro e w6 ⟨rfl, m3, rfl⟩
                  go_wp2_with fail
                  refine (works_any _).mono ?_
                  rintro e w7 ⟨rfl, h7⟩
                  have HF : Hid (Below w.heap.size w w7) := (HL.out.trans ((below_drewN HM.out m3).mono HL.out.size)).trans (h7.mono (Nat.le_trans HL.out.size HM.out.size))
                  clear h7
                  go_wp2
                  go_ret
                  exact ⟨rfl, HF.out⟩
end Go.Proofs.Ytoondpgdodmngaa
