/- SlotsOnce walked: no slot is told twice, but it was given back between; no condition but the table of math/bits and the ranges of what came in. -/
import Derived.Test.YtncelpphbhcogaaDoorSk
namespace Go.Proofs.YtncelpphbhcogaaDoor.Z
open Go.ChangeShapes Go.WideShapes Go.ChangeAt Go.RowKit
set_option linter.unusedVariables false
set_option maxRecDepth 8192

theorem aFree_n {w : World} {s g n : Nat} {T : List Bool} (h : Ap w s g T) (hl : T.length = n) : Calls Tryd.prog 13 #[.pointer (some ⟨s, 0, none⟩)] w fun e w' => e = .returned (.int .i64 ((n : Int) - (cT T : Nat))) ∧ Below w.heap.size w w' := by
  have := aFree h
  rwa [hl] at this
theorem aUsed_n {w : World} {s g : Nat} {T : List Bool} (h : Ap w s g T) : Calls Tryd.prog 12 #[.pointer (some ⟨s, 0, none⟩)] w fun e w' => ∃ a c, e = .returned (.slice a (cT T) c) ∧ Below w.heap.size w w' :=
  (aUsed h).mono fun e w' ⟨v, he, hi, hb⟩ => by
    obtain ⟨a, c, rfl, _⟩ := hi.lst
    rw [us_len] at he
    exact ⟨a, c, he, hb⟩
/-- Where SlotsOnce stands: the area, its own row. -/
structure On (w0 w : World) (s g m : Nat) (T M : List Bool) : Prop where
  be : Below w0.heap.size w0 w
  a : Ap w s g T
  tb : Tb w
  mi : Blk w m 4 (bv M)
  ls : w0.heap.size ≤ s
  lg : w0.heap.size ≤ g
  lm : w0.heap.size ≤ m
  ms : m ≠ s
  mg : m ≠ g
theorem On.below {w0 w w' : World} {s g m : Nat} {T M : List Bool} (h : On w0 w s g m T M) (k : Below w.heap.size w w') : On w0 w' s g m T M := ⟨bs h.be k, h.a.below k, h.tb.below k, h.mi.below k, h.ls, h.lg, h.lm, h.ms, h.mg⟩
theorem On.call {w0 w w' : World} {s g m : Nat} {T M T' : List Bool} (h : On w0 w s g m T M) (ha : Ap w' s g T') (k : w.grownBy w' (some g)) (ht : Tb w') : On w0 w' s g m T' M :=
  ⟨h.be.grown k h.be.size (fun x hx => by cases hx; exact h.lg), ha, ht, h.mi.kept k (some_ne h.mg), h.ls, h.lg, h.lm, h.ms, h.mg⟩
theorem On.put {w0 w : World} {s g m : Nat} {T M : List Bool} (h : On w0 w s g m T M) (j : Nat) (b : Bool) : On w0 (w.setCell ⟨m, j, none⟩ (.bool b)) s g m T (M.set j b) := by
  have k := grown_setCell' w m j (.bool b)
  have hm0 : m ≠ 0 := by
    have h1 := h.lg
    have h2 := h.lm
    have h3 := h.tb.lt
    intro e
    subst e
    have h4 : w0.heap.size = 0 := by omega
    have h5 := h.mi.cell 0
    have h6 := h.tb 0 (by omega)
    rw [h6] at h5
    cases M with
    | nil => simp [bv] at h5
    | cons x M => simp [bv] at h5
  refine ⟨h.be.grown k h.be.size (fun x hx => by cases hx; exact h.lm), h.a.kept k (Ne.symm h.ms) (Ne.symm h.mg), h.tb.kept k hm0, ?_, h.ls, h.lg, h.lm, h.ms, h.mg⟩
  have := h.mi.set j (.bool b)
  rwa [bv_set] at this
theorem On.cell {w0 w : World} {s g m : Nat} {T M : List Bool} (h : On w0 w s g m T M) {j : Nat} (hj : j < M.length) : w.cell? ⟨m, j, none⟩ = some (.bool (M.getD j false)) := (h.mi.cell j).trans (bv_at hj)
theorem app_set {T : List Bool} {j : Nat} {b : Bool} (h : j < T.length) : (T ++ [false]).set j b = T.set j b ++ [false] := by rw [List.set_append_left _ _ h]
theorem app_getD {T : List Bool} {j : Nat} : (T ++ [false]).getD j false = T.getD j false := by
  rw [List.getD_eq_getElem?_getD, List.getD_eq_getElem?_getD]
  by_cases h : j < T.length
  · rw [List.getElem?_append_left h]
  · rw [List.getElem?_append_right (by omega), List.getElem?_eq_none (show T.length ≤ j by omega)]
    by_cases e : j - T.length = 0
    · rw [e]; rfl
    · rw [List.getElem?_eq_none (by simp; omega)]
set_option maxHeartbeats 4000000 in
theorem once_walk {w : World} (ht : Tb w) (N : Int) (hN0 : -9223372036854775808 ≤ N) (hN1 : N < 9223372036854775808) {ao : Option Addr} {L cap : Nat} (hL : L ≤ maxLen) (hD : Dos w.heap.size w ao L) : Calls Tryd.prog 4 #[.int .i64 N, .slice ao L cap] w fun e w' => e = .returned (.bool true) ∧ Below w.heap.size w w' := by
  have CW : Hid (Calls _ _ _ _ _) := works_any ht
  have HT : Hid (Tb w) := ht
  have HD : Hid (Dos w.heap.size w ao L) := hD
  unfold maxLen at hL
  clear ht hD
  go_enter Tryd.func4, Tryd.ntmps4
  go_wp2_with fail
  refine CW.out.mono ?_
  rintro e w1 ⟨rfl, hb1⟩
  have CI : Hid (Calls _ _ _ _ _) := Within_any N 130 (by omega) (by omega) hN0 hN1 w1
  have HB1 : Hid (Below w.heap.size w w1) := hb1
  clear CW hb1
  go_wp2_with fail
  refine CI.out.mono ?_
  rintro e w1' ⟨rfl, hw⟩
  obtain rfl := hw.symm
  obtain ⟨n, hn⟩ := Int.eq_ofNat_of_zero_le (Int.emod_nonneg N (show (130 : Int) ≠ 0 by omega))
  have hn130 : n < 130 := by
    have := Int.emod_lt_of_pos N (show (0 : Int) < 130 by omega)
    omega
  rw [hn]
  have CN : Hid (Calls _ _ _ _ _) := aNew (n := n) (by omega) (HT.out.below HB1.out)
  clear hn CI hw
  go_wp2_with fail
  refine CN.out.mono ?_
  rintro e w2 ⟨s, g, rfl, hA, hs, hg, hb2, ht2⟩
  have m6 := make_bools (n + 1) (by omega) w2
  have H0 : Hid (On w (w2.alloc (.cells (bv (nw (n + 1))).toArray 4)) s g w2.heap.size (nw n) (nw n ++ [false])) := by
    have b := below1 w2 (.cells (bv (nw (n + 1))).toArray 4)
    have b12 := bs HB1.out hb2
    have e : nw (n + 1) = nw n ++ [false] := by unfold nw; rw [List.replicate_succ']
    have q := hA.lt
    have z1 := HB1.out.size
    have z2 := b12.size
    refine ⟨bs b12 b, hA.below b, ht2.below b, ?_, by omega, by omega, by omega, by omega, by omega⟩
    rw [← e]
    exact blk_new w2 _ _
  clear hA hs hg hb2 ht2 CN
  obtain ⟨n1, hn1⟩ : ∃ n1, n + 1 = n1 := ⟨_, rfl⟩
  rw [hn1] at m6 H0
  have hn2 : (n : Int) + 1 = (n1 : Int) := by omega
  clear hn1
  go_wp2
  generalize (w2.alloc (.cells (bv (nw n1)).toArray 4)) = wm at *
  generalize w2.heap.size = m at *
  clear m6
  go_loopw [8, 9] (fun c z wr => ∃ (T : List Bool) (i : Nat), T.length = n ∧ c = .int .i64 (cT T : Nat) ∧ z = .int .i64 i ∧ i ≤ L ∧ i ≤ 300 ∧ On w wr s g m T (T ++ [false])) (fun _ z _ => 300 - (intOf z).toNat)
  case atStart => exact ⟨nw n, 0, nw_len n, by rw [nw_c]; rfl, rfl, by omega, by omega, H0.out⟩
  case round =>
    obtain ⟨T, i, hlen, rfl, rfl, hi1, hi2, hO⟩ := hrel
    have HO : Hid (On w wr s g m T (T ++ [false])) := hO
    have hct := cT_le T
    rw [hlen] at hct
    clear hO H0
    by_cases hlt : i < L ∧ i < 300
    · obtain ⟨hlt1, hlt2⟩ := hlt
      obtain ⟨b, off, gv, x, rfl, hbb, d0, d1, hx0, hx1⟩ := (HD.out.below HO.out.be) i hlt1
      have CI : Hid (∀ w, Calls Tryd.prog 18 #[.int .i64 x, .int .i64 (n1 : Int)] w fun e w' => e = .returned (.int .i64 (x % (n1 : Int))) ∧ w' = w) := fun w => Within_any x (n1 : Int) (by omega) (by omega) hx0 hx1 w
      obtain ⟨y, hy⟩ := Int.eq_ofNat_of_zero_le (Int.emod_nonneg x (show (n1 : Int) ≠ 0 by omega))
      have hyn : y ≤ n := by
        have := Int.emod_lt_of_pos x (show (0 : Int) < (n1 : Int) by omega)
        omega
      rw [hy] at CI
      clear hy hbb
      obtain ⟨cn, hcn⟩ : ∃ cn : Nat, cT T = cn := ⟨_, rfl⟩
      have HCN : Hid (cT T = cn) := hcn
      rw [hcn] at hct ⊢
      clear hcn
      have HLE : Hid (T.length = n) := hlen
      clear hlen
      cases gv with
      | true =>
        have CG : Hid (Calls _ _ _ _ _) := aGive HO.out.a HO.out.tb (y : Int)
        go_wp2_with fail
        refine (CI.out _).mono ?_
        rintro e wz ⟨rfl, hw⟩
        obtain rfl := hw.symm
        clear hw CI d1
        go_wp2_with fail
        refine CG.out.mono ?_
        rintro e wg ⟨T2, er, rfl, hG, ha, hk, htb⟩
        have HO1 : Hid (On w wg s g m T2 (T ++ [false])) := HO.out.call ha hk htb
        clear ha hk htb CG HO d0
        rcases hG with ⟨y', hy', hT, rfl, rfl⟩ | ⟨hno, rfl, rfl⟩
        · obtain rfl : y = y' := by omega
          have hyl : y < T.length := (List.getElem?_eq_some_iff.1 hT).1
          have hyn2 : y < n := by have := HLE.out; omega
          have hb : T.getD y false = true := by rw [getD_bz hyl] at hT; exact Option.some.inj hT
          have c3 : wg.cell? ⟨m, y, none⟩ = some (.bool true) := by
            have := HO1.out.cell (j := y) (by simp; omega)
            rwa [app_getD, hb] at this
          have hfz : wg.frozen? ⟨m, y, none⟩ = false := HO1.out.mi.frozen y
          have HO2 : Hid (On w (wg.setCell ⟨m, y, none⟩ (.bool false)) s g m (T.set y false) (T.set y false ++ [false])) := by
            have := HO1.out.put y false
            rwa [app_set hyl] at this
          have HLN : Hid ((T.set y false).length = n) := List.length_set.trans HLE.out
          have hcs := cT_set_false hT
          rw [HCN.out] at hcs
          obtain ⟨cc, hcc⟩ : ∃ cc, cT (T.set y false) = cc := ⟨_, rfl⟩
          have HCC : Hid (cT (T.set y false) = cc) := hcc
          rw [hcc] at hcs
          clear hcc hT hb HO1 hyl hy'
          subst hcs
          generalize T.set y false = T2 at *
          obtain ⟨wq, hwq⟩ : ∃ wq, wg.setCell ⟨m, y, none⟩ (.bool false) = wq := ⟨_, rfl⟩
          have HWQ : Hid (wg.setCell ⟨m, y, none⟩ (.bool false) = wq) := hwq
          rw [hwq] at HO2
          clear hwq
          go_wp2_with fail
          rw [HWQ.out]
          have CF : Hid (Calls Tryd.prog 13 _ _ _) := aFree_n HO2.out.a HLN.out
          have CU : Hid (∀ w1, Below wq.heap.size wq w1 → Calls Tryd.prog 12 #[.pointer (some ⟨s, 0, none⟩)] w1 fun e w' => ∃ a c, e = .returned (.slice a (cT T2) c) ∧ Below w1.heap.size w1 w') := fun w1 k => aUsed_n (HO2.out.a.below k)
          have FIN2 : Hid (∀ w', Below wq.heap.size wq w' → On w w' s g m T2 (T2 ++ [false])) := fun w' k => HO2.out.below k
          rw [HCC.out] at CF CU
          clear HO2
          refine CF.out.mono ?_
          rintro e wf ⟨rfl, hbf⟩
          have CU2 : Hid (Calls _ _ _ _ _) := CU.out wf hbf
          have HBF : Hid (Below wq.heap.size wq wf) := hbf
          clear CF CU hbf
          go_wp2_with fail
          refine CU2.out.mono ?_
          rintro e wu ⟨av, cv, rfl, hbu⟩
          have HO9 : Hid (On w wu s g m T2 (T2 ++ [false])) := FIN2.out wu (bs HBF.out hbu)
          clear CU2 HBF FIN2 hbu
          go_wp2
          go_roundw
          case rel => exact ⟨T2, i + 1, HLN.out, by rw [HCC.out] <;> exact congrArg (Value.int .i64) (by omega), by go_num, by omega, by omega, HO9.out⟩
          case measure => simp [intOf]; omega
        · have HLN : Hid (T2.length = n) := HLE.out
          have HCC : Hid (cT T2 = cn) := HCN.out
          by_cases hyn2 : y < n
          · have c3 : wg.cell? ⟨m, y, none⟩ = some (.bool false) := by
              have := HO1.out.cell (j := y) (by simp [HLE.out]; omega)
              have hyl : y < T2.length := by rw [HLE.out]; exact hyn2
              have hb : T2.getD y false = false := by
                cases e : T2.getD y false
                · rfl
                · exact absurd ((getD_bz hyl).trans (by rw [e])) (hno y rfl)
              rwa [app_getD, hb] at this
            have HO2 := HO1
            clear hno HO1
            go_wp2_with fail
            have CF : Hid (Calls Tryd.prog 13 _ _ _) := aFree_n HO2.out.a HLN.out
            have CU : Hid (∀ w1, Below wg.heap.size wg w1 → Calls Tryd.prog 12 #[.pointer (some ⟨s, 0, none⟩)] w1 fun e w' => ∃ a c, e = .returned (.slice a (cT T2) c) ∧ Below w1.heap.size w1 w') := fun w1 k => aUsed_n (HO2.out.a.below k)
            have FIN2 : Hid (∀ w', Below wg.heap.size wg w' → On w w' s g m T2 (T2 ++ [false])) := fun w' k => HO2.out.below k
            rw [HCC.out] at CF CU
            clear HO2
            refine CF.out.mono ?_
            rintro e wf ⟨rfl, hbf⟩
            have CU2 : Hid (Calls _ _ _ _ _) := CU.out wf hbf
            have HBF : Hid (Below wg.heap.size wg wf) := hbf
            clear CF CU hbf
            go_wp2_with fail
            refine CU2.out.mono ?_
            rintro e wu ⟨av, cv, rfl, hbu⟩
            have HO9 : Hid (On w wu s g m T2 (T2 ++ [false])) := FIN2.out wu (bs HBF.out hbu)
            clear CU2 HBF FIN2 hbu
            go_wp2
            go_roundw
            case rel => exact ⟨T2, i + 1, HLN.out, by rw [HCC.out] <;> exact congrArg (Value.int .i64) (by omega), by go_num, by omega, by omega, HO9.out⟩
            case measure => simp [intOf]; omega
          · have HO2 := HO1
            clear hno HO1
            go_wp2_with fail
            have CF : Hid (Calls Tryd.prog 13 _ _ _) := aFree_n HO2.out.a HLN.out
            have CU : Hid (∀ w1, Below wg.heap.size wg w1 → Calls Tryd.prog 12 #[.pointer (some ⟨s, 0, none⟩)] w1 fun e w' => ∃ a c, e = .returned (.slice a (cT T2) c) ∧ Below w1.heap.size w1 w') := fun w1 k => aUsed_n (HO2.out.a.below k)
            have FIN2 : Hid (∀ w', Below wg.heap.size wg w' → On w w' s g m T2 (T2 ++ [false])) := fun w' k => HO2.out.below k
            rw [HCC.out] at CF CU
            clear HO2
            refine CF.out.mono ?_
            rintro e wf ⟨rfl, hbf⟩
            have CU2 : Hid (Calls _ _ _ _ _) := CU.out wf hbf
            have HBF : Hid (Below wg.heap.size wg wf) := hbf
            clear CF CU hbf
            go_wp2_with fail
            refine CU2.out.mono ?_
            rintro e wu ⟨av, cv, rfl, hbu⟩
            have HO9 : Hid (On w wu s g m T2 (T2 ++ [false])) := FIN2.out wu (bs HBF.out hbu)
            clear CU2 HBF FIN2 hbu
            go_wp2
            go_roundw
            case rel => exact ⟨T2, i + 1, HLN.out, by rw [HCC.out] <;> exact congrArg (Value.int .i64) (by omega), by go_num, by omega, by omega, HO9.out⟩
            case measure => simp [intOf]; omega
      | false =>
        have CG : Hid (Calls _ _ _ _ _) := aTake HO.out.a HO.out.tb
        go_wp2_with fail
        refine (CI.out _).mono ?_
        rintro e wz ⟨rfl, hw⟩
        obtain rfl := hw.symm
        clear hw CI d1
        go_wp2_with fail
        refine CG.out.mono ?_
        rintro e wg ⟨T2, at_, er, rfl, hG, ha, hk, htb⟩
        have HO1 : Hid (On w wg s g m T2 (T ++ [false])) := HO.out.call ha hk htb
        clear ha hk htb CG HO d0
        rcases hG with ⟨j, hj, rfl, rfl, rfl⟩ | ⟨hf, rfl, rfl, rfl⟩
        · have hjl := hj.lt
          have hjn : j < n := by have := HLE.out; omega
          have hb : T.getD j false = false := by
            have := hj.1
            rw [getD_bz hjl] at this
            exact Option.some.inj this
          have HUP : Hid (∀ k, k < j → wg.cell? ⟨m, k, none⟩ = some (.bool true)) := fun k hk => by
            have h1 := HO1.out.cell (j := k) (by simp; omega)
            have h2 := hj.2 k hk
            rw [getD_bz (by omega)] at h2
            rwa [app_getD, Option.some.inj h2] at h1
          have c3 : wg.cell? ⟨m, j, none⟩ = some (.bool false) := by
            have := HO1.out.cell (j := j) (by simp; omega)
            rwa [app_getD, hb] at this
          have hfz : wg.frozen? ⟨m, j, none⟩ = false := HO1.out.mi.frozen j
          have HO2 : Hid (On w (wg.setCell ⟨m, j, none⟩ (.bool true)) s g m (T.set j true) (T.set j true ++ [false])) := by
            have := HO1.out.put j true
            rwa [app_set hjl] at this
          have HLN : Hid ((T.set j true).length = n) := List.length_set.trans HLE.out
          have hcs := cT_set_true hj.1
          rw [HCN.out] at hcs
          have HCC : Hid (cT (T.set j true) = cn + 1) := hcs
          have hcl := cT_le (T.set j true)
          rw [hcs, HLN.out] at hcl
          have hcn : cn < n := by omega
          clear hcs hb HO1 hjl hj hcl
          generalize T.set j true = T2 at *
          obtain ⟨wq, hwq⟩ : ∃ wq, wg.setCell ⟨m, j, none⟩ (.bool true) = wq := ⟨_, rfl⟩
          have HWQ : Hid (wg.setCell ⟨m, j, none⟩ (.bool true) = wq) := hwq
          rw [hwq] at HO2
          clear hwq
          have hdn : decide ((cn : Int) < (n : Int)) = true := by simp; omega
          go_wp2_with fail
          go_loopw [14] (fun z wr2 => ∃ k : Nat, k ≤ j ∧ z = .int .i64 k ∧ wr2 = wg) (fun z _ => j - (intOf z).toNat)
          case atStart => exact ⟨0, by omega, rfl, rfl⟩
          case round =>
            obtain ⟨k, hk, rfl, hwr2⟩ := hrel
            obtain rfl := hwr2
            by_cases hkj : k < j
            · have ck := HUP.out k hkj
              go_wp2
              go_roundw
              case rel => exact ⟨k + 1, by omega, by go_num, by first | rfl | trivial⟩
              case measure => simp [intOf]; omega
            · obtain rfl : k = j := by omega
              go_wp2_with fail
              rw [HWQ.out]
              have CF : Hid (Calls Tryd.prog 13 _ _ _) := aFree_n HO2.out.a HLN.out
              have CU : Hid (∀ w1, Below wq.heap.size wq w1 → Calls Tryd.prog 12 #[.pointer (some ⟨s, 0, none⟩)] w1 fun e w' => ∃ a c, e = .returned (.slice a (cT T2) c) ∧ Below w1.heap.size w1 w') := fun w1 k => aUsed_n (HO2.out.a.below k)
              have FIN2 : Hid (∀ w', Below wq.heap.size wq w' → On w w' s g m T2 (T2 ++ [false])) := fun w' k => HO2.out.below k
              rw [HCC.out] at CF CU
              clear HO2
              refine CF.out.mono ?_
              rintro e wf ⟨rfl, hbf⟩
              have CU2 : Hid (Calls _ _ _ _ _) := CU.out wf hbf
              have HBF : Hid (Below wq.heap.size wq wf) := hbf
              clear CF CU hbf
              go_wp2_with fail
              refine CU2.out.mono ?_
              rintro e wu ⟨av, cv, rfl, hbu⟩
              have HO9 : Hid (On w wu s g m T2 (T2 ++ [false])) := FIN2.out wu (bs HBF.out hbu)
              clear CU2 HBF FIN2 hbu
              go_wp2
              go_roundw
              case rel => exact ⟨T2, i + 1, HLN.out, by rw [HCC.out] <;> exact congrArg (Value.int .i64) (by omega), by go_num, by omega, by omega, HO9.out⟩
              case measure => simp [intOf]; omega
        · have hcf := full_iff.1 hf
          rw [HCN.out, HLE.out] at hcf
          have HLN : Hid (T2.length = n) := HLE.out
          have HCC : Hid (cT T2 = cn) := HCN.out
          have HO2 := HO1
          have hdn : decide ((cn : Int) < (n : Int)) = false := by simp; omega
          clear HO1 hf
          go_wp2_with fail
          have CF : Hid (Calls Tryd.prog 13 _ _ _) := aFree_n HO2.out.a HLN.out
          have CU : Hid (∀ w1, Below wg.heap.size wg w1 → Calls Tryd.prog 12 #[.pointer (some ⟨s, 0, none⟩)] w1 fun e w' => ∃ a c, e = .returned (.slice a (cT T2) c) ∧ Below w1.heap.size w1 w') := fun w1 k => aUsed_n (HO2.out.a.below k)
          have FIN2 : Hid (∀ w', Below wg.heap.size wg w' → On w w' s g m T2 (T2 ++ [false])) := fun w' k => HO2.out.below k
          rw [HCC.out] at CF CU
          clear HO2
          refine CF.out.mono ?_
          rintro e wf ⟨rfl, hbf⟩
          have CU2 : Hid (Calls _ _ _ _ _) := CU.out wf hbf
          have HBF : Hid (Below wg.heap.size wg wf) := hbf
          clear CF CU hbf
          go_wp2_with fail
          refine CU2.out.mono ?_
          rintro e wu ⟨av, cv, rfl, hbu⟩
          have HO9 : Hid (On w wu s g m T2 (T2 ++ [false])) := FIN2.out wu (bs HBF.out hbu)
          clear CU2 HBF FIN2 hbu
          go_wp2
          go_roundw
          case rel => exact ⟨T2, i + 1, HLN.out, by rw [HCC.out] <;> exact congrArg (Value.int .i64) (by omega), by go_num, by omega, by omega, HO9.out⟩
          case measure => simp [intOf]; omega
    · have HQ : Hid (Below w.heap.size w wr) := HO.out.be
      by_cases h1 : i < L
      · obtain rfl : i = 300 := by omega
        go_wp2
        go_ret
        exact ⟨rfl, HQ.out⟩
      · obtain rfl : i = L := by omega
        go_wp2
        go_ret
        exact ⟨rfl, HQ.out⟩
end Go.Proofs.YtncelpphbhcogaaDoor.Z
