/- AnonOwns gives back true at every list of numbers; no condition but those that the theorem names. -/
import Derived.Test.YtkbpnkjjmipjfaaGreatVZg
import Derived.Deep.RegionWith
import Derived.Deep.RegionHeld3
namespace Go.Proofs.YtkbpnkjjmipjfaaGreat.Az
open B P Go.ChangeShapes Go.WideShapes Go.ChangeAt Go.RowKit
set_option linter.unusedVariables false
set_option maxRecDepth 8192

theorem within_eq (k n : Int) (hn : 0 < n) : (if k.tmod n < 0 then k.tmod n + n else k.tmod n) = k % n := by
  rw [Int.tmod_eq_emod]
  have h1 := Int.emod_nonneg k (show n ≠ 0 by omega)
  have h2 := Int.emod_lt_of_pos k hn
  have e : (n.natAbs : Int) = n := Int.natAbs_of_nonneg (by omega)
  by_cases hq : 0 ≤ k ∨ n ∣ k
  · simp only [hq, if_true]
    rw [if_neg (by omega)]
    omega
  · simp only [hq, if_false, e]
    rw [if_pos (by omega)]
    omega
theorem within_ok (k n : Int) (h0 : 0 < n) (h1 : n < 4611686018427387904) (hk0 : -9223372036854775808 ≤ k) (hk1 : k < 9223372036854775808) (w : World) :
    Calls Tryz.prog 24 #[.int .i64 k, .int .i64 n] w fun e w' => e = .returned (.int .i64 (k % n)) ∧ w' = w := by
  have HE : Hid _ := within_eq k n h0
  have h2 : -n < k.tmod n := Int.lt_tmod_of_pos k h0
  have h3 : k.tmod n < n := Int.tmod_lt_of_pos k h0
  by_cases hz : k.tmod n < 0
  · rw [if_pos hz] at HE
    go_enter Tryz.func24, Tryz.ntmps24
    go_wp2
    go_ret
    exact ⟨B.ret_int HE.out, rfl⟩
  · rw [if_neg hz] at HE
    go_enter Tryz.func24, Tryz.ntmps24
    go_wp2
    go_ret
    exact ⟨B.ret_int HE.out, rfl⟩
theorem num_of (x : Int) : ∃ m p q r t d d2 : Nat, x % 240 = (m : Int) ∧ m < 240 ∧ (m : Int).tdiv 3 = (d : Int) ∧ (d : Int).tmod 5 = (p : Int) ∧ (m : Int).tdiv 15 = (d2 : Int) ∧ (d2 : Int).tmod 4 = (q : Int) ∧ (m : Int).tdiv 60 = (r : Int) ∧ (m : Int).tmod 3 = (t : Int) ∧ p < 5 ∧ q < 4 ∧ r < 4 ∧ t < 3 ∧ d < 240 ∧ d2 < 240 := by
  have h1 := Int.emod_nonneg x (show (240 : Int) ≠ 0 by omega)
  have h2 := Int.emod_lt_of_pos x (show (0 : Int) < 240 by omega)
  refine ⟨(x % 240).toNat, (x % 240).toNat / 3 % 5, (x % 240).toNat / 15 % 4, (x % 240).toNat / 60, (x % 240).toNat % 3, (x % 240).toNat / 3, (x % 240).toNat / 15, by omega, by omega, ?_, ?_, ?_, ?_, ?_, ?_, by omega, by omega, by omega, by omega, by omega, by omega⟩
  · rw [Int.tdiv_eq_ediv_of_nonneg (by omega)]; omega
  · rw [Int.tmod_eq_emod_of_nonneg (by omega)]; omega
  · rw [Int.tdiv_eq_ediv_of_nonneg (by omega)]; omega
  · rw [Int.tmod_eq_emod_of_nonneg (by omega)]; omega
  · rw [Int.tdiv_eq_ediv_of_nonneg (by omega)]; omega
  · rw [Int.tmod_eq_emod_of_nonneg (by omega)]; omega
theorem Lp.first {w W : World} {z : Pz} {Y : Nat → Prop} (T : Tt Y w W z (E.hwOf us) PU 6 20 (fun _ => none)) : Lp w z W.heap.size (W.heap.size + 1) 0 ((W.alloc (.map #[] 0)).alloc (.map #[] 0)) := by
  have hs1 : (W.alloc (.map #[] 0)).heap.size = W.heap.size + 1 := by simp
  have k1 : Below W.heap.size W (W.alloc (.map #[] 0)) := (Below.refl _ _).alloc (Nat.le_refl _) _
  have k2 : Below (W.heap.size + 1) (W.alloc (.map #[] 0)) ((W.alloc (.map #[] 0)).alloc (.map #[] 0)) := (Below.refl _ _).alloc (by omega) _
  have m1 : Mv 72 kk (W.alloc (.map #[] 0)) W.heap.size 0 (fun _ => none) := mv_new W
  have m2 : Mv 3 ik ((W.alloc (.map #[] 0)).alloc (.map #[] 0)) (W.alloc (.map #[] 0)).heap.size 0 (fun _ => none) := mv_new _
  rw [hs1] at m2
  have hb := T.be.size
  exact ⟨Y, _, _, _, T.below (k1.trans (k2.mono (by omega))), Bk.nil, ⟨⟨_, m1.of_eq (k2.block _ (by omega)), fun _ _ _ _ => rfl⟩, ⟨_, m2, fun _ => rfl⟩⟩, ⟨fun h => by have := T.lt _ h; omega, fun h => by have := T.lt _ h; omega⟩, by omega, by omega, by omega⟩
theorem Lp.be {w W : World} {z : Pz} {hb cb k : Nat} (K : Lp w z hb cb k W) : Below w.heap.size w W := by
  obtain ⟨Y, f, hs, ct, T, _⟩ := K
  exact T.be
set_option maxHeartbeats 2000000 in
theorem owns_any {w : World} {ao : Option Addr} {l c : Nat} {x : Nat → Int} (hl : l ≤ maxLen) (ha : Arg w ao l x) (hx : ∀ i, i < l → -9223372036854775808 ≤ x i ∧ x i ≤ 9223372036854775807) : Calls Tryz.prog 4 #[.slice ao l c] w fun e w' => e = .returned (.bool true) ∧ Below w.heap.size w w' := by
  have HA : Hid (Arg w ao l x) := ha
  have HX : Hid (∀ i, i < l → -9223372036854775808 ≤ x i ∧ x i ≤ 9223372036854775807) := hx
  unfold maxLen at hl
  clear ha hx
  go_enter Tryz.func4, Tryz.ntmps4
  go_wp2_with fail
  refine (over_ok w).mono ?_
  rintro e w1 ⟨z, Y, rfl, T⟩
  have HT : Hid (Tt Y w w1 z (E.hwOf us) PU 6 20 (fun _ => none)) := T
  clear T
  go_wp2_with fail
  refine (awake_any w1).mono ?_
  rintro e w2 ⟨rfl, hB⟩
  have HL : Hid (Lp w z w2.heap.size (w2.heap.size + 1) 0 ((w2.alloc (.map #[] 0)).alloc (.map #[] 0))) := Lp.first (HT.out.below hB)
  clear HT hB
  have hmm := @run_makeMap Tryz.prog
  go_wp2
  generalize (w2.alloc (.map #[] 0)).alloc (.map #[] 0) = W0 at *
  generalize w2.heap.size = hb at *
  clear hmm
  go_loopw [8] (fun i wr => ∃ k : Nat, k ≤ l ∧ k ≤ 200 ∧ i = .int .i64 k ∧ Lp w z hb (hb + 1) k wr) (fun i _ => 200 - (intOf i).toNat)
  case atStart => exact ⟨0, by omega, by omega, rfl, HL.out⟩
  case round =>
    obtain ⟨k, hk, hk2, rfl, hL⟩ := hrel
    have HL1 : Hid (Lp w z hb (hb + 1) k wr) := hL
    clear hL HL
    by_cases hlt2 : k < 200
    by_cases hlt : k < l
    · obtain ⟨b, off, rfl, hcell⟩ := HA.out.at' HL1.out.be hlt
      obtain ⟨m, p, q, r, t, d, d2, h0, hm, h1, h2, h3, h4, h5, h6, hp, hq, hr, ht, hd, hd2⟩ := num_of (x k)
      have CW : Hid (Calls _ _ _ _ _) := within_ok (x k) 240 (by omega) (by omega) (HX.out k hlt).1 (by have := (HX.out k hlt).2; omega) wr
      rw [h0] at CW
      clear h0
      generalize x k = xk at *
      obtain ⟨Y, f, hs, ct, hR⟩ := HL1.out.rd p q r
      go_wp2_with fail
      refine CW.out.mono ?_
      rintro e w3 ⟨rfl, hw3⟩
      obtain rfl := hw3.symm
      clear hw3 CW hcell
      have ht3 : t = 0 ∨ t = 1 ∨ t = 2 := by omega
      rcases ht3 with rfl | rfl | rfl
      · have CM : Hid (Calls _ _ _ _ _) := hR.make hp hq
        clear hR
        go_wp2_with fail
        generalize (wr.alloc (.cells #[.int .i64 (p : Int), .int .i64 (q : Int)] 72)).alloc (.cells #[.int .i64 (p : Int), .int .i64 (r : Int)] 72) = W2 at *
        generalize wr.heap.size = y at *
        refine CM.out.mono ?_
        rintro e W3 (⟨i, j, rfl, e0, hj, Y', K⟩ | ⟨i, rfl, e0, Y', K⟩ | ⟨i, rfl, e0, ec, hi, Y', f', K⟩)
        · clear CM
          have c0 : W3.cell? ⟨y, 0, none⟩ = some (.int .i64 (p : Int)) := K.k1.cell 0
          have c1 : W3.cell? ⟨y, 1, none⟩ = some (.int .i64 (q : Int)) := K.k1.cell 1
          have hlk := K.M.has p q hp hq
          rw [e0] at hlk
          clear e0
          have CK : Hid (Calls _ _ _ _ _) := K.kept
          clear K
          go_wp2_with fail
          refine CK.out.mono ?_
          rintro e W9 ⟨rfl, K9⟩
          have HL9 : Hid (Lp w z hb (hb + 1) (k + 1) W9) := K9.lp (by omega)
          clear CK K9
          go_wp2
          go_roundw
          case rel => exact ⟨k + 1, by omega, by omega, by go_num, HL9.out⟩
          case measure => simp [intOf]; omega
        · clear CM
          have c0 : W3.cell? ⟨y, 0, none⟩ = some (.int .i64 (p : Int)) := K.k1.cell 0
          have c1 : W3.cell? ⟨y, 1, none⟩ = some (.int .i64 (q : Int)) := K.k1.cell 1
          have hlk := K.M.has p q hp hq
          rw [e0] at hlk
          clear e0
          have CK : Hid (Calls _ _ _ _ _) := K.kept
          clear K
          go_wp2_with fail
          refine CK.out.mono ?_
          rintro e W9 ⟨rfl, K9⟩
          have HL9 : Hid (Lp w z hb (hb + 1) (k + 1) W9) := K9.lp (by omega)
          clear CK K9
          go_wp2
          go_roundw
          case rel => exact ⟨k + 1, by omega, by omega, by go_num, HL9.out⟩
          case measure => simp [intOf]; omega
        · clear CM
          have c0 : W3.cell? ⟨y, 0, none⟩ = some (.int .i64 (p : Int)) := K.k1.cell 0
          have c1 : W3.cell? ⟨y, 1, none⟩ = some (.int .i64 (q : Int)) := K.k1.cell 1
          have hlk := K.M.has p q hp hq
          rw [e0] at hlk
          have hlc := K.M.cnt i (by omega)
          rw [ec] at hlc
          obtain ⟨W4, hst, K4⟩ := K.sethas (by omega) p q hp hq ((i : Int) + 1)
          obtain ⟨W5, hst2, K5⟩ := K4.setcnt (by omega) i hi 1
          clear e0 ec K K4
          have CK : Hid (Calls _ _ _ _ _) := K5.kept
          clear K5
          go_wp2_with fail
          refine CK.out.mono ?_
          rintro e W9 ⟨rfl, K9⟩
          have HL9 : Hid (Lp w z hb (hb + 1) (k + 1) W9) := K9.lp (by omega)
          clear CK K9
          go_wp2
          go_roundw
          case rel => exact ⟨k + 1, by omega, by omega, by go_num, HL9.out⟩
          case measure => simp [intOf]; omega
      · by_cases hz : hs p q = 0
        · have HL9 : Hid (Lp w z hb (hb + 1) (k + 1) ((wr.alloc (.cells #[.int .i64 (p : Int), .int .i64 (q : Int)] 72)).alloc (.cells #[.int .i64 (p : Int), .int .i64 (r : Int)] 72))) := hR.lp (by omega)
          have c0 : ((wr.alloc (.cells #[.int .i64 (p : Int), .int .i64 (q : Int)] 72)).alloc (.cells #[.int .i64 (p : Int), .int .i64 (r : Int)] 72)).cell? ⟨wr.heap.size, 0, none⟩ = some (.int .i64 (p : Int)) := hR.k1.cell 0
          have c1 : ((wr.alloc (.cells #[.int .i64 (p : Int), .int .i64 (q : Int)] 72)).alloc (.cells #[.int .i64 (p : Int), .int .i64 (r : Int)] 72)).cell? ⟨wr.heap.size, 1, none⟩ = some (.int .i64 (q : Int)) := hR.k1.cell 1
          have hlk := hR.M.has p q hp hq
          rw [hz] at hlk
          clear hR hz
          go_wp2
          go_roundw
          case rel => exact ⟨k + 1, by omega, by omega, by go_num, HL9.out⟩
          case measure => simp [intOf]; omega
        · obtain ⟨j, rc, e0, e1, e2, e3⟩ := hR.bk.some_ hz
          have hj := hR.T.ok.lt e1
          have c0 : ((wr.alloc (.cells #[.int .i64 (p : Int), .int .i64 (q : Int)] 72)).alloc (.cells #[.int .i64 (p : Int), .int .i64 (r : Int)] 72)).cell? ⟨wr.heap.size, 0, none⟩ = some (.int .i64 (p : Int)) := hR.k1.cell 0
          have c1 : ((wr.alloc (.cells #[.int .i64 (p : Int), .int .i64 (q : Int)] 72)).alloc (.cells #[.int .i64 (p : Int), .int .i64 (r : Int)] 72)).cell? ⟨wr.heap.size, 1, none⟩ = some (.int .i64 (q : Int)) := hR.k1.cell 1
          have d1 : ((wr.alloc (.cells #[.int .i64 (p : Int), .int .i64 (q : Int)] 72)).alloc (.cells #[.int .i64 (p : Int), .int .i64 (r : Int)] 72)).cell? ⟨wr.heap.size + 1, 1, none⟩ = some (.int .i64 (r : Int)) := hR.k2.cell 1
          have hlk := hR.M.has p q hp hq
          have hld : (Instr.lookup 68 (.map (some hb)) (.agg #[.int .i64 (p : Int), .int .i64 (q : Int)]) false).run Tryz.prog ((wr.alloc (.cells #[.int .i64 (p : Int), .int .i64 (q : Int)] 72)).alloc (.cells #[.int .i64 (p : Int), .int .i64 (r : Int)] 72)).drew = .ok (.int .i64 (hs p q)) ((wr.alloc (.cells #[.int .i64 (p : Int), .int .i64 (q : Int)] 72)).alloc (.cells #[.int .i64 (p : Int), .int .i64 (r : Int)] 72)).drew := (hR.below (Below.refl _ _).drew).M.has p q hp hq
          rw [e0] at hlk hld
          have HR2 : Hid (Rd w ((wr.alloc (.cells #[.int .i64 (p : Int), .int .i64 (q : Int)] 72)).alloc (.cells #[.int .i64 (p : Int), .int .i64 (r : Int)] 72)).drew z hb (hb + 1) (2 * k) wr.heap.size (wr.heap.size + 1) p q r Y f hs hs ct ct) := hR.below (Below.refl _ _).drew
          have hwr : IntKind.i64.wrap (j : Int) = (j : Int) := by rw [IntKind.wrap_i64]; omega
          obtain ⟨_, hct, hc1, hc2⟩ := hR.ctl e1
          have hcb : 1 ≤ ct j ∧ ct j ≤ 16 := by omega
          have hwr1 : IntKind.i64.wrap (ct j + 1) = ct j + 1 := by rw [IntKind.wrap_i64]; omega
          have hwr2 : IntKind.i64.wrap (ct j - 1) = ct j - 1 := by rw [IntKind.wrap_i64]; omega
          clear hct hc1 hc2
          have HE : Hid (f j = some rc ∧ rc.pg = p ∧ (q : Int) ∈ rc.ps ∧ hs p q = (j : Int) + 1) := ⟨e1, e2, e3, e0⟩
          clear hR hz e1 e2 e3 e0
          go_wp2_with fail
          generalize ((wr.alloc (.cells #[.int .i64 (p : Int), .int .i64 (q : Int)] 72)).alloc (.cells #[.int .i64 (p : Int), .int .i64 (r : Int)] 72)) = W2 at *
          generalize wr.heap.size = y at *
          have CS : Hid (Calls Tryz.prog 26 #[.pointer (some ⟨z.a, 0, none⟩), .int .i64 (j : Int), .int .i64 (r : Int)] W2.drew fun e W' => ∃ e', e = .returned (.int .i64 e') ∧
              ((∃ i : Nat, e' = 171 ∧ hs p r = (i : Int) + 1 ∧ i < 20 ∧ ∃ Y', Rd w W' z hb (hb + 1) (2 * k) y (y + 1) p q r Y' f hs hs ct ct) ∨
              (e' = 0 ∧ hs p r = 0 ∧ ∃ Y' f', Rd w W' z hb (hb + 1) (2 * k) y (y + 1) p q r Y' f' (up2 hs p r ((j : Int) + 1)) hs (up1 ct j (ct j + 1)) ct))) := by
            refine (HR2.out.share hr HE.out.1 HE.out.2.1).mono ?_
            rintro e W' (⟨i, rfl, h1, h2, h3⟩ | ⟨rfl, h1, h2⟩)
            · exact ⟨171, rfl, Or.inl ⟨i, rfl, h1, h2, h3⟩⟩
            · exact ⟨0, rfl, Or.inr ⟨rfl, h1, h2⟩⟩
          have HSW : Hid (∀ W3 Y' f' hs' ct', Rd w W3 z hb (hb + 1) (2 * k) y (y + 1) p q r Y' f' hs' hs ct' ct → (W3.cell? ⟨y, 0, none⟩ = some (.int .i64 (p : Int)) ∧ W3.cell? ⟨y, 1, none⟩ = some (.int .i64 (q : Int)) ∧ W3.cell? ⟨y + 1, 1, none⟩ = some (.int .i64 (r : Int)) ∧ (Instr.lookup 68 (.map (some hb)) (.agg #[.int .i64 (p : Int), .int .i64 (q : Int)]) false).run Tryz.prog W3 = .ok (.int .i64 ((j : Int) + 1)) W3)) := fun W3 Y' f' hs' ct' K => ⟨K.k1.cell 0, K.k1.cell 1, K.k2.cell 1, by rw [← HE.out.2.2.2]; exact K.M.has p q hp hq⟩
          have HSD : Hid (W2.drew.cell? ⟨y, 0, none⟩ = some (.int .i64 (p : Int)) ∧ W2.drew.cell? ⟨y, 1, none⟩ = some (.int .i64 (q : Int)) ∧ W2.drew.cell? ⟨y + 1, 1, none⟩ = some (.int .i64 (r : Int)) ∧ (Instr.lookup 68 (.map (some hb)) (.agg #[.int .i64 (p : Int), .int .i64 (q : Int)]) false).run Tryz.prog W2.drew = .ok (.int .i64 ((j : Int) + 1)) W2.drew) := HSW.out _ _ _ _ _ HR2.out
          go_region_held3 (fun W => W.cell? ⟨y, 0, none⟩ = some (.int .i64 (p : Int)) ∧ W.cell? ⟨y, 1, none⟩ = some (.int .i64 (q : Int)) ∧ W.cell? ⟨y + 1, 1, none⟩ = some (.int .i64 (r : Int)) ∧ (Instr.lookup 68 (.map (some hb)) (.agg #[.int .i64 (p : Int), .int .i64 (q : Int)]) false).run Tryz.prog W = .ok (.int .i64 ((j : Int) + 1)) W)
            (first | exact HSD.out | exact HS3.out)
            ((go_at_call 26; refine CS.out.mono ?_; rintro e W3 ⟨e', rfl, hS⟩; have HS3 : Hid (W3.cell? ⟨y, 0, none⟩ = some (.int .i64 (p : Int)) ∧ W3.cell? ⟨y, 1, none⟩ = some (.int .i64 (q : Int)) ∧ W3.cell? ⟨y + 1, 1, none⟩ = some (.int .i64 (r : Int)) ∧ (Instr.lookup 68 (.map (some hb)) (.agg #[.int .i64 (p : Int), .int .i64 (q : Int)]) false).run Tryz.prog W3 = .ok (.int .i64 ((j : Int) + 1)) W3) := (by rcases hS with ⟨i, _, _, _, Y', K⟩ | ⟨_, _, Y', f', K⟩ <;> exact HSW.out _ _ _ _ _ K); have HS : Hid _ := hS; clear hS))
          clear c0 c1 d1 hlk hld HR2 CS HSD HS3
          rcases HS.out with ⟨i, rfl, e0, hj2, Y', K⟩ | ⟨rfl, e0, Y', f', K⟩
          · clear HS HSW
            have d0 : W3.cell? ⟨y + 1, 0, none⟩ = some (.int .i64 (p : Int)) := K.k2.cell 0
            have d1 : W3.cell? ⟨y + 1, 1, none⟩ = some (.int .i64 (r : Int)) := K.k2.cell 1
            have hlk := K.M.has p r hp hr
            rw [e0] at hlk
            clear e0
            have CK : Hid (Calls _ _ _ _ _) := K.kept
            clear K
            go_wp2_with fail
            refine CK.out.mono ?_
            rintro e W9 ⟨rfl, K9⟩
            have HL9 : Hid (Lp w z hb (hb + 1) (k + 1) W9) := K9.lp (by omega)
            clear CK K9
            go_wp2
            go_roundw
            case rel => exact ⟨k + 1, by omega, by omega, by go_num, HL9.out⟩
            case measure => simp [intOf]; omega
          · clear HS HSW
            have d0 : W3.cell? ⟨y + 1, 0, none⟩ = some (.int .i64 (p : Int)) := K.k2.cell 0
            have d1 : W3.cell? ⟨y + 1, 1, none⟩ = some (.int .i64 (r : Int)) := K.k2.cell 1
            have c0 : W3.cell? ⟨y, 0, none⟩ = some (.int .i64 (p : Int)) := K.k1.cell 0
            have c1 : W3.cell? ⟨y, 1, none⟩ = some (.int .i64 (q : Int)) := K.k1.cell 1
            have hlk := K.M.has p r hp hr
            rw [e0] at hlk
            have hld := (K.below (Below.refl _ _).drew).M.has p q hp hq
            rw [HE.out.2.2.2] at hld
            obtain ⟨W4, hst, K4⟩ := (K.below (Below.refl _ _).drew).sethas (by omega) p r hp hr ((j : Int) + 1)
            have a0 : W4.cell? ⟨y, 0, none⟩ = some (.int .i64 (p : Int)) := K4.k1.cell 0
            have a1 : W4.cell? ⟨y, 1, none⟩ = some (.int .i64 (q : Int)) := K4.k1.cell 1
            have hle := K4.M.has p q hp hq
            have hup : up2 hs p r ((j : Int) + 1) p q = (j : Int) + 1 := by
              unfold up2
              split
              · rfl
              · exact HE.out.2.2.2
            rw [hup] at hle
            have hlc := K4.M.cnt j (by omega)
            obtain ⟨W5, hst2, K5⟩ := K4.setcnt (by omega) j hj (ct j + 1)
            have H5 : Hid (_) := K5
            clear e0 K K4 hup K5
            go_wp2_with fail
            go_region_with fail
            all_goals
              have CK : Hid (Calls _ _ _ _ _) := H5.out.kept
              clear H5
              go_wp2_with fail
              refine CK.out.mono ?_
              rintro e W9 ⟨rfl, K9⟩
              have HL9 : Hid (Lp w z hb (hb + 1) (k + 1) W9) := K9.lp (by omega)
              clear CK K9
              go_wp2
              go_roundw
              case rel => exact ⟨k + 1, by omega, by omega, by go_num, HL9.out⟩
              case measure => simp [intOf]; omega
      · by_cases hz : hs p q = 0
        · have HL9 : Hid (Lp w z hb (hb + 1) (k + 1) ((wr.alloc (.cells #[.int .i64 (p : Int), .int .i64 (q : Int)] 72)).alloc (.cells #[.int .i64 (p : Int), .int .i64 (r : Int)] 72))) := hR.lp (by omega)
          have c0 : ((wr.alloc (.cells #[.int .i64 (p : Int), .int .i64 (q : Int)] 72)).alloc (.cells #[.int .i64 (p : Int), .int .i64 (r : Int)] 72)).cell? ⟨wr.heap.size, 0, none⟩ = some (.int .i64 (p : Int)) := hR.k1.cell 0
          have c1 : ((wr.alloc (.cells #[.int .i64 (p : Int), .int .i64 (q : Int)] 72)).alloc (.cells #[.int .i64 (p : Int), .int .i64 (r : Int)] 72)).cell? ⟨wr.heap.size, 1, none⟩ = some (.int .i64 (q : Int)) := hR.k1.cell 1
          have hlk := hR.M.has p q hp hq
          rw [hz] at hlk
          clear hR hz
          go_wp2
          go_roundw
          case rel => exact ⟨k + 1, by omega, by omega, by go_num, HL9.out⟩
          case measure => simp [intOf]; omega
        · obtain ⟨j, rc, e0, e1, e2, e3⟩ := hR.bk.some_ hz
          have hj := hR.T.ok.lt e1
          have c0 : ((wr.alloc (.cells #[.int .i64 (p : Int), .int .i64 (q : Int)] 72)).alloc (.cells #[.int .i64 (p : Int), .int .i64 (r : Int)] 72)).cell? ⟨wr.heap.size, 0, none⟩ = some (.int .i64 (p : Int)) := hR.k1.cell 0
          have c1 : ((wr.alloc (.cells #[.int .i64 (p : Int), .int .i64 (q : Int)] 72)).alloc (.cells #[.int .i64 (p : Int), .int .i64 (r : Int)] 72)).cell? ⟨wr.heap.size, 1, none⟩ = some (.int .i64 (q : Int)) := hR.k1.cell 1
          have d1 : ((wr.alloc (.cells #[.int .i64 (p : Int), .int .i64 (q : Int)] 72)).alloc (.cells #[.int .i64 (p : Int), .int .i64 (r : Int)] 72)).cell? ⟨wr.heap.size + 1, 1, none⟩ = some (.int .i64 (r : Int)) := hR.k2.cell 1
          have hlk := hR.M.has p q hp hq
          have hld : (Instr.lookup 68 (.map (some hb)) (.agg #[.int .i64 (p : Int), .int .i64 (q : Int)]) false).run Tryz.prog ((wr.alloc (.cells #[.int .i64 (p : Int), .int .i64 (q : Int)] 72)).alloc (.cells #[.int .i64 (p : Int), .int .i64 (r : Int)] 72)).drew = .ok (.int .i64 (hs p q)) ((wr.alloc (.cells #[.int .i64 (p : Int), .int .i64 (q : Int)] 72)).alloc (.cells #[.int .i64 (p : Int), .int .i64 (r : Int)] 72)).drew := (hR.below (Below.refl _ _).drew).M.has p q hp hq
          rw [e0] at hlk hld
          have HR2 : Hid (Rd w ((wr.alloc (.cells #[.int .i64 (p : Int), .int .i64 (q : Int)] 72)).alloc (.cells #[.int .i64 (p : Int), .int .i64 (r : Int)] 72)).drew z hb (hb + 1) (2 * k) wr.heap.size (wr.heap.size + 1) p q r Y f hs hs ct ct) := hR.below (Below.refl _ _).drew
          have hwr : IntKind.i64.wrap (j : Int) = (j : Int) := by rw [IntKind.wrap_i64]; omega
          obtain ⟨_, hct, hc1, hc2⟩ := hR.ctl e1
          have hcb : 1 ≤ ct j ∧ ct j ≤ 16 := by omega
          have hwr1 : IntKind.i64.wrap (ct j + 1) = ct j + 1 := by rw [IntKind.wrap_i64]; omega
          have hwr2 : IntKind.i64.wrap (ct j - 1) = ct j - 1 := by rw [IntKind.wrap_i64]; omega
          clear hct hc1 hc2
          have HE : Hid (f j = some rc ∧ rc.pg = p ∧ (q : Int) ∈ rc.ps ∧ hs p q = (j : Int) + 1) := ⟨e1, e2, e3, e0⟩
          clear hR hz e1 e2 e3 e0
          go_wp2_with fail
          generalize ((wr.alloc (.cells #[.int .i64 (p : Int), .int .i64 (q : Int)] 72)).alloc (.cells #[.int .i64 (p : Int), .int .i64 (r : Int)] 72)) = W2 at *
          generalize wr.heap.size = y at *
          have CS : Hid (Calls _ _ _ _ _) := HR2.out.leave HE.out.1 HE.out.2.1 HE.out.2.2.1
          have HSW : Hid (∀ W3 Y' f' hs' ct', Rd w W3 z hb (hb + 1) (2 * k) y (y + 1) p q r Y' f' hs' hs ct' ct → (W3.cell? ⟨y, 0, none⟩ = some (.int .i64 (p : Int)) ∧ W3.cell? ⟨y, 1, none⟩ = some (.int .i64 (q : Int)) ∧ W3.cell? ⟨y + 1, 1, none⟩ = some (.int .i64 (r : Int)) ∧ (Instr.lookup 68 (.map (some hb)) (.agg #[.int .i64 (p : Int), .int .i64 (q : Int)]) false).run Tryz.prog W3 = .ok (.int .i64 ((j : Int) + 1)) W3)) := fun W3 Y' f' hs' ct' K => ⟨K.k1.cell 0, K.k1.cell 1, K.k2.cell 1, by rw [← HE.out.2.2.2]; exact K.M.has p q hp hq⟩
          have HSD : Hid (W2.drew.cell? ⟨y, 0, none⟩ = some (.int .i64 (p : Int)) ∧ W2.drew.cell? ⟨y, 1, none⟩ = some (.int .i64 (q : Int)) ∧ W2.drew.cell? ⟨y + 1, 1, none⟩ = some (.int .i64 (r : Int)) ∧ (Instr.lookup 68 (.map (some hb)) (.agg #[.int .i64 (p : Int), .int .i64 (q : Int)]) false).run Tryz.prog W2.drew = .ok (.int .i64 ((j : Int) + 1)) W2.drew) := HSW.out _ _ _ _ _ HR2.out
          go_region_held3 (fun W => W.cell? ⟨y, 0, none⟩ = some (.int .i64 (p : Int)) ∧ W.cell? ⟨y, 1, none⟩ = some (.int .i64 (q : Int)) ∧ W.cell? ⟨y + 1, 1, none⟩ = some (.int .i64 (r : Int)) ∧ (Instr.lookup 68 (.map (some hb)) (.agg #[.int .i64 (p : Int), .int .i64 (q : Int)]) false).run Tryz.prog W = .ok (.int .i64 ((j : Int) + 1)) W)
            (first | exact HSD.out | exact HS3.out)
            ((go_at_call 27; refine CS.out.mono ?_; rintro e W3 ⟨rfl, hS⟩; have HS3 : Hid (W3.cell? ⟨y, 0, none⟩ = some (.int .i64 (p : Int)) ∧ W3.cell? ⟨y, 1, none⟩ = some (.int .i64 (q : Int)) ∧ W3.cell? ⟨y + 1, 1, none⟩ = some (.int .i64 (r : Int)) ∧ (Instr.lookup 68 (.map (some hb)) (.agg #[.int .i64 (p : Int), .int .i64 (q : Int)]) false).run Tryz.prog W3 = .ok (.int .i64 ((j : Int) + 1)) W3) := (by obtain ⟨Y', f', K⟩ := hS; exact HSW.out _ _ _ _ _ K); have HS : Hid _ := hS; clear hS))
          clear c0 c1 d1 hlk hld HR2 CS HSD HS3 HSW
          obtain ⟨Y', f', K⟩ := HS.out
          clear HS
          have c0 : W3.cell? ⟨y, 0, none⟩ = some (.int .i64 (p : Int)) := K.k1.cell 0
          have c1 : W3.cell? ⟨y, 1, none⟩ = some (.int .i64 (q : Int)) := K.k1.cell 1
          have hlk := K.M.has p q hp hq
          rw [HE.out.2.2.2] at hlk
          have hlc := K.M.cnt j (by omega)
          obtain ⟨W4, hst, K4⟩ := K.setcnt (by omega) j hj (ct j - 1)
          have a0 : W4.cell? ⟨y, 0, none⟩ = some (.int .i64 (p : Int)) := K4.k1.cell 0
          have a1 : W4.cell? ⟨y, 1, none⟩ = some (.int .i64 (q : Int)) := K4.k1.cell 1
          have hle := K4.M.has p q hp hq
          rw [HE.out.2.2.2] at hle
          have hld := K4.M.cnt j (by omega)
          rw [show up1 ct j (ct j - 1) j = ct j - 1 from if_pos rfl] at hld
          obtain ⟨W5, hst2, K5⟩ := K4.sethas (by omega) p q hp hq 0
          clear K K4
          have CK : Hid (Calls _ _ _ _ _) := K5.kept
          clear K5
          go_wp2_with fail
          refine CK.out.mono ?_
          rintro e W9 ⟨rfl, K9⟩
          have HL9 : Hid (Lp w z hb (hb + 1) (k + 1) W9) := K9.lp (by omega)
          clear CK K9
          go_wp2
          go_roundw
          case rel => exact ⟨k + 1, by omega, by omega, by go_num, HL9.out⟩
          case measure => simp [intOf]; omega
    · go_wp2
      go_ret
      exact ⟨rfl, HL1.out.be⟩
    · obtain rfl : k = 200 := by omega
      by_cases hlt : 200 < l
      · go_wp2
        go_ret
        exact ⟨rfl, HL1.out.be⟩
      · go_wp2
        go_ret
        exact ⟨rfl, HL1.out.be⟩
end Go.Proofs.YtkbpnkjjmipjfaaGreat.Az
