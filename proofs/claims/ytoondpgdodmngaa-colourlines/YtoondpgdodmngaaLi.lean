/- ColourLines walked: a frame is the one of its colour and index; its lines have sets of its colour, all unlike; two frames share a set just if they have one colour. -/
import Derived.Test.YtoondpgdodmngaaLw
namespace Go.Proofs.Ytoondpgdodmngaa
open Go.ChangeShapes Go.WideShapes Go.ChangeAt Go.RowKit
set_option linter.unusedVariables false

/-- The sets of the first k lines of a frame of the colour c. -/
def ln (c : Int) (k : Nat) : List Int := (List.range k).map fun (j : Nat) => c * 16 + (j : Int)
theorem ln_len (c : Int) (k : Nat) : (ln c k).length = k := by simp [ln]
theorem ln_succ (c : Int) (k : Nat) : ln c (k + 1) = ln c k ++ [c * 16 + (k : Int)] := by simp [ln, List.range_succ]
theorem ln_nth (c : Int) (k j : Nat) (h : j < k) : nth (ln c k) j = c * 16 + (j : Int) := by simp [nth, ln, h, List.getD_eq_getElem?_getD]
theorem st_line (x n : Int) (k : Nat) (hk : k < 16) : st (256 * x + 16 * (k : Int)) n = x % n * 16 + (k : Int) := by
  have e1 : (256 * x + 16 * (k : Int)) / 256 = x := by omega
  have e2 : (256 * x + 16 * (k : Int)) % 256 / 16 = (k : Int) := by omega
  unfold st
  rw [e1, e2]
theorem st_line' (x n : Int) (k : Nat) (hk : k < 16) : st (256 * x + 16 * (k : Int) + 15) n = x % n * 16 + (k : Int) := by
  have e1 : (256 * x + 16 * (k : Int) + 15) / 256 = x := by omega
  have e2 : (256 * x + 16 * (k : Int) + 15) % 256 / 16 = (k : Int) := by omega
  unfold st
  rw [e1, e2]
theorem lines_out (x y n : Int) (h : ¬ ((0 ≤ x ∧ x ≤ 4095 ∧ 1 ≤ n ∧ n ≤ 16) ∧ (0 ≤ y ∧ y ≤ 4095 ∧ 1 ≤ n ∧ n ≤ 16))) (w : World) : Calls Try.prog 6 #[.int .i64 x, .int .i64 y, .int .i64 n] w fun e w' => e = .returned (.bool true) ∧ Below w.heap.size w w' := by
  obtain ⟨v1, e1, v2, e2, A1, A2, HE⟩ : ∃ v e v' e', (∀ w, Hid (Calls Try.prog 9 #[.int .i64 x, .int .i64 n] w (Two v e w))) ∧ (∀ w, Hid (Calls Try.prog 9 #[.int .i64 y, .int .i64 n] w (Two v' e' w))) ∧ ((e == 0) = false ∨ (e == 0) = true ∧ (e' == 0) = false) := by
    by_cases h1 : 0 ≤ x ∧ x ≤ 4095 ∧ 1 ≤ n ∧ n ≤ 16
    · refine ⟨_, _, _, _, fun w => Of_ok x n h1.1 h1.2.1 h1.2.2.1 h1.2.2.2 w, fun w => Of_no y n (fun q => h ⟨h1, q⟩) w, Or.inr ⟨rfl, rfl⟩⟩
    · by_cases h2 : 0 ≤ y ∧ y ≤ 4095 ∧ 1 ≤ n ∧ n ≤ 16
      · exact ⟨_, _, _, _, fun w => Of_no x n h1 w, fun w => Of_ok y n h2.1 h2.2.1 h2.2.2.1 h2.2.2.2 w, Or.inl rfl⟩
      · exact ⟨_, _, _, _, fun w => Of_no x n h1 w, fun w => Of_no y n h2 w, Or.inl rfl⟩
  clear h
  have HE' : Hid _ := HE
  clear HE
  go_enter Try.func6, Try.ntmps6
  go_wp2_with fail
  refine (works_any _).mono ?_
  rintro e w1 ⟨rfl, hb⟩
  have HB : Hid (Below w.heap.size w w1) := hb
  clear hb
  go_wp2_with fail
  refine (A1 _).out.mono ?_
  rintro e w2 ⟨rfl, h1⟩
  obtain rfl := h1.symm
  go_wp2_with fail
  refine (A2 _).out.mono ?_
  rintro e w2 ⟨rfl, h1⟩
  obtain rfl := h1.symm
  clear A1 A2
  rcases HE'.out with k1 | ⟨k1, k2⟩
  · have k3 : (e1 != 0) = true := by rw [bne, k1]; rfl
    clear HE'
    go_wp2
    go_ret
    exact ⟨rfl, HB.out⟩
  · have k3 : (e1 != 0) = false := by rw [bne, k1]; rfl
    have k4 : (e2 != 0) = true := by rw [bne, k2]; rfl
    clear HE'
    go_wp2
    go_ret
    exact ⟨rfl, HB.out⟩
theorem fo_self (x n : Int) (h0 : 0 ≤ x) (h1 : x ≤ 4095) (h2 : 1 ≤ n) (h3 : n ≤ 16) : fo (x % n) (x / n) n ∧ x / n * n + x % n = x := fo_of h2 h3 h0 h1 rfl rfl
set_option maxRecDepth 20000 in
set_option maxHeartbeats 1000000 in
theorem lines_in (x y n : Int) (x0 : 0 ≤ x) (x1 : x ≤ 4095) (n0 : 1 ≤ n) (n1 : n ≤ 16) (y0 : 0 ≤ y) (y1 : y ≤ 4095) (w : World) : Calls Try.prog 6 #[.int .i64 x, .int .i64 y, .int .i64 n] w fun e w' => e = .returned (.bool true) ∧ Below w.heap.size w w' := by
  have A1 : Hid (∀ w, Calls Try.prog 9 #[.int .i64 x, .int .i64 n] w (Two (x % n) 0 w)) := fun w => Of_ok x n x0 x1 n0 n1 w
  have A2 : Hid (∀ w, Calls Try.prog 9 #[.int .i64 y, .int .i64 n] w (Two (y % n) 0 w)) := fun w => Of_ok y n y0 y1 n0 n1 w
  have A3 : Hid (∀ w, Calls Try.prog 11 #[.int .i64 x, .int .i64 n] w (Two (x / n) 0 w)) := fun w => Index_ok x n x0 x1 n0 n1 w
  have A4 : Hid (∀ w, Calls Try.prog 13 #[.int .i64 (x % n), .int .i64 (x / n), .int .i64 n] w (Two x 0 w)) := fun w => by
    obtain ⟨q1, q2⟩ := fo_self x n x0 x1 n0 n1
    have := Frame_ok (x % n) (x / n) n q1 w
    rw [q2] at this
    exact this
  have A5 : Hid (∀ (k : Nat) w, k < 16 → Calls Try.prog 21 #[.int .u64 (256 * x + 16 * (k : Int)), .int .i64 n] w (Two (x % n * 16 + (k : Int)) 0 w)) := fun k w hk => by
    have := Set_ok (256 * x + 16 * (k : Int)) n (by omega) (by omega) n0 n1 w
    rw [st_line x n k hk] at this
    exact this
  have A6 : Hid (∀ (k : Nat) w, k < 16 → Calls Try.prog 21 #[.int .u64 (256 * y + 16 * (k : Int) + 15), .int .i64 n] w (Two (y % n * 16 + (k : Int)) 0 w)) := fun k w hk => by
    have := Set_ok (256 * y + 16 * (k : Int) + 15) n (by omega) (by omega) n0 n1 w
    rw [st_line' y n k hk] at this
    exact this
  have c0 := Int.emod_nonneg x (show n ≠ 0 by omega)
  have c1 := Int.emod_lt_of_pos x (show 0 < n by omega)
  have d0 := Int.emod_nonneg y (show n ≠ 0 by omega)
  have d1 := Int.emod_lt_of_pos y (show 0 < n by omega)
  have A7 : Hid (∀ (k : Nat) w, k < 16 → Calls Try.prog 23 #[.int .i64 (x % n * 16 + (k : Int)), .int .i64 n] w (Two (x % n) 0 w)) := fun k w hk => by
    have := Owner_ok (x % n * 16 + (k : Int)) n n0 n1 (by omega) (by omega) w
    rw [show (x % n * 16 + (k : Int)) / 16 = x % n by omega] at this
    exact this
  generalize x % n = c at *
  generalize y % n = d at *
  generalize x / n = i at *
  obtain ⟨bb, hbb⟩ : ∃ b, (c == d) = b := ⟨_, rfl⟩
  obtain ⟨i0, hi, hz0, hz1, hz2⟩ := info_parts Try.infoI
  go_enter Try.func6, Try.ntmps6
  go_wp2_with fail
  refine (works_any _).mono ?_
  rintro e w1 ⟨rfl, hb⟩
  have HB : Hid (Below w.heap.size w w1) := hb
  have HS : Hid (w.heap.size ≤ w1.heap.size) := hb.size
  clear hb
  go_wp2_with fail
  refine (A1.out _).mono ?_
  rintro e w2 ⟨rfl, h1⟩
  obtain rfl := h1.symm
  go_wp2_with fail
  refine (A2.out _).mono ?_
  rintro e w2 ⟨rfl, h1⟩
  obtain rfl := h1.symm
  go_wp2_with fail
  refine (A3.out _).mono ?_
  rintro e w2 ⟨rfl, h1⟩
  obtain rfl := h1.symm
  go_wp2_with fail
  refine (A4.out _).mono ?_
  rintro e w2 ⟨rfl, h1⟩
  obtain rfl := h1.symm
  clear A1 A2 A3 A4
  go_wp2_with fail
  go_loopw [13, 14, 15] (fun v s q wr => ∃ (k : Nat) (vv : Value), vv = v ∧ k ≤ 16 ∧ q = .int .i64 k ∧ s = .bool (decide (0 < k) && bb) ∧ Is wr w1.heap.size v (ln c k) ∧ Below w1.heap.size w1 wr) (fun _ _ q _ => 16 - (intOf q).toNat)
  case atStart => exact ⟨0, _, rfl, by omega, rfl, rfl, Is.nil _ _, Below.refl _ _⟩
  case round =>
    obtain ⟨k, v, hvv, hk, rfl, rfl, hI, hb⟩ := hrel
    subst hvv
    have HL : Hid (Below w1.heap.size w1 wr) := hb
    have HI : Hid (Is wr w1.heap.size v (ln c k)) := hI
    clear hb hI
    by_cases hlt : k < 16
    · have C5 : Hid (∀ w, Calls Try.prog 21 #[.int .u64 (256 * x + 16 * (k : Int)), .int .i64 n] w (Two (c * 16 + (k : Int)) 0 w)) := fun w => A5.out k w hlt
      have C6 : Hid (∀ w, Calls Try.prog 21 #[.int .u64 (256 * y + 16 * (k : Int) + 15), .int .i64 n] w (Two (d * 16 + (k : Int)) 0 w)) := fun w => A6.out k w hlt
      have C7 : Hid (∀ w, Calls Try.prog 23 #[.int .i64 (c * 16 + (k : Int)), .int .i64 n] w (Two c 0 w)) := fun w => A7.out k w hlt
      have hst : ((c * 16 + (k : Int)) == (d * 16 + (k : Int))) = bb := by
        rw [← hbb, Bool.eq_iff_iff]
        simp only [beq_iff_eq]
        omega
      have HI' : Hid (wr.ownsRow w1.heap.size 3 1 v k (enI (ln c k))) := by have := HI.out; unfold Is at this; rw [ln_len] at this; exact this
      have HN : Hid (ln c (k + 1) = ln c k ++ [c * 16 + (k : Int)]) := ln_succ c k
      have HX : Hid (∀ j, j < k → ((c * 16 + (j : Int)) == (c * 16 + (k : Int))) = false) := fun j hj => by simp; omega
      have s0 : 0 ≤ c * 16 + (k : Int) := by omega
      have s1 : c * 16 + (k : Int) < 256 := by omega
      have hcc : (c == c) = true := by simp
      obtain ⟨ao, cp, hv, hcp, hcm, hq⟩ := HI.out.form
      rw [ln_len] at hv hcp hq
      subst hv
      unfold maxLen at hcm
      have HQ : Hid (ln c k = [] ∧ ao = none ∨ ∃ g, ao = some ⟨g, 0, none⟩ ∧ w1.heap.size ≤ g ∧ g < wr.heap.size ∧ ∀ i, i < k → wr.cell? ⟨g, i, none⟩ = some (.int .i64 (nth (ln c k) i)) ∧ wr.frozen? ⟨g, i, none⟩ = false) := hq
      clear hq
      go_wp2_with fail
      refine (C5.out _).mono ?_
      rintro e w2 ⟨rfl, h1⟩
      obtain rfl := h1.symm
      go_wp2_with fail
      refine (C6.out _).mono ?_
      rintro e w2 ⟨rfl, h1⟩
      obtain rfl := h1.symm
      clear C5 C6
      generalize c * 16 + (k : Int) = S at *
      generalize d * 16 + (k : Int) = T at *
      go_wp2_with fail
      refine (C7.out _).mono ?_
      rintro e w2 ⟨rfl, h1⟩
      obtain rfl := h1.symm
      clear C7
      go_wp2_with fail
      go_loop [22] (fun q => ∃ t : Nat, t ≤ k ∧ q = .int .i64 t) (fun q => k - (intOf q).toNat)
      case atStart => exact ⟨0, by omega, rfl⟩
      case round =>
        obtain ⟨t, ht, rfl⟩ := hrel
        by_cases hlt2 : t < k
        · have hx := HX.out t hlt2
          rcases HQ.out with ⟨q, _⟩ | ⟨g, rfl, _, _, hc⟩
          · exfalso
            have := ln_len c k
            rw [q] at this
            simp at this
            omega
          · have hd := (hc t hlt2).1
            rw [ln_nth c k t hlt2] at hd
            generalize c * 16 + (t : Int) = U at *
            clear hc
            go_wp2
            go_round
            case rel => exact ⟨t + 1, by omega, by go_num⟩
            case measure => simp [intOf]; omega
        · obtain rfl : t = k := by omega
          have hsz := HL.out.size
          clear HQ HX
          cases hsb : (decide (0 < t) && bb)
          · go_wp2_with (at_builtin; refine wpList_append_own _ rfl (.tmp 127) (.tmp 129) 28 rfl w1.heap.size 3 i0 _ 1 8 Try.underlying28 hi hz0 hz1 hz2 rfl (by decide) _ t (enI (ln c t)) rfl (HI'.out.alloc _) ⟨wr.heap.size, 0, none⟩ 1 1 [.int .i64 S] rfl rfl (cell_one_new _ _ _) (by intro u hu; simp at hu; subst hu; rfl) (by unfold maxLen; omega) (by omega) (by simp; omega) ?_; intro v2 w2 o2 gr2 nil2)
            go_roundw
            case rel =>
              refine ⟨t + 1, _, rfl, by omega, by go_num, ?_, ?_, (HL.out.alloc hsz _).grown gr2 (by simp; omega) (fun t ht => (HI'.out.lt t ht).1)⟩
              · simp
              · rw [HN.out]
                unfold Is
                rw [enI_snoc, List.length_append, ln_len]
                exact o2
            case measure => simp [intOf]; omega
          · have hbt : bb = true := by simp at hsb; exact hsb.2
            have HT : Hid (bb = true) := hbt
            clear hbt
            go_wp2_with (at_builtin; refine wpList_append_own _ rfl (.tmp 127) (.tmp 129) 28 rfl w1.heap.size 3 i0 _ 1 8 Try.underlying28 hi hz0 hz1 hz2 rfl (by decide) _ t (enI (ln c t)) rfl (HI'.out.alloc _) ⟨wr.heap.size, 0, none⟩ 1 1 [.int .i64 S] rfl rfl (cell_one_new _ _ _) (by intro u hu; simp at hu; subst hu; rfl) (by unfold maxLen; omega) (by omega) (by simp; omega) ?_; intro v2 w2 o2 gr2 nil2)
            go_roundw
            case rel =>
              refine ⟨t + 1, _, rfl, by omega, by go_num, by rw [HT.out]; simp, ?_, (HL.out.alloc hsz _).grown gr2 (by simp; omega) (fun t ht => (HI'.out.lt t ht).1)⟩
              rw [HN.out]
              unfold Is
              rw [enI_snoc, List.length_append, ln_len]
              exact o2
            case measure => simp [intOf]; omega
    · obtain rfl : k = 16 := by omega
      clear A5 A6 A7
      have HF : Hid (Below w.heap.size w wr) := HB.out.trans (HL.out.mono HS.out)
      cases bb
      · go_wp2
        go_ret
        exact ⟨rfl, HF.out⟩
      · go_wp2
        go_ret
        exact ⟨rfl, HF.out⟩
theorem lines_any (x y n : Int) (w : World) : Calls Try.prog 6 #[.int .i64 x, .int .i64 y, .int .i64 n] w fun e w' => e = .returned (.bool true) ∧ Below w.heap.size w w' := by
  by_cases h : (0 ≤ x ∧ x ≤ 4095 ∧ 1 ≤ n ∧ n ≤ 16) ∧ (0 ≤ y ∧ y ≤ 4095 ∧ 1 ≤ n ∧ n ≤ 16)
  · exact lines_in x y n h.1.1 h.1.2.1 h.1.2.2.1 h.1.2.2.2 h.2.1 h.2.2.1 w
  · exact lines_out x y n h w
end Go.Proofs.Ytoondpgdodmngaa
