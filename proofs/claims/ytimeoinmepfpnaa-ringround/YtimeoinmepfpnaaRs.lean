/- RingRound: round after round, for every input; no condition. -/
import Derived.Test.YtimeoinmepfpnaaRp
namespace Go.Proofs.Ytimeoinmepfpnaa.Ri
open Go.ChangeShapes Go.WideShapes Go.ChangeAt Go.RowKit
set_option linter.unusedVariables false
set_option maxRecDepth 8192

theorem lk_two {n k i : Nat} {pin : Int} (h : (0 < i ∧ ((i : Int) - 1 = pin)) ∨ (i = 0 ∧ 0 < k ∧ pin = (n : Int) - 1)) : lk n pin k i = 2 := by unfold lk; rw [if_pos h]
theorem lk_one {n k i : Nat} {pin : Int} (h : ¬ ((0 < i ∧ ((i : Int) - 1 = pin)) ∨ (i = 0 ∧ 0 < k ∧ pin = (n : Int) - 1))) : lk n pin k i = 1 := by unfold lk; rw [if_neg h]
theorem hd_end {n k : Nat} {pin : Int} (h : pin ≠ (n : Int) - 1) : hd n pin k 0 = 0 := by
  unfold hd
  rw [if_neg (by omega), if_neg (fun z => h z.2.2), Nat.zero_mod]
/-- Behind the rounds: the row with one more, told from the beginning on if the last one was not pinned; i were told. -/
structure Fr (n : Nat) (pin : Int) (i : Nat) (L : List Int) : Prop where
  ok : Ok L
  len : L.length = n + 1
  is : pin ≠ (n : Int) - 1 → L = rt (sg 0 (n + 1)) i
theorem Fr.first {n t : Nat} {pin : Int} (h2 : 2 ≤ n) (hn : n ≤ 4000) (ht : pin ≠ (n : Int) - 1 → t % n = 0) : Fr n pin 0 (rt (sg 0 n) t ++ [(n : Int)]) ∧ AdS (rt (sg 0 n) t) (n : Int) (rt (sg 0 n) t ++ [(n : Int)]) 0 := by
  have hp := rt_perm (sg 0 n) t
  have ha : AdS (rt (sg 0 n) t) (n : Int) (rt (sg 0 n) t ++ [(n : Int)]) 0 := Or.inr (Or.inr (Or.inr ⟨by omega, fun q => by have := sg_mem.1 (hp.mem_iff.1 q); omega, by rw [rt_len, sg_len]; omega, rfl, rfl⟩))
  refine ⟨⟨((sg_ok (by omega)).perm hp).add (by omega) ha, by rw [List.length_append, rt_len, sg_len]; rfl, fun q => ?_⟩, ha⟩
  rw [round_more h2 (ht q)]
  rfl
theorem Fr.next {n i : Nat} {pin : Int} {L : List Int} (h2 : 2 ≤ n) (h : Fr n pin i L) (hi : i ≤ n) : ∃ x : Int, nxt nev (-1) L () = (some x, 1, rt L 1, ()) ∧ Fr n pin (i + 1) (rt L 1) ∧ (pin ≠ (n : Int) - 1 → x = i) := by
  have hl : L ≠ [] := fun q => by have := h.len; rw [q] at this; simp at this
  obtain ⟨x, hx⟩ := any_step h.ok hl
  refine ⟨x, hx, ⟨h.ok.perm (rt_perm L 1), by rw [rt_len]; exact h.len, fun q => ?_⟩, fun q => ?_⟩
  · rw [h.is q, ← rt_add]
  · have := one_step (n := n + 1) (i := i) (by omega) (by omega)
    rw [← h.is q, hx] at this
    simpa using congrArg (fun z => z.1) this
set_option maxHeartbeats 1500000 in
theorem round_ok {W0 : World} {n pin0 rn : Int} (hn0 : -9223372036854775808 ≤ n) (hn1 : n < 9223372036854775808) (hp0 : -9223372036854775808 ≤ pin0) (hp1 : pin0 < 9223372036854775808) (hr0 : -9223372036854775808 ≤ rn) (hr1 : rn < 9223372036854775808) :
    Calls Try.prog 7 #[.int .i64 n, .int .i64 pin0, .int .i64 rn] W0 fun e w' => e = .returned (.bool true) ∧ Below W0.heap.size W0 w' := by
  have CW := works_ok W0
  have C1 : Hid (∀ w, Calls Try.prog 17 #[.int .i64 n, .int .i64 20] w fun e w' => e = .returned (.int .i64 (n % 20)) ∧ w' = w) := fun w => Within_any n 20 (by omega) (by omega) hn0 hn1 w
  have C3 : Hid (∀ w, Calls Try.prog 17 #[.int .i64 rn, .int .i64 4] w fun e w' => e = .returned (.int .i64 (rn % 4)) ∧ w' = w) := fun w => Within_any rn 4 (by omega) (by omega) hr0 hr1 w
  have r1 : 0 ≤ n % 20 ∧ n % 20 < 20 := ⟨Int.emod_nonneg _ (by omega), Int.emod_lt_of_pos _ (by omega)⟩
  have r3 : 0 ≤ rn % 4 ∧ rn % 4 < 4 := ⟨Int.emod_nonneg _ (by omega), Int.emod_lt_of_pos _ (by omega)⟩
  generalize n % 20 = a at *
  generalize rn % 4 = b at *
  obtain ⟨N, hN⟩ : ∃ N : Nat, 2 + a = (N : Int) := ⟨(2 + a).toNat, by omega⟩
  obtain ⟨K, hK⟩ : ∃ K : Nat, 1 + b = (K : Int) := ⟨(1 + b).toNat, by omega⟩
  have hNN : 2 ≤ N ∧ N ≤ 21 := by omega
  have C2 : Hid (∀ w, Calls Try.prog 17 #[.int .i64 pin0, .int .i64 ((N : Int) + 3)] w fun e w' => e = .returned (.int .i64 (pin0 % ((N : Int) + 3))) ∧ w' = w) := fun w => Within_any pin0 ((N : Int) + 3) (by omega) (by omega) hp0 hp1 w
  have r2 : 0 ≤ pin0 % ((N : Int) + 3) ∧ pin0 % ((N : Int) + 3) < (N : Int) + 3 := ⟨Int.emod_nonneg _ (by omega), Int.emod_lt_of_pos _ (by omega)⟩
  generalize pin0 % ((N : Int) + 3) = c at *
  obtain ⟨pin, hpin⟩ : ∃ pin : Int, c - 2 = pin := ⟨_, rfl⟩
  have hKK : 1 ≤ K ∧ K ≤ 4 := by omega
  have hpr : -2 ≤ pin ∧ pin ≤ N := by omega
  have e1 : IntKind.i64.wrap (2 + a) = (N : Int) := by rw [hN]; simp (disch := omega) only [IntWalk.i64_in]
  have e2 : IntKind.i64.wrap (c - 2) = pin := by rw [hpin]; simp (disch := omega) only [IntWalk.i64_in]
  have e3 : IntKind.i64.wrap (1 + b) = (K : Int) := by rw [hK]; simp (disch := omega) only [IntWalk.i64_in]
  clear hn0 hn1 hp0 hp1 hr0 hr1
  go_enter Try.func7, Try.ntmps7
  go_wp2_with fail
  refine CW.mono ?_
  rintro e w1 ⟨rfl, b1⟩
  have H1 : Hid (Below W0.heap.size W0 w1) := b1
  clear CW b1
  go_wp2_with fail
  refine (C1.out _).mono ?_
  rintro e w' ⟨rfl, hw⟩
  obtain rfl := hw.symm
  go_wp2_with fail
  refine (C2.out _).mono ?_
  rintro e w' ⟨rfl, hw⟩
  obtain rfl := hw.symm
  go_wp2_with fail
  refine (C3.out _).mono ?_
  rintro e w' ⟨rfl, hw⟩
  obtain rfl := hw.symm
  clear C1 C2 C3
  have NW := New_ok w1
  go_wp2_with fail
  refine NW.mono ?_
  rintro e w2 ⟨rfl, q2, b2⟩
  obtain ⟨p, hp⟩ : ∃ p, p = w1.heap.size + 1 := ⟨_, rfl⟩
  obtain ⟨g0, hg0⟩ : ∃ g, g = w1.heap.size := ⟨_, rfl⟩
  rw [← hp, ← hg0] at q2
  rw [← hp]
  have hbp : W0.heap.size ≤ p ∧ W0.heap.size ≤ g0 := by have := H1.out.size; omega
  have H2 : Hid (Rx w2 p g0 (sg 0 0) ∧ Below W0.heap.size W0 w2) := ⟨⟨[], 0, q2, rfl⟩, bs H1.out b2⟩
  clear NW b2 q2 hp hg0 H1
  go_wp2_with fail
  go_loopw [8] (fun ti wr => ∃ (k g : Nat), ti = .int .i64 (k : Nat) ∧ k ≤ N ∧ Rx wr p g (sg 0 k) ∧ Below W0.heap.size W0 wr ∧ W0.heap.size ≤ g) (fun ti _ => N - (intOf ti).toNat)
  case atStart => exact ⟨0, g0, rfl, by omega, H2.out.1, H2.out.2, hbp.2⟩
  case round =>
    obtain ⟨k, g, rfl, hk, hrx, hbel, hgb⟩ := hrel
    have HB : Hid (Below W0.heap.size W0 wr) := hbel
    have hbs := hbel.size
    clear H2 hbel
    by_cases hlt : k < N
    · have CA : Hid (Calls _ _ _ _ _) := Add_is hrx (by omega) (sg_add (n := k) (by omega))
      clear hrx
      go_wp2_with fail
      refine CA.out.mono ?_
      rintro e w3 ⟨rfl, t3⟩
      have HT : Hid (Tn wr p g (sg 0 (k + 1)) w3) := t3
      clear t3 CA
      go_wp2
      go_roundw
      case rel =>
        obtain ⟨g', x1, x2, x3, _⟩ := HT.out.adm (B := W0.heap.size) hbp.1 hgb hbs
        exact ⟨k + 1, g', by go_num, by omega, x1, HB.out.trans x2, x3⟩
      case measure => simp [intOf]; omega
    · obtain rfl : k = N := by omega
      have HX : Hid (Rx wr p g (sg 0 k) ∧ Below W0.heap.size W0 wr) := ⟨hrx, HB.out⟩
      clear hrx HB hbs
      rename_i wr0
      go_wp2_with fail
      go_loopw [9] (fun ti wr => ∃ (q t : Nat), ti = .int .i64 (q : Nat) ∧ q ≤ K ∧ Rx wr p g (rt (sg 0 k) t) ∧ t % k = hd k pin q 0 ∧ Below W0.heap.size W0 wr) (fun ti _ => K - (intOf ti).toNat)
      case atStart => exact ⟨0, 0, rfl, by omega, HX.out.1, by rw [hd_zero, Nat.zero_mod], HX.out.2⟩
      case round =>
        obtain ⟨q, t, rfl, hq, hrx, ht, hbel⟩ := hrel
        clear HX
        have HY : Hid (Rx wr p g (rt (sg 0 k) t) ∧ t % k = hd k pin q 0 ∧ Below W0.heap.size W0 wr) := ⟨hrx, ht, hbel⟩
        clear hrx ht hbel
        by_cases hqK : q < K
        · rename_i wr1
          go_wp2_with fail
          go_loopw [10] (fun ti wr => ∃ (i t : Nat), ti = .int .i64 (i : Nat) ∧ i ≤ k ∧ Rx wr p g (rt (sg 0 k) t) ∧ t % k = hd k pin q i ∧ Below W0.heap.size W0 wr) (fun ti _ => k - (intOf ti).toNat)
          case atStart => exact ⟨0, t, rfl, by omega, HY.out⟩
          case round =>
            clear HY
            obtain ⟨i, t', rfl, hi, hrx, ht, hbel⟩ := hrel
            have HZ : Hid (Rx wr p g (rt (sg 0 k) t') ∧ t' % k = hd k pin q i ∧ Below W0.heap.size W0 wr) := ⟨hrx, ht, hbel⟩
            by_cases hik : i < k
            · by_cases hip : (i : Int) = pin
              · clear hrx ht hbel
                go_wp2
                go_roundw
                case rel => exact ⟨i + 1, t', (by first | go_num | (congr 1; omega)), by omega, HZ.out.1, by rw [HZ.out.2.1, hd_skip (by omega) hik hip], HZ.out.2.2⟩
                case measure => simp [intOf]; omega
              · obtain ⟨hs, ht2⟩ := round_step (n := k) (pin := pin) (k := q) (i := i) (t := t') (by omega) hik hip ht
                have CN0 := never_some hrx hs
                have HT2 : Hid ((t' + lk k pin q i) % k = hd k pin q (i + 1)) := ht2
                clear hrx ht hbel hs ht2
                have cases5 : (0 < i ∧ ((i : Int) - 1 = pin)) ∨ (i = 0 ∧ 0 < q ∧ pin = (k : Int) - 1) ∨ (i = 0 ∧ q = 0) ∨ (i = 0 ∧ 0 < q ∧ pin ≠ (k : Int) - 1) ∨ (0 < i ∧ (i : Int) - 1 ≠ pin) := by omega
                have fin : ∀ v : Nat, lk k pin q i = v → Hid (Calls Try.prog 18 #[.pointer (some ⟨p, 0, none⟩), .int .i64 pin, .func (.func 23) #[] #[]] wr fun e w' => e = .returned (.tuple #[.int .i64 i, .int .i64 (v : Nat), .int .i64 0]) ∧ Rx w' p g (rt (sg 0 k) (t' + v)) ∧ Ch (One p) wr w') ∧ Hid ((t' + v) % k = hd k pin q (i + 1)) := fun v hv => by
                  rw [hv] at CN0 HT2
                  exact ⟨CN0, HT2⟩
                clear CN0 HT2
                rcases cases5 with ⟨d1, d2⟩ | ⟨d1, d2, d3⟩ | ⟨d1, d2⟩ | ⟨d1, d2, d3⟩ | ⟨d1, d2⟩
                · obtain ⟨CN0, HT⟩ := fin 2 (lk_two (Or.inl ⟨d1, d2⟩))
                  have CN : Hid (Calls Try.prog 18 #[.pointer (some ⟨p, 0, none⟩), .int .i64 pin, .func (.func 23) #[] #[]] wr fun e w' => e = .returned (.tuple #[.int .i64 i, .int .i64 2, .int .i64 0]) ∧ Rx w' p g (rt (sg 0 k) (t' + 2)) ∧ Ch (One p) wr w') := CN0
                  clear CN0 fin
                  go_wp2_with fail
                  refine CN.out.mono ?_
                  rintro e w4 ⟨rfl, x4, c4⟩
                  have H4 : Hid (Rx w4 p g (rt (sg 0 k) (t' + 2)) ∧ Below W0.heap.size W0 w4) := ⟨x4, HZ.out.2.2.trans (c4.to HZ.out.2.2.size (fun y q => by cases q; exact hbp.1))⟩
                  clear x4 c4 CN HZ
                  go_wp2
                  go_roundw
                  case rel => exact ⟨i + 1, t' + 2, by go_num, by omega, H4.out.1, HT.out, H4.out.2⟩
                  case measure => simp [intOf]; omega
                · subst d1
                  obtain ⟨CN0, HT⟩ := fin 2 (lk_two (Or.inr ⟨rfl, d2, d3⟩))
                  have d4 := d3.symm
                  clear d3
                  have CN : Hid (Calls Try.prog 18 #[.pointer (some ⟨p, 0, none⟩), .int .i64 pin, .func (.func 23) #[] #[]] wr fun e w' => e = .returned (.tuple #[.int .i64 0, .int .i64 2, .int .i64 0]) ∧ Rx w' p g (rt (sg 0 k) (t' + 2)) ∧ Ch (One p) wr w') := CN0
                  clear CN0 fin
                  go_wp2_with fail
                  refine CN.out.mono ?_
                  rintro e w4 ⟨rfl, x4, c4⟩
                  have H4 : Hid (Rx w4 p g (rt (sg 0 k) (t' + 2)) ∧ Below W0.heap.size W0 w4) := ⟨x4, HZ.out.2.2.trans (c4.to HZ.out.2.2.size (fun y q => by cases q; exact hbp.1))⟩
                  clear x4 c4 CN HZ
                  go_wp2
                  go_roundw
                  case rel => exact ⟨0 + 1, t' + 2, by go_num, by omega, H4.out.1, HT.out, H4.out.2⟩
                  case measure => simp [intOf]; omega
                · subst d1
                  obtain ⟨CN0, HT⟩ := fin 1 (lk_one (by omega))
                  have CN : Hid (Calls Try.prog 18 #[.pointer (some ⟨p, 0, none⟩), .int .i64 pin, .func (.func 23) #[] #[]] wr fun e w' => e = .returned (.tuple #[.int .i64 0, .int .i64 1, .int .i64 0]) ∧ Rx w' p g (rt (sg 0 k) (t' + 1)) ∧ Ch (One p) wr w') := CN0
                  have d3 : ¬ 0 < q := by omega
                  clear CN0 fin d2
                  go_wp2_with fail
                  refine CN.out.mono ?_
                  rintro e w4 ⟨rfl, x4, c4⟩
                  have H4 : Hid (Rx w4 p g (rt (sg 0 k) (t' + 1)) ∧ Below W0.heap.size W0 w4) := ⟨x4, HZ.out.2.2.trans (c4.to HZ.out.2.2.size (fun y q => by cases q; exact hbp.1))⟩
                  clear x4 c4 CN HZ
                  go_wp2
                  go_roundw
                  case rel => exact ⟨0 + 1, t' + 1, by go_num, by omega, H4.out.1, HT.out, H4.out.2⟩
                  case measure => simp [intOf]; omega
                · subst d1
                  obtain ⟨CN0, HT⟩ := fin 1 (lk_one (by omega))
                  have CN : Hid (Calls Try.prog 18 #[.pointer (some ⟨p, 0, none⟩), .int .i64 pin, .func (.func 23) #[] #[]] wr fun e w' => e = .returned (.tuple #[.int .i64 0, .int .i64 1, .int .i64 0]) ∧ Rx w' p g (rt (sg 0 k) (t' + 1)) ∧ Ch (One p) wr w') := CN0
                  clear CN0 fin
                  go_wp2_with fail
                  refine CN.out.mono ?_
                  rintro e w4 ⟨rfl, x4, c4⟩
                  have H4 : Hid (Rx w4 p g (rt (sg 0 k) (t' + 1)) ∧ Below W0.heap.size W0 w4) := ⟨x4, HZ.out.2.2.trans (c4.to HZ.out.2.2.size (fun y q => by cases q; exact hbp.1))⟩
                  clear x4 c4 CN HZ
                  go_wp2
                  go_roundw
                  case rel => exact ⟨0 + 1, t' + 1, by go_num, by omega, H4.out.1, HT.out, H4.out.2⟩
                  case measure => simp [intOf]; omega
                · obtain ⟨CN0, HT⟩ := fin 1 (lk_one (by omega))
                  have CN : Hid (Calls Try.prog 18 #[.pointer (some ⟨p, 0, none⟩), .int .i64 pin, .func (.func 23) #[] #[]] wr fun e w' => e = .returned (.tuple #[.int .i64 i, .int .i64 1, .int .i64 0]) ∧ Rx w' p g (rt (sg 0 k) (t' + 1)) ∧ Ch (One p) wr w') := CN0
                  clear CN0 fin
                  go_wp2_with fail
                  refine CN.out.mono ?_
                  rintro e w4 ⟨rfl, x4, c4⟩
                  have H4 : Hid (Rx w4 p g (rt (sg 0 k) (t' + 1)) ∧ Below W0.heap.size W0 w4) := ⟨x4, HZ.out.2.2.trans (c4.to HZ.out.2.2.size (fun y q => by cases q; exact hbp.1))⟩
                  clear x4 c4 CN HZ
                  go_wp2
                  go_roundw
                  case rel => exact ⟨i + 1, t' + 1, by go_num, by omega, H4.out.1, HT.out, H4.out.2⟩
                  case measure => simp [intOf]; omega
            · obtain rfl : i = k := by omega
              clear hrx ht hbel
              go_wp2
              go_roundw
              case rel => exact ⟨q + 1, t', by go_num, by omega, HZ.out.1, by rw [HZ.out.2.1, hd_round q (by omega)], HZ.out.2.2⟩
              case measure => simp [intOf]; omega
        · obtain rfl : q = K := by omega
          obtain ⟨hf, ha⟩ := Fr.first (n := k) (t := t) (pin := pin) (by omega) (by omega) (fun z => by rw [HY.out.2.1, hd_end z])
          have CA : Hid (Calls _ _ _ _ _) := Add_is HY.out.1 (by omega) ha
          have HF0 : Hid (Fr k pin 0 (rt (sg 0 k) t ++ [(k : Int)])) := hf
          clear ha hf
          go_wp2_with fail
          refine CA.out.mono ?_
          rintro e w5 ⟨rfl, t5⟩
          obtain ⟨g5, x5, b5, hg5, _⟩ := t5.adm (B := W0.heap.size) hbp.1 hgb HY.out.2.2.size
          have H5 : Hid (Rx w5 p g5 (rt (sg 0 k) t ++ [(k : Int)]) ∧ Below W0.heap.size W0 w5) := ⟨x5, HY.out.2.2.trans b5⟩
          clear CA t5 x5 b5 HY
          generalize rt (sg 0 k) t ++ [(k : Int)] = L5 at *
          rename_i wr1
          go_wp2_with fail
          go_loopw [15] (fun ti wr => ∃ (i : Nat) (L : List Int), ti = .int .i64 (i : Nat) ∧ i ≤ k + 1 ∧ Rx wr p g5 L ∧ Fr k pin i L ∧ Below W0.heap.size W0 wr) (fun ti _ => k + 1 - (intOf ti).toNat)
          case atStart => exact ⟨0, L5, rfl, by omega, H5.out.1, HF0.out, H5.out.2⟩
          case round =>
            obtain ⟨i, L, rfl, hi, hrx, hfr, hbel⟩ := hrel
            clear H5 HF0
            have HB6 : Hid (Below W0.heap.size W0 wr ∧ L.length = k + 1) := ⟨hbel, hfr.len⟩
            by_cases hik : i ≤ k
            · obtain ⟨x, hx, hfr2, hxi⟩ := hfr.next (by omega) hik
              have CN0 := never_some hrx hx
              have CN : Hid (Calls Try.prog 18 #[.pointer (some ⟨p, 0, none⟩), .int .i64 (-1), .func (.func 23) #[] #[]] wr fun e w' => e = .returned (.tuple #[.int .i64 x, .int .i64 1, .int .i64 0]) ∧ Rx w' p g5 (rt L 1) ∧ Ch (One p) wr w') := CN0
              have HFR : Hid (Fr k pin (i + 1) (rt L 1)) := hfr2
              clear hrx hfr hbel CN0 hx hfr2
              by_cases hpk : pin = (k : Int) - 1
              · clear hxi
                have hpk2 := hpk.symm
                clear hpk
                go_wp2_with fail
                refine CN.out.mono ?_
                rintro e w6 ⟨rfl, x6, c6⟩
                have H6 : Hid (Rx w6 p g5 (rt L 1) ∧ Below W0.heap.size W0 w6) := ⟨x6, HB6.out.1.trans (c6.to HB6.out.1.size (fun y q => by cases q; exact hbp.1))⟩
                clear x6 c6 CN HB6
                go_wp2
                go_roundw
                case rel => exact ⟨i + 1, _, by go_num, by omega, H6.out.1, HFR.out, H6.out.2⟩
                case measure => simp [intOf]; omega
              · obtain rfl := hxi hpk
                go_wp2_with fail
                refine CN.out.mono ?_
                rintro e w6 ⟨rfl, x6, c6⟩
                have H6 : Hid (Rx w6 p g5 (rt L 1) ∧ Below W0.heap.size W0 w6) := ⟨x6, HB6.out.1.trans (c6.to HB6.out.1.size (fun y q => by cases q; exact hbp.1))⟩
                clear x6 c6 CN HB6 hxi
                go_wp2
                go_roundw
                case rel => exact ⟨i + 1, _, by go_num, by omega, H6.out.1, HFR.out, H6.out.2⟩
                case measure => simp [intOf]; omega
            · obtain rfl : i = k + 1 := by omega
              have CL : Hid (Calls _ _ _ _ _) := List_ok hrx
              clear hrx hfr hbel
              go_wp2_with fail
              refine CL.out.mono ?_
              rintro e w7 ⟨v, rfl, n7⟩
              have H7 : Hid (Below W0.heap.size W0 w7) := HB6.out.1.trans (n7.2.1.mono HB6.out.1.size)
              obtain ⟨gv, cv, Lv, rfl, _⟩ := n7.1.shape.resolve_left (fun z => by have := HB6.out.2; rw [z.2] at this; simp at this)
              rw [HB6.out.2]
              clear n7 CL HB6
              go_wp2
              go_ret
              exact ⟨rfl, H7.out⟩
end Go.Proofs.Ytimeoinmepfpnaa.Ri
