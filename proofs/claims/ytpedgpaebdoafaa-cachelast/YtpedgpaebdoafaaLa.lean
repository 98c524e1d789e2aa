/- The law CacheLast walked. -/
import Derived.Test.YtpedgpaebdoafaaSm
import Derived.Test.YtpedgpaebdoafaaAp
namespace Go.Proofs.Ytpedgpaebdoafaa
open Go.ChangeShapes Go.WideShapes Go.ChangeAt Go.RowKit
set_option linter.unusedVariables false

/-- Two caches, each told from its touches. -/
def Twh (w0 : World) (vs : List Value) (w : World) (p q n m : Nat) (A B : List (Nat × Int)) : Prop := ∃ f g, Two w0 vs w p q n m f g ∧ (∀ i, i < n → f i = hold m i A) ∧ (∀ i, i < n → g i = hold m i B)
theorem Twh.std {w0 w : World} {vs : List Value} {p q n m : Nat} {A B : List (Nat × Int)} (h : Twh w0 vs w p q n m A B) : Std w0 vs w := by obtain ⟨f, g, t, _⟩ := h; exact t.std
theorem Twh.below {w0 w w' : World} {vs : List Value} {p q n m : Nat} {A B : List (Nat × Int)} (h : Twh w0 vs w p q n m A B) (k : Below w.heap.size w w') : Twh w0 vs w' p q n m A B := by
  obtain ⟨f, g, t, a, b⟩ := h
  exact ⟨f, g, t.below k, a, b⟩
theorem Twh.start {w0 w : World} {vs : List Value} {p q n m : Nat} (h : Two w0 vs w p q n m (fun _ => []) (fun _ => [])) : Twh w0 vs w p q n m [] [] := ⟨_, _, h, fun i _ => by simp [hold, sub, dd], fun i _ => by simp [hold, sub, dd]⟩
theorem Twh.touch1 {w0 w : World} {vs : List Value} {p q n m : Nat} {A B : List (Nat × Int)} (h : Twh w0 vs w p q n m A B) (i : Nat) (hi : i < n) (t : Int) (h0 : 0 ≤ t) (h1 : t < 18446744073709551616) :
    Calls Try.prog 14 #[.pointer (some ⟨p, 0, none⟩), .int .i64 i, .int .u64 t] w fun e w' => e = .returned (.tuple #[.bool (decide (t ∈ hold m i A)), .int .i64 0]) ∧ Twh w0 vs w' p q n m (A ++ [(i, t)]) B := by
  obtain ⟨f, g, T, a, b⟩ := h
  refine (T.touch1 i hi t h0 h1).mono ?_
  rintro e w' ⟨he, T'⟩
  exact ⟨by rw [he, a i hi], _, _, T', hold_touch m i t A f n a hi, b⟩
theorem Twh.touch2 {w0 w : World} {vs : List Value} {p q n m : Nat} {A B : List (Nat × Int)} (h : Twh w0 vs w p q n m A B) (i : Nat) (hi : i < n) (t : Int) (h0 : 0 ≤ t) (h1 : t < 18446744073709551616) :
    Calls Try.prog 14 #[.pointer (some ⟨q, 0, none⟩), .int .i64 i, .int .u64 t] w fun e w' => e = .returned (.tuple #[.bool (decide (t ∈ hold m i B)), .int .i64 0]) ∧ Twh w0 vs w' p q n m A (B ++ [(i, t)]) := by
  obtain ⟨f, g, T, a, b⟩ := h
  refine (T.touch2 i hi t h0 h1).mono ?_
  rintro e w' ⟨he, T'⟩
  exact ⟨by rw [he, b i hi], _, _, T', a, hold_touch m i t B g n b hi⟩
/-- What Lines tells of a cache whose sets but z are empty. -/
theorem Twh.lines1 {w0 w : World} {vs : List Value} {p q n m : Nat} {A B : List (Nat × Int)} (h : Twh w0 vs w p q n m A B) (z : Nat) (hz : z < n) (L : List Int) (hL : hold m z A = L) (ho : ∀ i, i ≠ z → sub i A = []) :
    Calls Try.prog 19 #[.pointer (some ⟨p, 0, none⟩)] w fun e w' => ∃ v, e = .returned v ∧ Lns w.heap.size w' v (L.map (fun t => (z, t))) ∧ Below w.heap.size w w' := by
  obtain ⟨f, g, ⟨F, G, c, d, _⟩, a, b⟩ := h
  refine (Lines_ok c).mono ?_
  rintro e w' ⟨v, he, hl, hb⟩
  refine ⟨v, he, ?_, hb⟩
  rw [lns_only f z n (fun i hi hne => by rw [a i hi]; unfold hold; rw [ho i hne]; simp [dd]), if_pos hz, a z hz, hL] at hl
  exact hl
theorem Twh.lines2 {w0 w : World} {vs : List Value} {p q n m : Nat} {A B : List (Nat × Int)} (h : Twh w0 vs w p q n m A B) (z : Nat) (hz : z < n) (L : List Int) (hL : hold m z B = L) :
    Calls Try.prog 19 #[.pointer (some ⟨q, 0, none⟩)] w fun e w' => ∃ v l, e = .returned v ∧ Lns w.heap.size w' v l ∧ l.length ≤ 1000000 ∧ (∀ x ∈ l, x.1 ≤ 4096) ∧ l.filter (fun x => x.1 == z) = L.map (fun t => (z, t)) ∧ Below w.heap.size w w' := by
  obtain ⟨f, g, ⟨F, G, c, d, _⟩, a, b⟩ := h
  refine (Lines_ok d).mono ?_
  rintro e w' ⟨v, he, hl, hb⟩
  obtain ⟨bb, V, hP⟩ := d.parts
  refine ⟨v, lns g n, he, hl, ?_, fun x hx => ?_, ?_, hb⟩
  · rw [lns_len]
    have := hP.c.cnt n (Nat.le_refl _)
    omega
  · have := lns_set g n x hx
    have := hP.c.n4
    omega
  · rw [lns_of, if_pos hz, b z hz, hL]
set_option maxRecDepth 100000 in
set_option maxHeartbeats 4000000 in
theorem last_walk (w : World) (K Ways Set : Int) (aS : Option Addr) (lS cS : Nat) (aT : Option Addr) (lT cT : Nat) (aO : Option Addr) (lO cO : Nat) (fS fT fO : Nat → Int) (T : TIn w K Ways Set aS lS cS aT lT cT aO lO cO fS fT fO) :
    Calls Try.prog 7 #[.agg (tV K Ways Set aS lS cS aT lT cT aO lO cO).toArray] w fun e w' => e = .returned (.bool true) ∧ Below w.heap.size w w' := by
  obtain ⟨i0, hi0, hz0, hz1, hz2⟩ := info_parts Try.infoL
  obtain ⟨r, hr⟩ : ∃ r : Nat, K % 5 = r := ⟨(K % 5).toNat, by omega⟩
  obtain ⟨s, hs⟩ : ∃ s : Nat, Ways % 8 = s := ⟨(Ways % 8).toNat, by omega⟩
  have hr5 : r < 5 := by omega
  have hs8 : s < 8 := by omega
  have pn : 1 ≤ 2 ^ r ∧ 2 ^ r ≤ 16 := by
    have : r = 0 ∨ r = 1 ∨ r = 2 ∨ r = 3 ∨ r = 4 := by omega
    rcases this with rfl | rfl | rfl | rfl | rfl <;> decide
  obtain ⟨pn1, pn2⟩ := pn
  obtain ⟨n, hn⟩ : ∃ n, 2 ^ r = n := ⟨_, rfl⟩
  obtain ⟨m, hm⟩ : ∃ m, 1 + s = m := ⟨_, rfl⟩
  rw [hn] at pn1 pn2
  have HN : Hid (2 ^ r = n) := hn
  have HR1 : Hid (K % 5 = r) := hr
  have HR : Hid (Ways % 8 = s) := hs
  clear hn hs hr
  have HT : Hid (TIn w K Ways Set aS lS cS aT lT cT aO lO cO fS fT fO) := T
  obtain ⟨k0, k1⟩ := T.k
  obtain ⟨wy0, wy1⟩ := T.ways
  have l1 := T.lo
  have l2 := T.ls
  unfold maxLen at l1 l2
  clear T
  obtain ⟨vs, hvs⟩ : ∃ vs, vs = tV K Ways Set aS lS cS aT lT cT aO lO cO := ⟨_, rfl⟩
  have v0 : Hid (vs[0]? = some (.int .i64 K)) := by rw [hvs]; rfl
  have v1 : Hid (vs[1]? = some (.int .i64 Ways)) := by rw [hvs]; rfl
  have v3 : Hid (vs[3]? = some (.slice aS lS cS)) := by rw [hvs]; rfl
  have v5 : Hid (vs[5]? = some (.slice aO lO cO)) := by rw [hvs]; rfl
  have S1 : Hid (Std w vs (w.alloc (.cells (tV K Ways Set aS lS cS aT lT cT aO lO cO).toArray 39))) := by rw [hvs]; exact std_new w _ 39
  clear hvs
  unfold tV at *
  have hn0 : ¬ n = 0 := by omega
  go_enter Try.func7, Try.ntmps7
  have d0 := S1.out.1.2 0 _ v0.out
  have d1 := S1.out.1.2 1 _ v1.out
  go_wp2_with fail
  generalize (w.alloc (.cells [Value.int .i64 K, .int .i64 Ways, .int .i64 Set, .slice aS lS cS, .slice aT lT cT, .slice aO lO cO].toArray 39)) = w2 at *
  refine (made_one S1.out K Ways r s n m HN.out hm hr5 hs8 k0 k1 wy0 wy1 HR1.out HR.out).mono ?_
  rintro e w3 ⟨p, rfl, hO⟩
  have O3 : Hid (One w vs w3 p n m (fun _ => [])) := hO
  clear hO S1 d0 d1
  have d0 := O3.out.std.1.2 0 _ v0.out
  have d1 := O3.out.std.1.2 1 _ v1.out
  go_wp2_with fail
  refine (made_two K Ways r s n m O3.out HN.out hm hr5 hs8 k0 k1 wy0 wy1 HR1.out HR.out).mono ?_
  rintro e w4 ⟨q, rfl, hT⟩
  have T4 : Hid (Two w vs w4 p q n m (fun _ => []) (fun _ => [])) := hT
  clear hT O3 d0 d1
  go_wp2_with fail
  refine (awake_any _).mono ?_
  rintro e w5 ⟨rfl, hb5⟩
  have T5 : Hid (Twh w vs w5 p q n m [] []) := Twh.start (T4.out.below hb5)
  clear T4 hb5
  go_wp2_with fail
  go_loopw [9] (fun i wr => ∃ k : Nat, k ≤ lO ∧ i = .int .i64 k ∧ ∃ B, Twh w vs wr p q n m [] B) (fun i _ => lO - (intOf i).toNat)
  case atStart => exact ⟨0, by omega, rfl, [], T5.out⟩
  case round =>
    clear T5
    obtain ⟨k, hk, rfl, B, hT⟩ := hrel
    have T1 : Hid (Twh w vs wr p q n m [] B) := hT
    have d5 := hT.std.1.2 5 _ v5.out
    clear hT
    by_cases a1 : k < lO ∧ k < 100
    · obtain ⟨a1, a2⟩ := a1
      obtain ⟨bO, oO, eO, hc⟩ := HT.out.O.at' (T1.out.std.2.trans (below_drew wr _)) a1
      obtain ⟨y0, y1⟩ := HT.out.oko k a1
      subst eO
      generalize fO k = y at hc y0 y1
      have HC : Hid (wr.drew.cell? ⟨bO, oO + k, none⟩ = some (.int .u64 y)) := hc
      have T1d : Hid (Twh w vs wr.drew p q n m [] B) := T1.out.below (below_drew _ _)
      clear hc
      have e1 : IntKind.u64.wrap (n : Int) = n := by rw [IntKind.wrap_u64]; omega
      obtain ⟨j, hj, hjn⟩ : ∃ j : Nat, IntKind.i64.wrap (y.tmod n) = j ∧ j < n := by
        have q1 : 0 ≤ y.tmod n := Int.tmod_nonneg _ y0
        have q2 : y.tmod n < n := Int.tmod_lt_of_pos y (by omega)
        exact ⟨(y.tmod n).toNat, by rw [IntWalk.i64_in _ (by omega)]; omega, by omega⟩
      obtain ⟨Y, hY, Y0, Y1⟩ : ∃ Y, IntKind.u64.wrap (y.tdiv 3) = Y ∧ 0 ≤ Y ∧ Y < 18446744073709551616 := ⟨_, rfl, by rw [IntKind.wrap_u64]; omega, by rw [IntKind.wrap_u64]; omega⟩
      have HJ : Hid (IntKind.i64.wrap (y.tmod n) = j) := hj
      have HY : Hid (IntKind.u64.wrap (y.tdiv 3) = Y) := hY
      clear hY hj
      go_wp2_with fail
      clear d5
      go_region_held3 (fun w' => w'.cell? ⟨bO, oO + k, none⟩ = some (.int .u64 y) ∧ w'.cell? ⟨w.heap.size, 5, none⟩ = some (.slice (some ⟨bO, oO, none⟩) lO cO))
        (first | exact ⟨HC7.out, T2.out.std.1.2 5 _ v5.out⟩ | exact ⟨HC.out, T1d.out.std.1.2 5 _ v5.out⟩)
        (first
          | (go_at_call 14; rw [HJ.out, HY.out]; refine (T1d.out.touch2 j hjn Y Y0 Y1).mono ?_; rintro e w7 ⟨rfl, hT⟩; have T2 : Hid (Twh w vs w7 p q n m [] (B ++ [(j, Y)])) := hT; have HC7 : Hid (w7.cell? ⟨bO, oO + k, none⟩ = some (.int .u64 y)) := (by obtain ⟨b', o', e', h'⟩ := HT.out.O.at' hT.std.2 a1; cases e'; obtain ⟨b2, o2, e2', h2⟩ := HT.out.O.at' T1d.out.std.2 a1; cases e2'; exact h'.trans (h2.symm.trans HC.out)); clear hT))
      clear HC7 HC T1d HJ HY e1
      go_wp2_with fail
      go_roundw
      case rel => exact ⟨k + 1, by omega, by go_num, _, T2.out⟩
      case measure => simp [intOf]; omega
    · have d3 := T1.out.std.1.2 3 _ v3.out
      have a1' : ¬ k < lO ∨ (k < lO ∧ ¬ k < 100) := by omega
      clear a1
      by_cases hS : 0 < lS
      case' pos =>
        obtain ⟨bS, oS, eS, hc⟩ := HT.out.S.at' T1.out.std.2 hS
        obtain ⟨y0, y1⟩ := HT.out.oks 0 hS
        subst eS
        rw [Nat.add_zero] at hc
        generalize fS 0 = y at hc y0 y1
        obtain ⟨z, hz, hzn⟩ : ∃ z : Nat, wrap64 ((IntKind.u64.wrap y).tmod n) = z ∧ z < n := by
          have q0 : 0 ≤ IntKind.u64.wrap y := by rw [IntKind.wrap_u64]; omega
          have q1 : 0 ≤ (IntKind.u64.wrap y).tmod n := Int.tmod_nonneg _ q0
          have q2 : (IntKind.u64.wrap y).tmod n < n := Int.tmod_lt_of_pos _ (by omega)
          exact ⟨((IntKind.u64.wrap y).tmod n).toNat, by rw [← IntWalk.i64_left, IntWalk.i64_in _ (by omega)]; omega, by omega⟩
        have HZ : Hid (wrap64 ((IntKind.u64.wrap y).tmod n) = z) := hz
        clear hz
        rcases a1' with a1 | ⟨a1, a2⟩
        all_goals go_wp2_with fail
        all_goals clear d3 hc
        all_goals rw [HZ.out]
      case' neg =>
        obtain ⟨z, hz, hzn⟩ : ∃ z : Nat, (0 : Int) = z ∧ z < n := ⟨0, rfl, by omega⟩
        have HZ : Hid ((0 : Int) = z) := hz
        clear hz
        rcases a1' with a1 | ⟨a1, a2⟩
        all_goals go_wp2_with fail
        all_goals clear d3
        all_goals (conv => arg 4; arg 1; arg 1; arg 2; arg 2; arg 2; arg 2; arg 2; arg 2; arg 2; arg 2; arg 2; arg 2; arg 1; rw [HZ.out])
      all_goals (
        go_loopw [12] (fun i wr => ∃ k2 : Nat, k2 ≤ m ∧ i = .int .i64 k2 ∧ ∃ A B R, Twh w vs wr p q n m A B ∧ sub z A = rt k2 ∧ (∀ i, i ≠ z → sub i A = []) ∧ sub z B = rt k2 ++ R) (fun i _ => m - (intOf i).toNat)
        case atStart => exact ⟨0, by omega, rfl, [], B, _, T1.out, rfl, fun i _ => rfl, rfl⟩
        case round =>
          clear T1
          obtain ⟨k2, hk2, rfl, A, B, R, hT, hA, hAo, hB⟩ := hrel
          have T1 : Hid (Twh w vs wr p q n m A B) := hT
          have HA : Hid (sub z A = rt k2) := hA
          have HAo : Hid (∀ i, i ≠ z → sub i A = []) := hAo
          have HB : Hid (sub z B = rt k2 ++ R) := hB
          clear hT hA hAo hB
          by_cases hlt : k2 < m
          · have CA : Hid (Calls Try.prog 14 #[.pointer (some ⟨p, 0, none⟩), .int .i64 z, .int .u64 (1000 + 7 * (k2 : Int))] wr fun e w' => e = .returned (.tuple #[.bool false, .int .i64 0]) ∧ Twh w vs w' p q n m (A ++ [(z, 1000 + 7 * (k2 : Int))]) B) := by
              have := T1.out.touch1 z hzn (1000 + 7 * (k2 : Int)) (by omega) (by omega)
              rw [decide_eq_false (hold_none (by rw [HA.out]; exact rt_new k2))] at this
              exact this
            go_wp2_with fail
            refine CA.out.mono ?_
            rintro e w6 ⟨rfl, hT⟩
            have CB : Hid (Calls _ _ _ _ _) := hT.touch2 z hzn (1000 + 7 * (k2 : Int)) (by omega) (by omega)
            clear CA hT
            generalize decide ((1000 + 7 * (k2 : Int)) ∈ hold m z B) = bb at CB
            go_wp2_with fail
            refine CB.out.mono ?_
            rintro e w7 ⟨rfl, hT⟩
            have T2 : Hid (Twh w vs w7 p q n m (A ++ [(z, 1000 + 7 * (k2 : Int))]) (B ++ [(z, 1000 + 7 * (k2 : Int))])) := hT
            clear CB hT
            go_wp2_with fail
            go_roundw
            case rel =>
              refine ⟨k2 + 1, by omega, by go_num, _, _, R, T2.out, ?_, fun i hi => ?_, ?_⟩
              · rw [sub_same, HA.out]; rfl
              · rw [sub_other _ _ _ _ (fun q => hi q.symm)]; exact HAo.out i hi
              · rw [sub_same, HB.out]; rfl
            case measure => simp [intOf]; omega
          · obtain rfl : k2 = m := by omega
            have HQ : Hid (hold k2 z A = rt k2) := hold_rt k2 z A [] (by rw [HA.out]; simp)
            have HQ2 : Hid (hold k2 z B = rt k2) := hold_rt k2 z B R HB.out
            generalize wr = w8 at *
            clear HB HA
            obtain ⟨M, hM⟩ : ∃ M, (rt k2).map (fun t => (z, t)) = M := ⟨_, rfl⟩
            have HM : Hid ((rt k2).map (fun t => (z, t)) = M) := hM
            have HML : Hid (M.length = k2) := by unfold Hid; rw [← hM]; simp [rt_len]
            clear hM
            go_wp2_with fail
            go_loopw [11, 18] (fun v i wr => ∃ (k3 : Nat) (W : List (Nat × Int)), k3 ≤ k2 ∧ i = .int .i64 ((k3 : Int) - 1) ∧ Lns w8.heap.size wr v W ∧ W ++ (rt k3).map (fun t => (z, t)) = M ∧ Below w8.heap.size w8 wr) (fun _ i _ => (intOf i + 1).toNat)
            case atStart => exact ⟨k2, [], Nat.le_refl _, rfl, Lns.nil _ _, by rw [HM.out]; rfl, Below.refl _ _⟩
            case round =>
              obtain ⟨k3, W, hk3, rfl, hW, hE, hb⟩ := hrel
              have HW : Hid (Lns w8.heap.size wr u11 W) := hW
              have HE : Hid (W ++ (rt k3).map (fun t => (z, t)) = M) := hE
              have HBb : Hid (Below w8.heap.size w8 wr) := hb
              have hsz := hb.size
              clear hW hE hb
              cases k3 with
              | succ k3 =>
                have HL : Hid (W.length + 1 ≤ k2) := by
                  unfold Hid
                  have := congrArg List.length HE.out
                  rw [HML.out] at this
                  simp [rt_len] at this
                  omega
                have hle := HL.out
                have HOr : Hid (wr.ownsRow w8.heap.size 56 2 u11 W.length (lv W)) := HW.out
                rw [show ((k3 + 1 : Nat) : Int) - 1 = k3 by omega]
                go_wp2_with (at_builtin; refine wpList_append_own _ rfl (.tmp 126) (.tmp 133) 50 rfl w8.heap.size 56 i0 _ 2 16 Try.underlying50 hi0 hz0 hz1 hz2 rfl (by decide) u11 W.length _ rfl (World.ownsRow.alloc HOr.out _) ⟨wr.heap.size, 0, none⟩ 1 1 [.int .i64 z, .int .u64 (1000 + 7 * (k3 : Int))] rfl rfl (cell_two_new _ _ _ _) (by intro u hu; simp at hu; rcases hu with rfl | rfl <;> rfl) (by unfold maxLen; omega) (by omega) (by simp; omega) ?_; intro v2 w2 o2 gr2 nil2)
                go_roundw
                case rel =>
                  refine ⟨k3, W ++ [(z, 1000 + 7 * (k3 : Int))], by omega, by go_num, Lns.add rfl o2, ?_, (HBb.out.alloc hsz _).grown gr2 (by simp; omega) (fun k hk => (HOr.out.lt k hk).1)⟩
                  rw [← HE.out]
                  simp [rt]
                case measure => simp [intOf]
              | zero =>
                have HE2 : Hid (W = M) := by unfold Hid; have := HE.out; simpa [rt] using this
                have HWM : Hid (Lns w8.heap.size wr u11 M) := by unfold Hid; rw [← HE2.out]; exact HW.out
                have T2 : Hid (Twh w vs wr p q n k2 A B) := T1.out.below HBb.out
                clear HW HE HE2
                have CA : Hid (Calls Try.prog 19 #[.pointer (some ⟨p, 0, none⟩)] wr fun e w' => ∃ v, e = .returned v ∧ Lns wr.heap.size w' v M ∧ Below wr.heap.size wr w') := by
                  have := T2.out.lines1 z hzn (rt k2) HQ.out HAo.out
                  rw [HM.out] at this
                  exact this
                go_wp2_with fail
                refine CA.out.mono ?_
                rintro e w9 ⟨va, rfl, hl9, hb9⟩
                have L9 : Hid (Lns wr.heap.size w9 va M) := hl9
                have M9 : Hid (Lns w8.heap.size w9 u11 M) := HWM.out.below hb9
                have T9 : Hid (Twh w vs w9 p q n k2 A B) := T2.out.below hb9
                clear CA hl9 hb9
                go_wp2_with fail
                refine (Same_any L9.out M9.out (by rw [HML.out]; omega)).mono ?_
                rintro e w10 ⟨rfl, hb10⟩
                have M10 : Hid (Lns w8.heap.size w10 u11 M) := M9.out.below hb10
                have T10 : Hid (Twh w vs w10 p q n k2 A B) := T9.out.below hb10
                clear M9 T9 L9 hb10
                go_wp2_with fail
                refine (T10.out.lines2 z hzn (rt k2) HQ2.out).mono ?_
                rintro e w11 ⟨vb, lb, rfl, hl11, hle, hset, hfl, hb11⟩
                rw [HM.out] at hfl
                have CO : Hid (Calls _ _ _ _ _) := of_any hl11 hle hset z (by omega)
                rw [hfl] at CO
                have M11 : Hid (Lns w8.heap.size w11 u11 M) := M10.out.below hb11
                have T11 : Hid (Twh w vs w11 p q n k2 A B) := T10.out.below hb11
                clear hl11 hle hset hfl hb11 M10 T10
                go_wp2_with fail
                refine CO.out.mono ?_
                rintro e w12 ⟨vc, rfl, hl12, hb12⟩
                have L12 : Hid (Lns w11.heap.size w12 vc M) := hl12
                have M12 : Hid (Lns w8.heap.size w12 u11 M) := M11.out.below hb12
                have T12 : Hid (Twh w vs w12 p q n k2 A B) := T11.out.below hb12
                clear CO hl12 hb12 M11 T11
                go_wp2_with fail
                refine (Same_any L12.out M12.out (by rw [HML.out]; omega)).mono ?_
                rintro e w13 ⟨rfl, hb13⟩
                have T13 : Hid (Twh w vs w13 p q n k2 A B) := T12.out.below hb13
                clear hb13 M12 L12
                go_wp2
                go_ret
                exact ⟨rfl, T13.out.std.2⟩)
end Go.Proofs.Ytpedgpaebdoafaa
