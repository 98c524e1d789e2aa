/- The law CacheApart walked. -/
import Derived.Test.YtpedgpaebdoafaaTw
namespace Go.Proofs.Ytpedgpaebdoafaa
open Go.ChangeShapes Go.WideShapes Go.ChangeAt Go.RowKit
set_option linter.unusedVariables false

/-- What is known of a struct that came in. -/
structure TIn (w : World) (K Ways Set : Int) (aS : Option Addr) (lS cS : Nat) (aT : Option Addr) (lT cT : Nat) (aO : Option Addr) (lO cO : Nat) (fS fT fO : Nat → Int) : Prop where
  k : -9223372036854775808 ≤ K ∧ K < 9223372036854775808
  ways : -9223372036854775808 ≤ Ways ∧ Ways < 9223372036854775808
  set : -9223372036854775808 ≤ Set ∧ Set < 9223372036854775808
  ls : lS ≤ maxLen
  lt : lT ≤ maxLen
  lo : lO ≤ maxLen
  S : Arg .i64 w aS lS fS
  T : Arg .u64 w aT lT fT
  O : Arg .u64 w aO lO fO
  oks : ∀ i, i < lS → -9223372036854775808 ≤ fS i ∧ fS i < 9223372036854775808
  okt : ∀ i, i < lT → 0 ≤ fT i ∧ fT i < 18446744073709551616
  oko : ∀ i, i < lO → 0 ≤ fO i ∧ fO i < 18446744073709551616
theorem pow_small {r : Nat} (h1 : 1 ≤ r) (h2 : r < 5) : 2 ≤ 2 ^ r ∧ 2 ^ r ≤ 16 := by
  have : r = 1 ∨ r = 2 ∨ r = 3 ∨ r = 4 := by omega
  rcases this with rfl | rfl | rfl | rfl <;> decide
theorem other_set (n z : Nat) (N1 y : Int) (hz : z < n) (h2 : 2 ≤ n) (hn : n ≤ 16) (h1 : (n : Int) - 1 = N1) (y0 : 0 ≤ y) :
    ∃ (D : Int) (j : Nat), IntKind.i64.wrap (IntKind.i64.wrap ((z : Int) + 1) + IntKind.i64.wrap (y.tmod N1)) = D ∧ (D % n = j ∧ 0 ≤ D ∧ D < 100) ∧ j < n ∧ j ≠ z := by
  have a1 : 0 ≤ y.tmod N1 := Int.tmod_nonneg _ y0
  have a2 : y.tmod N1 < N1 := Int.tmod_lt_of_pos y (by omega)
  generalize y.tmod N1 = d at *
  have e : IntKind.i64.wrap (IntKind.i64.wrap ((z : Int) + 1) + IntKind.i64.wrap d) = z + 1 + d := by
    rw [IntWalk.i64_in ((z : Int) + 1) (by omega), IntWalk.i64_in d (by omega), IntWalk.i64_in _ (by omega)]
  by_cases q : (z : Int) + 1 + d < n
  · exact ⟨z + 1 + d, ((z : Int) + 1 + d).toNat, e, ⟨by rw [Int.emod_eq_of_lt (by omega) q]; omega, by omega, by omega⟩, by omega, by omega⟩
  · refine ⟨z + 1 + d, ((z : Int) + 1 + d - n).toNat, e, ⟨?_, by omega, by omega⟩, by omega, by omega⟩
    have : ((z : Int) + 1 + d) % n = ((z : Int) + 1 + d - n) % n := by rw [Int.sub_emod_right]
    rw [this, Int.emod_eq_of_lt (by omega) (by omega)]
    omega
theorem tag_at {w w' : World} {K Ways Set : Int} {aS : Option Addr} {lS cS : Nat} {bT oT : Nat} {lT cT : Nat} {aO : Option Addr} {lO cO : Nat} {fS fT fO : Nat → Int} (T : TIn w K Ways Set aS lS cS (some ⟨bT, oT, none⟩) lT cT aO lO cO fS fT fO) {k : Nat} (hk : k < lT) {x : Int} (hx : fT k = x) (hb : Below w.heap.size w w') :
    w'.cell? ⟨bT, oT + k, none⟩ = some (.int .u64 x) := by
  obtain ⟨b', o', e', h'⟩ := T.T.at' hb hk
  cases e'
  rw [← hx]
  exact h'
theorem std_new (w : World) (vs : List Value) (t : TypeId) : Std w vs (w.alloc (.cells vs.toArray t)) := ⟨bx_new w vs.toArray t, (Below.refl _ _).alloc (Nat.le_refl _) _⟩
set_option maxRecDepth 100000 in
set_option maxHeartbeats 4000000 in
theorem apart_walk (w : World) (K Ways Set : Int) (aS : Option Addr) (lS cS : Nat) (aT : Option Addr) (lT cT : Nat) (aO : Option Addr) (lO cO : Nat) (fS fT fO : Nat → Int) (T : TIn w K Ways Set aS lS cS aT lT cT aO lO cO fS fT fO) :
    Calls Try.prog 5 #[.agg (tV K Ways Set aS lS cS aT lT cT aO lO cO).toArray] w fun e w' => e = .returned (.bool true) ∧ Below w.heap.size w w' := by
  obtain ⟨c, hc⟩ : ∃ c : Nat, K % 4 = c := ⟨(K % 4).toNat, by omega⟩
  obtain ⟨r, hr⟩ : ∃ r : Nat, 1 + c = r := ⟨_, rfl⟩
  obtain ⟨s, hs⟩ : ∃ s : Nat, Ways % 8 = s := ⟨(Ways % 8).toNat, by omega⟩
  obtain ⟨pn1, pn2⟩ := pow_small (r := r) (by omega) (by omega)
  have hr5 : r < 5 := by omega
  have hr1 : 1 ≤ r := by omega
  have hs8 : s < 8 := by omega
  have HT : Hid (TIn w K Ways Set aS lS cS aT lT cT aO lO cO fS fT fO) := T
  obtain ⟨k0, k1⟩ := T.k
  obtain ⟨wy0, wy1⟩ := T.ways
  obtain ⟨st0, st1⟩ := T.set
  have l1 := T.lt
  have l2 := T.lo
  unfold maxLen at l1 l2
  clear T
  have C1 : Hid (∀ W, Calls Try.prog 13 #[.int .i64 K, .int .i64 4] W fun e w' => e = .returned (.int .i64 (K % 4)) ∧ w' = W) := fun W => Within_any K 4 (by omega) (by omega) k0 k1 W
  rw [hc] at C1
  have HR : Hid (Ways % 8 = s) := hs
  clear hs hc
  obtain ⟨vs, hvs⟩ : ∃ vs, vs = tV K Ways Set aS lS cS aT lT cT aO lO cO := ⟨_, rfl⟩
  have v0 : Hid (vs[0]? = some (.int .i64 K)) := by rw [hvs]; rfl
  have v1 : Hid (vs[1]? = some (.int .i64 Ways)) := by rw [hvs]; rfl
  have v2 : Hid (vs[2]? = some (.int .i64 Set)) := by rw [hvs]; rfl
  have v4 : Hid (vs[4]? = some (.slice aT lT cT)) := by rw [hvs]; rfl
  have v5 : Hid (vs[5]? = some (.slice aO lO cO)) := by rw [hvs]; rfl
  have S1 : Hid (Std w vs (w.alloc (.cells (tV K Ways Set aS lS cS aT lT cT aO lO cO).toArray 39))) := by rw [hvs]; exact std_new w _ 39
  clear hvs
  have HW : Hid (IntKind.i64.wrap (1 + (c : Int)) = 1 + (c : Int)) := IntWalk.i64_in _ (by omega)
  obtain ⟨n, hn⟩ : ∃ n, 2 ^ r = n := ⟨_, rfl⟩
  obtain ⟨m, hm⟩ : ∃ m, 1 + s = m := ⟨_, rfl⟩
  rw [hn] at pn1 pn2
  have HN : Hid (2 ^ r = n) := hn
  clear hn
  unfold tV at *
  go_enter Try.func5, Try.ntmps5
  go_wp2_with fail
  generalize (w.alloc (.cells [Value.int .i64 K, .int .i64 Ways, .int .i64 Set, .slice aS lS cS, .slice aT lT cT, .slice aO lO cO].toArray 39)) = w1 at *
  have d4 := S1.out.1.2 4 _ v4.out
  have d5 := S1.out.1.2 5 _ v5.out
  go_quiet (fail)
  clear d4 d5
  have S2 : Hid (Std w vs (w1.drewN nq)) := S1.out.below (below_drewN _ _ _)
  generalize w1.drewN nq = w2 at *
  have S2d : Hid (Std w vs w2.drew) := S2.out.below (below_drew _ _)
  clear S1 S2
  go_wp2_with fail
  go_region_held3 (fun w' => w'.cell? ⟨w.heap.size, 0, none⟩ = some (.int .i64 K) ∧ w'.cell? ⟨w.heap.size, 1, none⟩ = some (.int .i64 Ways))
    (first | exact ⟨O3.out.std.1.2 0 _ v0.out, O3.out.std.1.2 1 _ v1.out⟩ | exact ⟨S2d.out.1.2 0 _ v0.out, S2d.out.1.2 1 _ v1.out⟩)
    (first
      | (go_at_call 13; refine (C1.out _).mono ?_; rintro e w' ⟨rfl, rfl⟩)
      | (go_at_call 12; rw [HW.out]; refine (made_one S2d.out (1 + (c : Int)) Ways r s n m HN.out hm hr5 hs8 (by omega) (by omega) wy0 wy1 (by omega) HR.out).mono ?_; rintro e w3 ⟨p, rfl, hO⟩; have O3 : Hid (One w vs w3 p n m (fun _ => [])) := hO; clear hO))
  clear S2d
  have O3d : Hid (One w vs w3.drew p n m (fun _ => [])) := O3.out.below (below_drew _ _)
  clear O3
  go_wp2_with fail
  go_region_held3 (fun w' => w'.cell? ⟨w.heap.size, 0, none⟩ = some (.int .i64 K) ∧ w'.cell? ⟨w.heap.size, 1, none⟩ = some (.int .i64 Ways))
    (first | exact ⟨T4.out.std.1.2 0 _ v0.out, T4.out.std.1.2 1 _ v1.out⟩ | exact ⟨O3d.out.std.1.2 0 _ v0.out, O3d.out.std.1.2 1 _ v1.out⟩)
    (first
      | (go_at_call 13; refine (C1.out _).mono ?_; rintro e w' ⟨rfl, rfl⟩)
      | (go_at_call 12; rw [HW.out]; refine (made_two (1 + (c : Int)) Ways r s n m O3d.out HN.out hm hr5 hs8 (by omega) (by omega) wy0 wy1 (by omega) HR.out).mono ?_; rintro e w4 ⟨q, rfl, hT⟩; have T4 : Hid (Two w vs w4 p q n m (fun _ => []) (fun _ => [])) := hT; clear hT))
  clear O3d HW C1
  go_wp2_with fail
  refine (awake_any _).mono ?_
  rintro e w5 ⟨rfl, hb5⟩
  have T5 : Hid (Two w vs w5 p q n m (fun _ => []) (fun _ => [])) := T4.out.below hb5
  clear T4 hb5
  have C2 : Hid (Calls Try.prog 13 #[.int .i64 Set, .int .i64 n] w5 fun e w' => e = .returned (.int .i64 (Set % n)) ∧ w' = w5) := Within_any Set n (by omega) (by omega) st0 st1 w5
  obtain ⟨z, hz⟩ : ∃ z : Nat, Set % n = z := ⟨(Set % n).toNat, by have := Int.emod_nonneg Set (by omega : (n : Int) ≠ 0); omega⟩
  have hzn : z < n := by have := Int.emod_lt_of_pos Set (by omega : 0 < (n : Int)); omega
  rw [hz] at C2
  clear hz
  have d2 := T5.out.std.1.2 2 _ v2.out
  go_wp2_with fail
  refine C2.out.mono ?_
  rintro e w' ⟨rfl, rfl⟩
  clear d2
  go_wp2_with fail
  go_loopw [12] (fun i wr => ∃ k : Nat, k ≤ lT ∧ i = .int .i64 k ∧ ∃ f g, Two w vs wr p q n m f g ∧ f z = g z) (fun i _ => lT - (intOf i).toNat)
  case atStart => exact ⟨0, by omega, rfl, _, _, T5.out, rfl⟩
  case round =>
    clear T5 C2
    obtain ⟨k, hk, rfl, f, g, hT, hfg⟩ := hrel
    have T1 : Hid (Two w vs wr p q n m f g) := hT
    have HFG : Hid (f z = g z) := hfg
    have HB : Hid (Below w.heap.size w wr) := hT.std.2
    clear hT hfg
    by_cases hlt : k < lT
    · by_cases h200 : k < 200
      · obtain ⟨bT, oT, eT, hc⟩ := HT.out.T.at' HB.out hlt
        obtain ⟨x0, x1⟩ := HT.out.okt k hlt
        subst eT
        obtain ⟨x, hx⟩ : ∃ x, fT k = x := ⟨_, rfl⟩
        have HX : Hid (fT k = x) := hx
        rw [hx] at hc x0 x1
        clear hx
        go_wp2_with fail
        refine (T1.out.touch1 z hzn (x % 12) (by omega) (by omega)).mono ?_
        rintro e w6 ⟨rfl, hT⟩
        have T2 : Hid (Two w vs w6 p q n m _ g) := hT
        have HB2 : Hid (Below w.heap.size w w6) := hT.std.2
        clear hT T1 hc
        obtain ⟨bb, hbb⟩ : ∃ bb, decide (x % 12 ∈ f z) = bb := ⟨_, rfl⟩
        have HBB : Hid (decide (x % 12 ∈ f z) = bb) := hbb
        rw [hbb]
        clear hbb
        by_cases ho : k < lO
        case' pos =>
          obtain ⟨bO, oO, eO, hc⟩ := HT.out.O.at' HB2.out ho
          obtain ⟨y0, y1⟩ := HT.out.oko k ho
          subst eO
          generalize fO k = y at hc y0 y1
          obtain ⟨N1, hN1⟩ : ∃ N1 : Int, (n : Int) - 1 = N1 := ⟨_, rfl⟩
          have e1 : IntKind.i64.wrap ((n : Int) - 1) = N1 := by rw [hN1]; exact IntWalk.i64_in _ (by omega)
          have e2 : IntKind.u64.wrap N1 = N1 := by rw [IntKind.wrap_u64]; omega
          have e3 : ¬ N1 = 0 := by omega
          obtain ⟨D, j, hD, hj, hjn, hjz⟩ := other_set n z N1 y hzn (by omega) pn2 hN1 y0
          have HN1 : Hid ((n : Int) - 1 = N1) := hN1
          have HD : Hid (IntKind.i64.wrap (IntKind.i64.wrap ((z : Int) + 1) + IntKind.i64.wrap (y.tmod N1)) = D) := hD
          have C3 : Hid (∀ W, Calls Try.prog 13 #[.int .i64 D, .int .i64 n] W fun e w' => e = .returned (.int .i64 j) ∧ w' = W) := fun W => by rw [← hj.1]; exact Within_any D n (by omega) (by omega) (by omega) (by omega) W
          clear hN1 hD hj
          obtain ⟨Y, hY, Y0, Y1⟩ : ∃ Y, IntKind.u64.wrap (y.tdiv 7) = Y ∧ 0 ≤ Y ∧ Y < 18446744073709551616 := ⟨_, rfl, by rw [IntKind.wrap_u64]; omega, by rw [IntKind.wrap_u64]; omega⟩
          have HY : Hid (IntKind.u64.wrap (y.tdiv 7) = Y) := hY
          clear hY
          have HC : Hid (w6.drew.cell? ⟨bO, oO + k, none⟩ = some (.int .u64 y)) := hc
          have T2d : Hid (Two w vs w6.drew p q n m _ g) := T2.out.below (below_drew _ _)
          clear hc
          go_wp2_with fail
          go_region_held3 (fun w' => w'.cell? ⟨bO, oO + k, none⟩ = some (.int .u64 y))
            (first | exact HC7.out | exact HC.out)
            (first
              | (go_at_call 13; rw [HD.out]; refine (C3.out _).mono ?_; rintro e w' ⟨rfl, rfl⟩)
              | (go_at_call 14; rw [HY.out]; refine (T2d.out.touch2 j hjn Y Y0 Y1).mono ?_; rintro e w7 ⟨rfl, hT⟩; have T3 : Hid (Two w vs w7 p q n m _ _) := hT; have HC7 : Hid (w7.cell? ⟨bO, oO + k, none⟩ = some (.int .u64 y)) := (by obtain ⟨b', o', e', h'⟩ := HT.out.O.at' hT.std.2 ho; cases e'; have := HC.out; obtain ⟨b2, o2, e2', h2⟩ := HT.out.O.at' HB2.out ho; cases e2'; exact h'.trans (h2.symm.trans this)); clear hT))
          have HGZ : Hid (put g j (tch m Y (g j)) z = g z) := put_other _ _ _ _ (fun q => hjz q.symm)
          generalize put g j (tch m Y (g j)) = g' at *
          clear HC7 HC T2d e1 e2 e3 HY HD C3 T2 HB2
          have hc7 := tag_at HT.out hlt HX.out T3.out.std.2
          go_wp2_with fail
        case' neg =>
          obtain ⟨g', hgz, hT3⟩ : ∃ g', g' z = g z ∧ Two w vs w6 p q n m (put f z (tch m (x % 12) (f z))) g' := ⟨g, rfl, T2.out⟩
          have HGZ : Hid (g' z = g z) := hgz
          have T3 : Hid (Two w vs w6 p q n m (put f z (tch m (x % 12) (f z))) g') := hT3
          clear HB2 T2 hgz hT3
          generalize w6 = w7 at *
          have hc7 := tag_at HT.out hlt HX.out T3.out.std.2
          go_wp2_with fail
        all_goals (
          refine (T3.out.touch2 z hzn (x % 12) (by omega) (by omega)).mono ?_
          rintro e w8 ⟨rfl, hT⟩
          rw [HGZ.out, ← HFG.out, HBB.out]
          have T4 : Hid (Two w vs w8 p q n m _ _) := hT
          have HE : Hid (put f z (tch m (x % 12) (f z)) z = put g' z (tch m (x % 12) (g' z)) z) := by unfold Hid; rw [put_same, put_same, HGZ.out, HFG.out]
          clear hT T3 hc7
          go_wp2_with fail
          go_roundw
          case rel => exact ⟨k + 1, by omega, by go_num, _, _, T4.out, HE.out⟩
          case measure => simp [intOf]; omega)
      · go_wp2
        go_ret
        exact ⟨rfl, HB.out⟩
    · go_wp2
      go_ret
      exact ⟨rfl, HB.out⟩
end Go.Proofs.Ytpedgpaebdoafaa
