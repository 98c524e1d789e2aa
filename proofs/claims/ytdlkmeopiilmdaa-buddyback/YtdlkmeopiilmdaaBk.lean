/- BuddyBack: a block that is taken and given back at once leaves the free blocks as they were; no condition but the ranges of ints. -/
import Derived.Test.YtdlkmeopiilmdaaOn
namespace Go.Proofs.Ytdlkmeopiilmdaa
open Go.ChangeShapes Go.WideShapes Go.ChangeAt Go.RowKit
set_option linter.unusedVariables false

/-- What the loop has. -/
def Bst (w wr : World) (N p : Nat) (v : Value) (i : Nat) : Prop := ∃ L tk op h, One (fun k => k < w.heap.size) wr p v L tk h ∧ St N op L tk ∧ Hk h tk ∧ h.length ≤ i ∧ Below w.heap.size w wr
theorem kp_below {w wr w' : World} (hb : Below w.heap.size w wr) (k : Kp (NP (fun k => k < w.heap.size)) (NP (fun k => k < w.heap.size)) wr w') : Below w.heap.size w w' :=
  hb.trans (k.below w.heap.size hb.size (fun c hc => by
    by_cases z : c < w.heap.size
    · exact absurd z hc
    · omega))
theorem tmod7 {x : Int} (h : 0 ≤ x) : ∃ o : Nat, o ≤ 6 ∧ x.tmod 7 = (o : Int) := by
  refine ⟨(x % 7).toNat, by omega, ?_⟩
  rw [Int.tmod_eq_emod_of_nonneg h]
  omega
theorem Ls.far {B : Nat} {w w' : World} {v : Value} {M : Nat → List Int} {G G' : Nat → Prop} (h : Ls B w v M) (K : Kp G G' w w') (hG : ∀ k, G k → k < B) : Ls B w' v M := by
  obtain ⟨g, cap, F, V, rfl, R, hF⟩ := h
  exact ⟨g, cap, F, V, rfl, R.of_eq K.size (fun b hb => K.block b (R.lt b hb) (fun z => by have := hG b z; have := hF b hb; omega)), hF⟩
set_option maxRecDepth 100000 in
set_option maxHeartbeats 4000000 in
theorem back_walk (w : World) (n : Int) (hn : -9223372036854775808 ≤ n ∧ n < 9223372036854775808) (ao : Option Addr) (len cap : Nat) (hl : len ≤ maxLen) (f : Nat → Int) (hf : Arg w ao len f) (hfb : ∀ i, i < len → -9223372036854775808 ≤ f i ∧ f i < 9223372036854775808) (od : Int) (hod : -9223372036854775808 ≤ od ∧ od < 9223372036854775808) :
    Calls Try.prog 6 #[.int .i64 n, .slice ao len cap, .int .i64 od] w fun e w' => e = .returned (.bool true) ∧ Below w.heap.size w w' := by
  have C0 : Hid (Calls _ _ _ _ _) := awake_ok w
  have CW : Hid (∀ W, Calls Try.prog 10 #[.int .i64 n, .int .i64 300] W fun e w' => e = .returned (.int .i64 (n % 300)) ∧ w' = W) := fun W => within_any n 300 (by omega) (by omega) hn.1 hn.2 W
  have CWO : Hid (∀ W, Calls Try.prog 10 #[.int .i64 od, .int .i64 7] W fun e w' => e = .returned (.int .i64 (od % 7)) ∧ w' = W) := fun W => within_any od 7 (by omega) (by omega) hod.1 hod.2 W
  obtain ⟨N, hN⟩ : ∃ N : Nat, n % 300 = N := ⟨(n % 300).toNat, by omega⟩
  obtain ⟨o7, ho7⟩ : ∃ o : Nat, od % 7 = o := ⟨(od % 7).toNat, by omega⟩
  have hN3 : N < 300 := by omega
  have ho6 : o7 ≤ 6 := by omega
  rw [hN] at CW
  rw [ho7] at CWO
  have HF : Hid (Arg w ao len f) := hf
  have HFB : Hid (∀ i, i < len → -9223372036854775808 ≤ f i ∧ f i < 9223372036854775808) := hfb
  unfold maxLen at hl
  clear hn hod hN ho7 hf hfb
  go_enter Try.func6, Try.ntmps6
  go_wp2_with fail
  refine C0.out.mono ?_
  rintro e w0 ⟨rfl, g0⟩
  have HG0 : Hid (w.grownBy w0 none) := g0
  clear g0 C0
  go_wp2_with fail
  refine (CW.out _).mono ?_
  rintro e w1 ⟨rfl, h1⟩
  obtain rfl := h1.symm
  have C1 : Hid (Calls _ _ _ _ _) := New_ok N (by omega) w0
  clear CW
  go_wp2_with fail
  refine C1.out.mono ?_
  rintro e w2 ⟨G, p, rfl, B1, K1⟩
  have HP0 : Hid (Bst w w2 N p (.slice none 0 0) 0) := by
    have k0 := HG0.out
    refine ⟨nwL N, fun _ => none, op0 N, [], ⟨G, B1, Hd.nil _, (fun k _ z => by cases z), fun k hk => ⟨fun z => ?_, (fun z => by cases z), ?_⟩⟩, St.new N, Hk.nil, Nat.zero_le _, ?_⟩
    · rcases K1.new k z with y | y
      · exact y
      · have := k0.size; omega
    · have := k0.size; have := K1.size; omega
    · have := below_of k0 w.heap.size (Nat.le_refl _) (by simp)
      exact this.trans (K1.below w.heap.size k0.size (fun k z => z.elim))
  clear C1 B1 K1 HG0
  go_wp2_with fail
  go_loopw [9, 10] (fun y z wr => ∃ i : Nat, i ≤ len ∧ i ≤ 100 ∧ z = .int .i64 i ∧ ∃ v, v = y ∧ Bst w wr N p v i) (fun _ z _ => 100 - (iv z).toNat)
  case atStart => exact ⟨0, by omega, by omega, rfl, _, rfl, HP0.out⟩
  case round =>
    obtain ⟨i, hi, hi2, rfl, v, rfl, hP⟩ := hrel
    obtain ⟨L, tk, op, h, T, S, hk, hlen, hbw⟩ := hP
    have HT : Hid (One (fun k => k < w.heap.size) wr p v L tk h) := T
    have HS : Hid (St N op L tk) := S
    have HK : Hid (Hk h tk) := hk
    have HBW : Hid (Below w.heap.size w wr) := hbw
    clear T S hk hbw HP0
    by_cases hgo : i < len ∧ i < 100
    · obtain ⟨g1, g2⟩ := hgo
      obtain ⟨b, off, rfl, c0⟩ := HF.out.at' HBW.out g1
      have hfi := HFB.out i g1
      have HFI : Hid (-9223372036854775808 ≤ f i ∧ f i < 9223372036854775808) := hfi
      have g1I : (i : Int) < (len : Int) := by omega
      have g2I : (i : Int) < 100 := by omega
      clear hfi
      by_cases hpos : 0 ≤ f i
      · obtain ⟨o, ho, hto⟩ := tmod7 hpos
        rcases take_case L o with he | ⟨k, a, r, h1, h2, h3, h4⟩
        · have CT : Hid (Calls Try.prog 11 #[.pointer (some ⟨p, 0, none⟩), .int .i64 o] wr fun e w' => e = .returned (.tuple #[.int .i64 0, .int .i64 90]) ∧ w' = wr) := by
            obtain ⟨_, a1, _⟩ := HT.out
            exact Take_none a1 o ho he
          have HPQ : Hid (Bst w wr N p v (i + 1)) := ⟨L, tk, op, h, HT.out, HS.out, HK.out, by omega, HBW.out⟩
          clear he
          generalize f i = fi at *
          go_wp2_with (go_at_call 11; refine CT.out.mono ?_; rintro e w3 ⟨rfl, h3⟩; obtain rfl := h3.symm)
          exact ⟨⟨i + 1, by omega, by omega, by go_num, _, rfl, HPQ.out⟩, by simp [iv]; omega⟩
        · obtain ⟨st, hw, hm, hb, ht, _⟩ := HS.out.take h1 h2 h3 h4
          have ha : a < 4096 := by have := Nat.two_pow_pos o; omega
          have HS3 : Hid (St N (shut op o (a / 2 ^ o)) (tkL L o k a) (pt tk a (some o))) := st
          have CT : Hid (Calls Try.prog 11 #[.pointer (some ⟨p, 0, none⟩), .int .i64 o] wr fun e w' => e = .returned (.tuple #[.int .i64 a, .int .i64 0]) ∧ One (fun k => k < w.heap.size) w' p v (tkL L o k a) (pt tk a (some o)) h ∧ Below w.heap.size w w') := by
            obtain ⟨G, a1, a3, a5, a7⟩ := HT.out
            refine (Take_ok a1 (HS.out.len (by omega)) o k a r h1 h2 h3 h4 ha).mono ?_
            rintro e w' ⟨rfl, G', b', k'⟩
            obtain ⟨t, kp⟩ := One.prog a1.lt a3 a5 a7 b' k'
            exact ⟨rfl, t, kp_below HBW.out kp⟩
          have HK3 : Hid (Hk (h ++ [((a : Int), (o : Int))]) (pt tk a (some o))) := HK.out.add o ht
          clear st hw hm hb ht h1 h2 h3 h4
          generalize hfe : f i = fi at *
          go_wp2_with fail
          refine CT.out.mono ?_
          rintro e w3 ⟨rfl, t3, b3⟩
          have HT3 : Hid (One (fun k => k < w.heap.size) w3 p v (tkL L o k a) (pt tk a (some o)) h) := t3
          have HB3 : Hid (Below w.heap.size w w3) := b3
          obtain ⟨b', off', e', c3⟩ := HF.out.at' b3 g1
          rw [hfe] at c3
          cases e'
          obtain ⟨i0, hi0, hz0, hz1, hz2⟩ := info_parts Try.infoH
          have HUW : Hid (∀ W, Below w3.heap.size w3 W → W.ownsRow 0 38 2 v h.length (hv h)) := fun W hW => by
            obtain ⟨_, _, a3, _⟩ := HT3.out
            exact a3.of_eq (fun g hg => hW.block g (a3.lt g hg))
          clear t3 b3 CT c0 hfe
          go_wp2_with (at_builtin; refine wpList_append_lies _ rfl (.tmp 59) (.tmp 67) 32 rfl 0 38 i0 _ 2 16 Try.underlying32 hi0 hz0 hz1 hz2 rfl (by decide) v h.length (hv h) rfl (HUW.out _ ((Below.refl _ w3).alloc (Nat.le_refl _) _)) ⟨w3.heap.size, 0, none⟩ 1 1 (pc ((a : Int), (o : Int))) rfl rfl (news_pair w3 a o) (pc_one _) (by omega) (by unfold maxLen; omega) (by omega) (Nat.zero_le _) (w3.heap.size + 1) (by simp) ?_; intro g3 k3 w5 o3 gr3 at3 lt3)
          have HPQ : Hid (Bst w w5 N p (.slice (some ⟨g3, 0, none⟩) (h.length + 1) k3) (i + 1)) := by
            have hd5 : Hd w5 (.slice (some ⟨g3, 0, none⟩) (h.length + 1) k3) (h ++ [((a : Int), (o : Int))]) := by
              unfold Hd
              rw [hv_app, List.length_append]
              exact o3
            obtain ⟨t5, kp5⟩ := HT3.out.held ((World.grownBy_alloc w3 _ _).trans gr3) hd5 (fun c hc => by
              obtain rfl : g3 = c := by simpa [Value.ownBlock] using hc
              rcases at3 with z | z
              · exact Or.inl z
              · exact Or.inr (by omega))
            exact ⟨_, _, _, _, t5, HS3.out, HK3.out, by rw [List.length_append]; exact Nat.succ_le_succ hlen, kp_below HB3.out kp5⟩
          clear o3 gr3 at3 lt3 HUW HT3 HB3
          generalize Value.slice (some ⟨g3, 0, none⟩) (h.length + 1) k3 = vq at *
          exact ⟨⟨i + 1, by omega, by omega, by go_num, _, rfl, HPQ.out⟩, by simp [iv]; omega⟩
      · have hneg : f i < 0 := by omega
        obtain ⟨av, cv, hv⟩ : ∃ a c, v = .slice a h.length c := by
          obtain ⟨_, _, a3, _⟩ := HT.out
          exact a3.len
        subst hv
        obtain ⟨m, hm⟩ : ∃ m, h.length = m := ⟨_, rfl⟩
        have HM0 : Hid (h.length = m) := hm
        rw [hm] at hlen HT ⊢
        clear hm hpos
        by_cases hm0 : 0 < m
        · have hm0I : (0 : Int) < (m : Int) := by omega
          have CWA : Hid (∀ W, Calls Try.prog 10 #[.int .i64 (f i), .int .i64 m] W fun e w' => e = .returned (.int .i64 (f i % m)) ∧ w' = W) := fun W => within_any (f i) m hm0I (by omega) HFI.out.1 HFI.out.2 W
          obtain ⟨j, hj⟩ : ∃ j : Nat, f i % m = j := ⟨(f i % m).toNat, by have := Int.emod_nonneg (f i) (show (m : Int) ≠ 0 by omega); omega⟩
          have hjm : j < m := by have := Int.emod_lt_of_pos (f i) hm0I; omega
          rw [hj] at CWA
          have hjI : (j : Int) < (m : Int) := by omega
          have hj0 : (0 : Int) ≤ (j : Int) := by omega
          obtain ⟨a, o, hy, ht⟩ := HK.out.at (k := j) (by rw [HM0.out]; exact hjm)
          obtain ⟨q1, q2, q3, q4⟩ := HS.out.tk1 a o ht
          have HK3 : Hid (Hk (h.eraseIdx j) (pt tk a none)) := HK.out.del hy
          have CG : Hid (∀ W, Below wr.heap.size wr W → Calls Try.prog 13 #[.pointer (some ⟨p, 0, none⟩), .int .i64 a, .int .i64 o] W fun e w' => e = .returned (.int .i64 0) ∧ ∃ L', St N (opened op o (a / 2 ^ o)) L' (pt tk a none) ∧ One (fun k => k < w.heap.size) w' p (.slice av m cv) L' (pt tk a none) h ∧ Below w.heap.size w w') := fun W hW => by
            have hbW : Below w.heap.size w W := HBW.out.trans (hW.mono HBW.out.size)
            obtain ⟨G, a1, a3, a5, a7⟩ := (HT.out.new (below_grow hW)).1
            refine (Give_ok a1 (HS.out.len (by omega)) HS.out.up a o (by have := Nat.two_pow_pos o; omega) q1 q2 ht).mono ?_
            rintro e w' ⟨rfl, J, hT, G', b', k'⟩
            obtain ⟨t, kp⟩ := One.prog a1.lt a3 a5 a7 b' k'
            exact ⟨rfl, _, (HS.out.give ht hT).1, t, kp_below hbW kp⟩
          obtain ⟨g5, k5, e5, l5, d5, d6⟩ := (show ∃ g cap, Value.slice av m cv = .slice (some ⟨g, 0, none⟩) h.length cap ∧ g < wr.heap.size ∧ wr.cell? ⟨g, j * 2, none⟩ = some (.int .i64 a) ∧ wr.cell? ⟨g, j * 2 + 1, none⟩ = some (.int .i64 o) by
            obtain ⟨_, _, a3, _⟩ := HT.out
            exact a3.cell hy)
          rw [HM0.out] at e5
          cases e5
          clear hj hy ht q1 q2 q3 q4
          generalize f i = fi at *
          go_wp2_with (go_at_call 10; refine (CWA.out _).mono ?_; rintro e w3 ⟨rfl, h3⟩; obtain rfl := h3.symm)
          go_region_with (first | (go_at_call 13; refine (CG.out _ (by first | exact (Below.refl _ _).drew | exact Below.refl _ _)).mono ?_; rintro e w3 ⟨rfl, L3, s3, t3, b3⟩))
          all_goals (
            have HT3 : Hid (One (fun k => k < w.heap.size) w3 p (.slice (some ⟨g5, 0, none⟩) m cv) L3 (pt tk a none) h) := t3
            have HB3 : Hid (Below w.heap.size w w3) := b3
            have HS3 : Hid (St N (opened op o (a / 2 ^ o)) L3 (pt tk a none)) := s3
            have CWI : Hid (Calls _ _ _ _ _) := without_ok (show Hd w3 (.slice (some ⟨g5, 0, none⟩) m cv) h by obtain ⟨_, _, a3, _⟩ := t3; exact a3) (by rw [HM0.out]; omega) j
            clear s3 t3 b3 CG d5 d6 CWA
            go_wp2_with fail
            refine CWI.out.mono ?_
            rintro e w4 ⟨v4, rfl, h4, g4, n4⟩
            have HPQ : Hid (Bst w w4 N p v4 (i + 1)) := by
              obtain ⟨t4, kp4⟩ := HT3.out.held (grown_row g4 _) h4 (fun c hc => Or.inr (n4 c hc))
              exact ⟨_, _, _, _, t4, HS3.out, HK3.out, by have := List.length_eraseIdx_le h j; rw [HM0.out] at this; omega, kp_below HB3.out kp4⟩
            clear h4 g4 n4 CWI HT3 HB3
            go_wp2
            exact ⟨⟨i + 1, by omega, by omega, by go_num, _, rfl, HPQ.out⟩, by simp [iv]; omega⟩)
        · have HPQ : Hid (Bst w wr N p (.slice av m cv) (i + 1)) := ⟨L, tk, op, h, HT.out, HS.out, HK.out, by rw [HM0.out]; omega, HBW.out⟩
          have hm0I : ¬ ((0 : Int) < (m : Int)) := by omega
          generalize f i = fi at *
          go_wp2
          exact ⟨⟨i + 1, by omega, by omega, by go_num, _, rfl, HPQ.out⟩, by simp [iv]; omega⟩
    · obtain ⟨G, a1, a3, a5, a7⟩ := HT.out
      have HA1 : Hid (Bu wr G p L tk) := a1
      have HGP : Hid (∀ k, G k → w.heap.size ≤ k) := fun k hk => by
        by_cases z : k < w.heap.size
        · exact absurd hk (a7 k z).1
        · omega
      have HLE : Hid (∀ i, i < 7 → (L i).length ≤ 4096) := HS.out.len (by omega)
      have CL : Hid (Calls _ _ _ _ _) := Lists_any a1 HLE.out
      clear a1 a3 a5 a7 HT HK HF HFB
      rcases (show ¬ i < len ∨ (i < len ∧ ¬ i < 100) by omega) with g | ⟨g, g'⟩
      case' inl =>
        have gI : ¬ ((i : Int) < (len : Int)) := by omega
        go_wp2_with fail
      case' inr =>
        have gI : (i : Int) < (len : Int) := by omega
        have gI2 : ¬ ((i : Int) < 100) := by omega
        go_wp2_with fail
      all_goals (
        refine (CWO.out _).mono ?_
        rintro e w3 ⟨rfl, h3⟩
        obtain rfl := h3.symm
        go_wp2_with fail
        refine CL.out.mono ?_
        rintro e w4 ⟨v4, rfl, L4, g4⟩
        have HL4 : Hid (Ls wr.heap.size w4 v4 (fun i => ints (L i))) := L4
        have HA4 : Hid (Bu w4 G p L tk) := HA1.out.none g4
        have HB4 : Hid (Below w.heap.size w w4) := HBW.out.trans (below_of g4 _ HBW.out.size (by simp))
        have HGL : Hid (∀ k, G k → k < wr.heap.size) := HA1.out.lt
        obtain ⟨ga, ca, rfl, _⟩ := L4.cell
        clear L4 g4 CL HA1 CWO
        rcases take_case L o7 with he | ⟨k, a, r, h1, h2, h3, h4⟩
        · have CT : Hid (Calls _ _ _ _ _) := Take_none HA4.out o7 ho6 he
          have HC : Hid (∀ i, o7 ≤ i → i ≤ 6 → ∃ a c, w4.cell? ⟨ga, i, none⟩ = some (.slice a 0 c)) := fun i h1 h2 => by
            obtain ⟨g', c', e', _, hc⟩ := HL4.out.cell
            cases e'
            obtain ⟨a, c, e, _⟩ := hc i (by omega)
            rw [he i h1 h2] at e
            exact ⟨a, c, e⟩
          clear he
          go_wp2_with fail
          refine CT.out.mono ?_
          rintro e w5 ⟨rfl, h5⟩
          obtain rfl := h5.symm
          go_wp2_with fail
          go_loopw [17, 18] (fun y z wq => ∃ j : Nat, o7 ≤ j ∧ j ≤ 7 ∧ y = .int .i64 (-1) ∧ z = .int .i64 j ∧ wq = w4) (fun _ z _ => (7 - iv z).toNat)
          case atStart => exact ⟨o7, Nat.le_refl _, by omega, rfl, rfl, rfl⟩
          case round =>
            obtain ⟨j, h1, h2, rfl, rfl, hw⟩ := hrel
            obtain rfl := hw.symm
            by_cases hj : j ≤ 6
            · obtain ⟨a, c, hc⟩ := HC.out j h1 hj
              have hj0 : (0 : Int) ≤ (j : Int) := by omega
              have hj7 : (j : Int) < 7 := by omega
              go_wp2
              exact ⟨⟨j + 1, by omega, by omega, rfl, by go_num, by simp⟩, by simp [iv]; omega⟩
            · obtain rfl : j = 7 := by omega
              go_wp2
              go_ret
              exact ⟨rfl, HB4.out⟩
        · obtain ⟨st, hw, hm, hb, ht, _⟩ := HS.out.take h1 h2 h3 h4
          have ha : a < 4096 := by have := Nat.two_pow_pos o7; omega
          have CT : Hid (Calls _ _ _ _ _) := Take_ok HA4.out HLE.out o7 k a r h1 h2 h3 h4 ha
          have HS5 : Hid (St N (shut op o7 (a / 2 ^ o7)) (tkL L o7 k a) (pt tk a (some o7))) := st
          have HOW : Hid (opened (shut op o7 (a / 2 ^ o7)) o7 (a / 2 ^ o7) = op) := opened_shut hw
          have HAM : Hid (a % 2 ^ o7 = 0) := hm
          have HH3 : Hid (∀ i, o7 ≤ i → i < k → L i = []) := h3
          have HH4 : Hid (L k = a :: r) := h4
          clear st hw hm hb ht h3 h4
          go_wp2_with fail
          refine CT.out.mono ?_
          rintro e w5 ⟨rfl, G5, b5, k5⟩
          have HB5 : Hid (Bu w5 G5 p (tkL L o7 k a) (pt tk a (some o7))) := b5
          have HK5 : Hid (Kp G G5 w4 w5) := k5
          have HL5 : Hid (Ls wr.heap.size w5 (.slice (some ⟨ga, 0, none⟩) 7 ca) (fun i => ints (L i))) := HL4.out.far k5 HGL.out
          have HC : Hid (∀ i, o7 ≤ i → i < k → ∃ a c, w5.cell? ⟨ga, i, none⟩ = some (.slice a 0 c)) := fun i h1 h2 => by
            obtain ⟨g', c', e', _, hc⟩ := HL5.out.cell
            cases e'
            obtain ⟨a, c, e, _⟩ := hc i (by omega)
            rw [HH3.out i h1 h2] at e
            exact ⟨a, c, e⟩
          obtain ⟨g', c', e', _, hc⟩ := HL5.out.cell
          cases e'
          obtain ⟨b1, c1, e1, o1⟩ := hc k (by omega)
          simp only [HH4.out] at e1 o1
          obtain ⟨b2, c2, e2, e3⟩ := o1.cell (k := 0) (t := (a : Int)) (by simp [ints])
          cases e2
          have hln : (ints (a :: r)).length = r.length + 1 := by simp [ints]
          rw [hln] at e1
          obtain ⟨m0, hm0⟩ : ∃ m, r.length = m := ⟨_, rfl⟩
          rw [hm0] at e1
          clear b5 k5 CT hc o1 hln hm0
          have CG : Hid (Calls _ _ _ _ _) := Give_ok HB5.out (HS5.out.len (by omega)) HS5.out.up a o7 ha ho6 HAM.out (by simp [pt])
          go_wp2_with fail
          go_loopw [17, 18] (fun y z wq => ((∃ j : Nat, o7 ≤ j ∧ j ≤ k ∧ y = .int .i64 (-1) ∧ z = .int .i64 j) ∨ (y = .int .i64 a ∧ z = .int .i64 (k + 1 : Nat))) ∧ wq = w5) (fun _ z _ => (8 - iv z).toNat)
          case atStart => exact ⟨Or.inl ⟨o7, Nat.le_refl _, h1, rfl, rfl⟩, rfl⟩
          case round =>
            obtain ⟨hq, hw⟩ := hrel
            obtain rfl := hw.symm
            rcases hq with ⟨j, q1, q2, rfl, rfl⟩ | ⟨rfl, rfl⟩
            · have hj0 : (0 : Int) ≤ (j : Int) := by omega
              have hj7 : (j : Int) < 7 := by omega
              by_cases hj : j < k
              · obtain ⟨a', c', hc⟩ := HC.out j q1 hj
                clear e1 e3
                go_wp2
                exact ⟨⟨Or.inl ⟨j + 1, by omega, by omega, rfl, by go_num⟩, by simp⟩, by simp [iv]; omega⟩
              · obtain rfl : j = k := by omega
                have hm1 : (0 : Int) < (m0 : Int) + 1 := by omega
                go_wp2
                exact ⟨⟨Or.inr ⟨rfl, by go_num⟩, by simp⟩, by simp [iv]; omega⟩
            · have hane : ¬ ((a : Int) < 0) := by omega
              rcases Classical.em (((k + 1 : Nat) : Int) < 7) with hk7 | hk7
              case' inl =>
                go_wp2_with fail
              case' inr =>
                go_wp2_with fail
              all_goals (
                refine CG.out.mono ?_
                rintro e w6 ⟨rfl, J, hT, G6, b6, k6⟩
                have st6 := (HS5.out.give (by simp [pt]) hT).1
                rw [HOW.out] at st6
                have HLL : Hid (∀ i, i ≤ 6 → gvE (tkL L o7 k a) o7 a J i = L i) := back_same HS.out st6 rfl
                have HB6 : Hid (Below w.heap.size w w6) := HB4.out.trans ((HK5.out.trans k6).below w.heap.size HB4.out.size HGP.out)
                have HL6 : Hid (Ls wr.heap.size w6 (.slice (some ⟨ga, 0, none⟩) 7 ca) (fun i => ints (L i))) := HL4.out.far (HK5.out.trans k6) HGL.out
                have CL7 : Hid (Calls _ _ _ _ _) := Lists_any b6 (st6.len (by omega))
                clear hT b6 k6 CG e1 e3 st6
                go_wp2_with fail
                refine CL7.out.mono ?_
                rintro e w7 ⟨v7, rfl, L7, g7⟩
                have HL7 : Hid (Ls w6.heap.size w7 v7 (fun i => ints (L i))) := by
                  obtain ⟨g', c', F, V, e', R, hF⟩ := L7
                  exact ⟨g', c', F, V, e', R.congr (fun i hi => by rw [HLL.out i (by omega)]), hF⟩
                have HL67 : Hid (Ls wr.heap.size w7 (.slice (some ⟨ga, 0, none⟩) 7 ca) (fun i => ints (L i))) := HL6.out.none g7
                have HB7 : Hid (Below w.heap.size w w7) := HB6.out.trans (below_of g7 _ HB6.out.size (by simp))
                obtain ⟨gn, cn, rfl, _⟩ := L7.cell
                clear L7 g7 CL7
                go_wp2_with fail
                go_loopw [20] (fun z wq => ∃ j : Nat, j ≤ 7 ∧ z = .int .i64 j ∧ w7.grownBy wq none) (fun z _ => 7 - (iv z).toNat)
                case atStart => exact ⟨0, by omega, rfl, World.grownBy.refl _ _⟩
                case round =>
                  obtain ⟨j, hj, rfl, hb⟩ := hrel
                  have HBR : Hid (w7.grownBy wr none) := hb
                  by_cases hlt : j < 7
                  · obtain ⟨g1', c1', e1, _, q1⟩ := (HL67.out.none hb).cell
                    obtain ⟨g2', c2', e2, _, q2⟩ := (HL7.out.none hb).cell
                    cases e1
                    cases e2
                    obtain ⟨a1, k1, d1, o1⟩ := q1 j hlt
                    obtain ⟨a2, k2, d2, o2⟩ := q2 j hlt
                    have hlI : (j : Int) < 7 := by omega
                    have hk0 : (0 : Int) ≤ (j : Int) := by omega
                    have hll := HLE.out j hlt
                    simp only [ints_len] at d1 d2 o1 o2
                    have CE : Hid (∀ W, Below wr.heap.size wr W → Calls Try.prog 26 #[.slice a1 (L j).length k1, .slice a2 (L j).length k2] W fun e w' => e = .returned (.bool true) ∧ W.grownBy w' none) := fun W hW => eq_ok (o1.of_eq (fun g hg => hW.block g (o1.lt g hg))) (o2.of_eq (fun g hg => hW.block g (o2.lt g hg))) (by rw [ints_len]; omega)
                    clear q1 q2 o1 o2 hb hll
                    generalize (L j).length = mm at *
                    go_wp2
                    go_region_with (first | (go_at_call 26; refine (CE.out _ (by first | exact (Below.refl _ _).drew | exact Below.refl _ _)).mono ?_; rintro e w8 ⟨rfl, g8⟩))
                    all_goals (
                      have HB8 : Hid (w7.grownBy w8 none) := HBR.out.trans ((grown_drew _ _).trans g8)
                      clear g8 d1 d2 CE
                      go_wp2
                      exact ⟨⟨j + 1, by omega, by go_num, HB8.out⟩, by simp [iv]; omega⟩)
                  · obtain rfl : j = 7 := by omega
                    have HBF : Hid (Below w.heap.size w wr) := HB7.out.trans (below_of hb _ HB7.out.size (by simp))
                    clear hb
                    go_wp2
                    go_ret
                    exact ⟨rfl, HBF.out⟩))
end Go.Proofs.Ytdlkmeopiilmdaa
