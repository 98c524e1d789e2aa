/- The law FramesLast walked. -/
import Derived.Test.YtbfagelmijimeaaAp
namespace Go.Proofs.Ytbfagelmijimeaa
open Go.ChangeShapes Go.WideShapes Go.ChangeAt Go.RowKit
set_option linter.unusedVariables false

theorem mod_mul (v A Q : Int) (hA : 0 < A) (hQ : 0 < Q) : v % (A * Q) = v % A + v / A % Q * A := by
  have h1 := Int.emod_add_mul_ediv (v % (A * Q)) A
  rw [mod_div v A Q hA hQ, Int.emod_emod_of_dvd _ ⟨Q, rfl⟩] at h1
  rw [Int.mul_comm (v / A % Q) A]
  exact h1.symm
theorem num_byt (f : Nat → Int) (v : Int) (a s : Nat) : ∀ k, k ≤ s → num (lay f a s (byt v)) a k = v % 256 ^ k
  | 0, _ => by simp [num, Int.emod_one]
  | k + 1, hk => by
    have e : lay f a s (byt v) (a + k) = byt v k := by
      unfold lay
      rw [if_pos (by omega), Nat.add_sub_cancel_left]
    simp only [num]
    rw [num_byt f v a s k (by omega), e, Int.pow_succ, mod_mul v _ 256 (pow256 k) (by decide)]
    rfl
theorem div_next (v : Int) (k : Nat) : v / 256 ^ k / 256 = v / 256 ^ (k + 1) := by
  rw [Int.ediv_ediv_of_nonneg (Int.le_of_lt (pow256 k)), Int.pow_succ]
/-- A memory and a list beside it that hold the same bytes, and the boxed struct. -/
structure Bes (w0 : World) (p g o n : Nat) (vs : List Value) (w : World) (f u : Nat → Int) : Prop where
  m : Mem w p g n f
  l : By w o (n * 256) u
  bx : Bx w w0.heap.size vs
  lt : w0.heap.size < p ∧ w0.heap.size < g ∧ w0.heap.size < o
  ne : o ≠ p ∧ o ≠ g
  bel : Below w0.heap.size w0 w
theorem Bes.turnM {w0 w w' : World} {p g o n : Nat} {vs : List Value} {f f' u : Nat → Int} (P : Bes w0 p g o n vs w f u) (hM : Mem w' p g n f') (gr : w.grownBy w' (some g)) : Bes w0 p g o n vs w' f' u := by
  obtain ⟨l1, l2, l3⟩ := P.lt
  exact ⟨hM, P.l.kept gr (some_ne P.ne.2), P.bx.kept gr (some_ne (by omega)), P.lt, P.ne, P.bel.grown gr P.bel.size (by intro k hk; injection hk; omega)⟩
theorem Bes.turnL {w0 w : World} {p g o n : Nat} {vs : List Value} {f u : Nat → Int} (P : Bes w0 p g o n vs w f u) (k : Nat) (v : Int) : Bes w0 p g o n vs (w.setCell ⟨o, k, none⟩ (.int .u8 v)) f (upd u k v) := by
  obtain ⟨l1, l2, l3⟩ := P.lt
  have gr := grown_setCell' w o k (.int .u8 v)
  exact ⟨P.m.kept gr (some_ne P.ne.1.symm) (some_ne P.ne.2.symm), P.l.set k v, P.bx.kept gr (some_ne (by omega)), P.lt, P.ne, P.bel.grown gr P.bel.size (by intro k hk; injection hk; omega)⟩
theorem Bes.grow {w0 w w' : World} {p g o n : Nat} {vs : List Value} {f u : Nat → Int} (P : Bes w0 p g o n vs w f u) (gr : w.grownBy w' none) : Bes w0 p g o n vs w' f u :=
  ⟨P.m.kept gr (by simp) (by simp), P.l.kept gr (by simp), P.bx.kept gr (by simp), P.lt, P.ne, P.bel.grown gr P.bel.size (by simp)⟩
theorem Bes.congr {w0 w : World} {p g o n : Nat} {vs : List Value} {f f' u u' : Nat → Int} (P : Bes w0 p g o n vs w f u) (e : ∀ i, i < n * 256 → f i = f' i) (e' : ∀ i, i < n * 256 → u i = u' i) : Bes w0 p g o n vs w f' u' :=
  ⟨P.m.congr e, P.l.congr e', P.bx, P.lt, P.ne, P.bel⟩
theorem Bes.start {w0 w1 w2 w3 : World} {p g o n : Nat} {cs : Array Value} {t : TypeId} (hb1 : Below (w0.alloc (.cells cs t)).heap.size (w0.alloc (.cells cs t)) w1)
    (hM : Mem w2 p g n (fun _ => 0)) (gr : w1.grownBy w2 none) (hp : w1.heap.size ≤ p) (hg : w1.heap.size ≤ g) (hB : By w3 o (n * 256) (fun _ => 0)) (gr2 : w2.grownBy w3 none) (ho : w2.heap.size ≤ o) :
    Bes w0 p g o n cs.toList w3 (fun _ => 0) (fun _ => 0) := by
  have s1 := hb1.size
  simp at s1
  have l1 := hM.lt
  have l2 := hM.by'.1
  have bx1 : Bx w1 w0.heap.size cs.toList := by
    have := bx_new w0 cs t
    exact ⟨by omega, fun i v hv => (hb1.cell (by simp)).trans (this.2 i v hv)⟩
  have b0 : Below w0.heap.size w0 (w0.alloc (.cells cs t)) := (Below.refl _ _).alloc (Nat.le_refl _) _
  have b1 : Below w0.heap.size w0 w1 := b0.trans (hb1.mono (by simp))
  have b2 := b1.grown gr b1.size (by simp)
  exact ⟨hM.kept gr2 (by simp) (by simp), hB, (bx1.kept gr (by simp)).kept gr2 (by simp), ⟨by omega, by omega, by omega⟩, ⟨by omega, by omega⟩, b2.grown gr2 b2.size (by simp)⟩
theorem bx_after {w0 w1 : World} {cs : Array Value} {t : TypeId} (hb1 : Below (w0.alloc (.cells cs t)).heap.size (w0.alloc (.cells cs t)) w1) : Bx w1 w0.heap.size cs.toList := by
  have s1 := hb1.size
  simp at s1
  have := bx_new w0 cs t
  exact ⟨by omega, fun i v hv => (hb1.cell (by simp)).trans (this.2 i v hv)⟩
theorem upd_lay (f1 : Nat → Int) (n i : Nat) (hn : 2 ≤ n) (hi : i < 256) : upd (lay f1 ((n - 1) * 256) 256 (fun i => f1 (0 * 256 + i))) 0 (255 - f1 0) ((n - 1) * 256 + i) = f1 i := by
  unfold upd
  rw [if_neg (by omega)]
  unfold lay
  rw [if_pos (by omega), Nat.add_sub_cancel_left]
  show f1 (0 * 256 + i) = f1 i
  rw [Nat.zero_mul, Nat.zero_add]
set_option maxRecDepth 100000 in
set_option maxHeartbeats 8000000 in
theorem last_walk (w : World) (aA : Option Addr) (lA cA : Nat) (aB : Option Addr) (lB cB : Nat) (At Size V Fr : Int) (fA : Nat → Int) (hl : lA ≤ maxLen) (hA : Arg w aA lA fA) (hok : okB lA fA)
    (hAt0 : -9223372036854775808 ≤ At) (hAt1 : At < 9223372036854775808) (hS0 : -9223372036854775808 ≤ Size) (hS1 : Size < 9223372036854775808) (hF0 : -9223372036854775808 ≤ Fr) (hF1 : Fr < 9223372036854775808)
    (hV0 : 0 ≤ V) (hV1 : V < 18446744073709551616) :
    Calls Try.prog 4 #[.agg (twoV aA lA cA aB lB cB At Size V Fr).toArray] w fun e w' => e = .returned (.bool true) ∧ Below w.heap.size w w' := by
  have HA : Hid (Arg w aA lA fA) := hA
  have HO : Hid (okB lA fA) := hok
  clear hA hok
  unfold maxLen at hl
  obtain ⟨i0, hi, hz0, hz1, hz2⟩ := info_parts Try.infoU
  unfold twoV
  go_enter Try.func4, Try.ntmps4
  go_wp2_with fail
  refine (works_any _).mono ?_
  rintro e w1 ⟨rfl, hb1⟩
  have hbx := bx_after hb1
  have c5 : w1.cell? ⟨w.heap.size, 5, none⟩ = some (.int .i64 Fr) := hbx.2 5 _ rfl
  clear hbx
  have HB1 : Hid (Below _ _ w1) := hb1
  clear hb1
  have r1 := Int.lt_tmod_of_pos Fr (show (0 : Int) < 6 by omega)
  have r2 := Int.tmod_lt_of_pos Fr (show (0 : Int) < 6 by omega)
  go_wp2_with fail
  have r3 := Int.emod_nonneg (Fr.tmod 6) (show (6 : Int) ≠ 0 by omega)
  have r4 := Int.emod_lt_of_pos (Fr.tmod 6) (show (0 : Int) < 6 by omega)
  generalize Fr.tmod 6 % 6 = z at *
  obtain ⟨n, hn⟩ := Int.eq_ofNat_of_zero_le (show 0 ≤ 2 + z by omega)
  rw [hn]
  have hn2 : 2 ≤ n ∧ n ≤ 7 := by omega
  clear hn r3 r4 r1 r2 c5
  refine (New_ok n (by omega) (by omega) w1).mono ?_
  rintro e w2 ⟨p, g, rfl, hM, gr, hp, hg⟩
  have hbx := (bx_after HB1.out).kept gr (by simp)
  have c2 : w2.cell? ⟨w.heap.size, 2, none⟩ = some (.int .i64 At) := hbx.2 2 _ rfl
  have c3 : w2.cell? ⟨w.heap.size, 3, none⟩ = some (.int .i64 Size) := hbx.2 3 _ rfl
  clear hbx
  have HM : Hid (Mem w2 p g n _) := hM
  have GR : Hid (w1.grownBy w2 none) := gr
  clear hM gr
  have r1 := Int.lt_tmod_of_pos At (show (0 : Int) < 256 * n by omega)
  have r2 := Int.tmod_lt_of_pos At (show (0 : Int) < 256 * n by omega)
  have r3 := Int.lt_tmod_of_pos Size (show (0 : Int) < 8 by omega)
  have r4 := Int.tmod_lt_of_pos Size (show (0 : Int) < 8 by omega)
  have ez : (256 * (n : Int)) ≠ 0 := by omega
  go_wp2_with (at_make; refine wpList_make_full _ rfl _ _ 33 rfl w2.heap.size 5 i0 (.int .u8 0) 1 Try.underlying33 hi hz0 hz1 _ _ _ _ (n * 256) rfl rfl (by omega) (by omega) (by rw [hz2]; omega) (by unfold maxLen; omega) (Nat.le_refl _) ?_; intro w3 hown3 hgrow3)
  have hP : Bes w p g w2.heap.size n (twoV aA lA cA aB lB cB At Size V Fr) w3 (fun _ => 0) (fun _ => 0) := Bes.start HB1.out HM.out GR.out hp hg (made_By hown3) hgrow3 (Nat.le_refl _)
  clear HB1 HM GR hown3 hgrow3 hp hg c2 c3
  generalize w2.heap.size = o at *
  generalize hvs : twoV aA lA cA aB lB cB At Size V Fr = vs at hP
  have g0 : Hid (vs[0]? = some (.slice aA lA cA)) := by rw [← hvs]; rfl
  have g4 : Hid (vs[4]? = some (.int .u64 V)) := by rw [← hvs]; rfl
  clear hvs
  have q1 := Int.emod_nonneg (At.tmod (256 * n)) ez
  have q2 := Int.emod_lt_of_pos (At.tmod (256 * n)) (show 0 < 256 * (n : Int) by omega)
  have q3 := Int.emod_nonneg (Size.tmod 8) (show (8 : Int) ≠ 0 by omega)
  have q4 := Int.emod_lt_of_pos (Size.tmod 8) (show (0 : Int) < 8 by omega)
  generalize At.tmod (256 * n) % (256 * n) = za at *
  generalize Size.tmod 8 % 8 = zs at *
  obtain ⟨a0, rfl⟩ := Int.eq_ofNat_of_zero_le q1
  obtain ⟨s, hs⟩ := Int.eq_ofNat_of_zero_le (show 0 ≤ 1 + zs by omega)
  rw [hs]
  have hs2 : 1 ≤ s ∧ s ≤ 8 := by omega
  clear hs q3 q4 r1 r2 r3 r4 q1
  have HP : Hid (Bes w p g o n vs w3 (fun _ => 0) (fun _ => 0)) := hP
  clear hP
  go_loopw [10] (fun i wr => ∃ k : Nat, k ≤ lA ∧ k ≤ n * 256 ∧ i = .int .i64 k ∧ Bes w p g o n vs wr (lay (fun _ => 0) 0 k fA) (lay (fun _ => 0) 0 k fA)) (fun i _ => n * 256 - (intOf i).toNat)
  case atStart => exact ⟨0, by omega, by omega, rfl, HP.out.congr (fun i _ => (lay_zero (fun _ => 0) 0 fA i).symm) (fun i _ => (lay_zero (fun _ => 0) 0 fA i).symm)⟩
  case round =>
    clear HP
    obtain ⟨k, hk1, hk2, rfl, hP⟩ := hrel
    have c0 := hP.bx.2 0 _ g0.out
    have HP : Hid (Bes w p g o n vs wr _ _) := hP
    clear hP
    by_cases hlt : k < lA ∧ k < n * 256
    · obtain ⟨t1, t2⟩ := hlt
      obtain ⟨b, off, rfl, hbs, hc⟩ := (HA.out.below HP.out.bel).lt (by omega)
      have hck := hc k t1
      obtain ⟨v0, v1⟩ := HO.out k t1
      obtain ⟨x1, x2⟩ := HP.out.l.2 k t2
      clear hc
      generalize lay (fun _ => 0) 0 k fA k = old at x1
      have HQ : Hid (Bes w p g o n vs (wr.setCell ⟨o, k, none⟩ (.int .u8 (fA k))) _ _) := HP.out.turnL k (fA k)
      have c0' := HQ.out.bx.2 0 _ g0.out
      obtain ⟨b', off', e', hbs', hc⟩ := (HA.out.below HQ.out.bel).lt (by omega)
      cases e'
      have hck' := hc k t1
      clear hc HP
      go_wp2_with fail
      refine (SetByte_ok HQ.out.m (by omega) k (by omega) (fA k) v0 v1).mono ?_
      rintro e w5 ⟨rfl, hM, gr⟩
      have HP5 : Hid (Bes w p g o n vs w5 _ _) := HQ.out.turnM hM gr
      clear hM gr
      go_wp2
      go_roundw
      case rel => exact ⟨k + 1, by omega, by omega, by go_num, HP5.out.congr (fun i _ => (lay_upd fA k i).symm) (fun i _ => (lay_upd fA k i).symm)⟩
      case measure => simp [intOf]; omega
    · generalize lay (fun _ => 0) 0 k fA = f0 at HP
      have c4 := HP.out.bx.2 4 _ g4.out
      have hgt : ∃ a : Nat, a + s ≤ n * 256 ∧ (a0 + s ≤ n * 256 ∧ a = a0 ∨ n * 256 < a0 + s ∧ (256 * (n : Int) - s = a)) := by
        by_cases hh : a0 + s ≤ n * 256
        · exact ⟨a0, hh, Or.inl ⟨hh, rfl⟩⟩
        · exact ⟨n * 256 - s, by omega, Or.inr ⟨by omega, by omega⟩⟩
      obtain ⟨a, hal, hcase⟩ := hgt
      rcases (show k < lA ∧ ¬ k < n * 256 ∨ ¬ k < lA by omega) with ⟨t1, t2⟩ | t1 <;> rcases hcase with ⟨hh, rfl⟩ | ⟨hh, ha⟩ <;> (
        go_wp2_with fail
        try rw [ha]
        refine (Store_ok HP.out.m (by omega) a s (by omega) (by omega) (by omega) V hV0 hV1).mono ?_
        rintro e w8 ⟨rfl, hM, gr⟩
        have HQ : Hid (Bes w p g o n vs w8 (lay f0 a s (byt V)) f0) := HP.out.turnM hM gr
        clear hM gr c4 HP c0
        try clear ha
        have c4 := HQ.out.bx.2 4 _ g4.out
        go_wp2_with fail
        go_loopw [11, 12] (fun v i wr => ∃ j : Nat, j ≤ s ∧ i = .int .i64 j ∧ v = .int .u64 (V / 256 ^ j) ∧ Bes w p g o n vs wr (lay f0 a s (byt V)) (lay f0 a j (byt V))) (fun _ i _ => s - (intOf i).toNat)
        case atStart => exact ⟨0, by omega, rfl, by rw [Int.pow_zero, Int.ediv_one], HQ.out.congr (fun _ _ => rfl) (fun i _ => (lay_zero _ _ _ i).symm)⟩
        case round =>
          clear HQ c4
          obtain ⟨j, hj, rfl, rfl, hQ⟩ := hrel
          have HQ : Hid (Bes w p g o n vs _ _ _) := hQ
          clear hQ
          by_cases hjs : j < s
          · have HL : Hid (∃ lo : Int, lo = V / 256 ^ j) := ⟨_, rfl⟩
            obtain ⟨lo, hlo⟩ := HL
            have lo0 : 0 ≤ lo := by rw [hlo]; exact Int.ediv_nonneg hV0 (Int.le_of_lt (pow256 j))
            have lo1 : lo ≤ V := by rw [hlo]; exact Int.ediv_le_self _ hV0
            rw [← hlo]
            have HL : Hid (lo = V / 256 ^ j) := hlo
            clear hlo
            obtain ⟨x1, x2⟩ := HQ.out.l.2 (a + j) (by omega)
            generalize lay f0 a j (byt V) (a + j) = old at x1
            go_wp2
            go_roundw
            case rel =>
              have hb : byt V j = lo % 256 := by rw [HL.out]; rfl
              refine ⟨j + 1, by omega, by go_num, by rw [HL.out, div_next], ?_⟩
              rw [← hb]
              exact (HQ.out.turnL (a + j) (byt V j)).congr (fun _ _ => rfl) (fun i _ => (lay_next f0 a j _ i).symm)
            case measure => simp [intOf]; omega
          · obtain rfl : j = s := by omega
            have HNB : Hid (num (lay f0 a j (byt V)) a j = V % 256 ^ j) := num_byt f0 V a j j (Nat.le_refl _)
            generalize lay f0 a j (byt V) = f1 at *
            generalize V / 256 ^ j = lo at *
            go_wp2_with fail
            go_loop [13] (fun i => ∃ t : Nat, t ≤ n * 256 ∧ i = .int .i64 t) (fun i => n * 256 - (intOf i).toNat)
            case atStart => exact ⟨0, by omega, rfl⟩
            case round =>
              obtain ⟨t, ht, rfl⟩ := hrel
              by_cases htn : t < n * 256
              · have x1 := (HQ.out.l.2 t htn).1
                go_wp2_with fail
                refine (Byte_ok HQ.out.m (by omega) t htn).mono ?_
                rintro e w11 ⟨rfl, rfl⟩
                generalize f1 t = ft at *
                go_wp2
                go_round
                case rel => exact ⟨t + 1, by omega, by go_num⟩
                case measure => simp [intOf]; omega
              · have c4 := HQ.out.bx.2 4 _ g4.out
                go_wp2_with fail
                refine (Load_ok HQ.out.m (by omega) a j (by omega) (by omega) (by omega)).mono ?_
                rintro e w11 ⟨rfl, rfl⟩
                rw [HNB.out]
                clear HNB
                have hp0 := pow256 j
                rcases (show j < 8 ∨ j = 8 by omega) with h8 | h8
                case' inl =>
                  have h8' : (j : Int) < 8 := by omega
                  have hp1 := pow_lt j h8
                  have hw8 := wrap8 j (by omega)
                  have hsw : IntKind.u64.wrap (2 ^ (8 * (j : Int)).toNat) = 256 ^ j := by
                    rw [show (8 * (j : Int)).toNat = 8 * j by omega, pow8, IntKind.wrap_u64, Int.emod_eq_of_lt (by omega) (by omega)]
                  have hsn : (2 : Int) ^ (8 * j) = 256 ^ j := pow8 j
                  generalize (256 : Int) ^ j = pc at *
                  have hpn : pc ≠ 0 := by omega
                  go_wp2_with fail
                  go_quiet (fail)
                  have HR : Hid (Bes w p g o n vs (w11.drewN nq) f1 f1) := HQ.out.grow (grown_drewN _ _ _)
                  clear c4 HQ hsw hsn hw8
                  generalize w11.drewN nq = w12 at *
                  have x0 := (HR.out.l.2 0 (by omega)).1
                  go_wp2_with fail
                case' inr =>
                  have hv8 : V % 256 ^ j = V := by rw [h8, show (256 : Int) ^ 8 = 18446744073709551616 by decide, Int.emod_eq_of_lt hV0 hV1]
                  rw [hv8]
                  clear hv8 hp0
                  have HR : Hid (Bes w p g o n vs w11 f1 f1) := HQ.out
                  clear HQ
                  have x0 := (HR.out.l.2 0 (by omega)).1
                  have hj8 : ¬ (j : Int) < 8 := by omega
                  have hj9 : ¬ j < 8 := by omega
                  clear h8
                  go_wp2_with fail
                all_goals (
                  have C := Copy_ok HR.out.m (by omega) (n - 1) 0 (by omega) (by omega)
                  rw [show ((n - 1 : Nat) : Int) = (n : Int) - 1 by omega] at C
                  refine C.mono ?_
                  clear C
                  rintro e w13 ⟨rfl, hM, gr⟩
                  have HS : Hid (Bes w p g o n vs w13 _ f1) := HR.out.turnM hM gr
                  clear hM gr x0
                  have x0 := (HS.out.l.2 0 (by omega)).1
                  obtain ⟨z0, z1⟩ := HR.out.m.ok 0 (by omega)
                  have hnu := not_u8 (f1 0) z0 z1
                  clear HR
                  go_wp2_with fail
                  refine (SetByte_ok HS.out.m (by omega) 0 (by omega) (255 - f1 0) (by omega) (by omega)).mono ?_
                  rintro e w14 ⟨rfl, hM, gr⟩
                  have HT : Hid (Bes w p g o n vs w14 _ f1) := HS.out.turnM hM gr
                  clear hM gr HS x0 hnu
                  have C := Page_ok HT.out.m (by omega) (n - 1) (by omega)
                  rw [show ((n - 1 : Nat) : Int) = (n : Int) - 1 by omega] at C
                  have HC : Hid (Calls _ _ _ _ _) := C
                  clear C
                  go_wp2_with fail
                  refine HC.out.mono ?_
                  rintro e w15 ⟨b1, rfl, hB1, gr, hl1⟩
                  have HU : Hid (Bes w p g o n vs w15 _ f1) := HT.out.grow gr
                  have HA1 : Hid (Arg w15 (some ⟨b1, 0, none⟩) 256 f1) := (hB1.congr (fun i hi => upd_lay f1 n i (by omega) hi)).arg
                  have HA2 : Hid (Arg w15 (some ⟨o, 0, none⟩) 256 f1) := (HU.out.l.less (by omega)).arg
                  clear hB1 gr HT HC
                  go_wp2_with fail
                  refine (same_any (by unfold maxLen; omega) HA1.out HA2.out).mono ?_
                  rintro e w16 ⟨rfl, gr⟩
                  have HV : Hid (Bes w p g o n vs w16 _ f1) := HU.out.grow gr
                  clear gr HU
                  go_wp2
                  go_ret
                  exact ⟨rfl, HV.out.bel⟩))
end Go.Proofs.Ytbfagelmijimeaa
