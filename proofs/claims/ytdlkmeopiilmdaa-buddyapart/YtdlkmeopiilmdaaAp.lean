/- BuddyApart: blocks share no place, and all comes together again; no condition but the ranges of ints. -/
import Derived.Test.YtdlkmeopiilmdaaPc
namespace Go.Proofs.Ytdlkmeopiilmdaa
open Go.ChangeShapes Go.WideShapes Go.ChangeAt Go.RowKit
set_option linter.unusedVariables false

/-- A slice's length. -/
def sl : Value → Nat
  | .slice _ n _ => n
  | _ => 0
theorem tmod_7 {x : Int} (h : 0 ≤ x) : ∃ o : Nat, o ≤ 6 ∧ x.tmod 7 = (o : Int) := by
  refine ⟨(x % 7).toNat, by omega, ?_⟩
  rw [Int.tmod_eq_emod_of_nonneg h]
  omega
/-- No block of the order is open just if there is none of it or above. -/
theorem St.no_wh {n : Nat} {op : Nat → Bool} {L : Nat → List Nat} {tk : Nat → Option Nat} (h : St n op L tk) {o : Nat} (ho : o ≤ 6) (he : ∀ i, o ≤ i → i ≤ 6 → L i = []) : ¬ ∃ q, wh op o q := by
  rintro ⟨q, hw⟩
  obtain ⟨j, h1, h2, h3⟩ := climb (6 - o) o q (by omega) hw
  have := ((h.fit j h2).2 (q / 2 ^ (j - o) * 2 ^ j)).2 ⟨mul_mod _ _, by rw [mul_div]; exact h3⟩
  rw [he j h1 h2] at this
  simp at this
/-- When nothing is taken the free blocks are those of the beginning. -/
theorem St.fresh {n : Nat} {op : Nat → Bool} {L : Nat → List Nat} {tk : Nat → Option Nat} (h : St n op L tk) (ht : ∀ x, tk x = none) : ∀ k, k ≤ 6 → L k = nwL n k := by
  have hf := cnt_full n (h.whole.1 ht)
  have e : op = op0 n := by
    funext i
    unfold op0
    by_cases hi : i < n
    · rw [hf i hi]
      simp [hi]
    · cases q : op i with
      | true => exact absurd (h.lt i q) hi
      | false => simp; omega
  subst e
  exact fun k hk => (h.fit k hk).uniq (nw_fit n k hk)
/-- What the first loop has. -/
def Ast (P : Nat → Prop) (w4 wr : World) (N p g : Nat) (v : Value) (i s : Nat) : Prop := ∃ L tk op h, One P wr p v L tk h ∧ St N op L tk ∧ Hk h tk ∧ Pls wr g N op ∧ h.length ≤ i ∧ fr L + hs h = N ∧ s = hs h ∧ Kp (NB P g) (NB P g) w4 wr
theorem Ast.new {P : Nat → Prop} {w4 wr W : World} {N p g : Nat} {v : Value} {i s : Nat} (h : Ast P w4 wr N p g v i s) (hg : P g) (k : wr.grownBy W none) : Ast P w4 W N p g v i s := by
  obtain ⟨L, tk, op, hh, T, S, hk, hp, hl, hf, hs, kp⟩ := h
  exact ⟨L, tk, op, hh, (T.new k).1, S, hk, hp.of_eq k.size (k.block g hp.lt (by simp)), hl, hf, hs, kp.trans (Kp.of_none k)⟩
set_option maxRecDepth 100000 in
set_option maxHeartbeats 4000000 in
theorem apart_walk (w : World) (n : Int) (hn : -9223372036854775808 ≤ n ∧ n < 9223372036854775808) (ao : Option Addr) (len cap : Nat) (hl : len ≤ maxLen) (f : Nat → Int) (hf : Arg w ao len f) (hfb : ∀ i, i < len → -9223372036854775808 ≤ f i ∧ f i < 9223372036854775808)
    (ao2 : Option Addr) (len2 cap2 : Nat) (hl2 : len2 ≤ maxLen) (f2 : Nat → Int) (hf2 : Arg w ao2 len2 f2) (hfb2 : ∀ i, i < len2 → -9223372036854775808 ≤ f2 i ∧ f2 i < 9223372036854775808) :
    Calls Try.prog 4 #[.int .i64 n, .slice ao len cap, .slice ao2 len2 cap2] w fun e w' => e = .returned (.bool true) ∧ Below w.heap.size w w' := by
  have C0 : Hid (Calls _ _ _ _ _) := awake_ok w
  have CW : Hid (∀ W, Calls Try.prog 10 #[.int .i64 n, .int .i64 400] W fun e w' => e = .returned (.int .i64 (n % 400)) ∧ w' = W) := fun W => within_any n 400 (by omega) (by omega) hn.1 hn.2 W
  obtain ⟨N, hN⟩ : ∃ N : Nat, n % 400 = N := ⟨(n % 400).toNat, by omega⟩
  have hN4 : N < 400 := by omega
  rw [hN] at CW
  have HF : Hid (Arg w ao len f) := hf
  have HFB : Hid (∀ i, i < len → -9223372036854775808 ≤ f i ∧ f i < 9223372036854775808) := hfb
  have HF2 : Hid (Arg w ao2 len2 f2) := hf2
  have HFB2 : Hid (∀ i, i < len2 → -9223372036854775808 ≤ f2 i ∧ f2 i < 9223372036854775808) := hfb2
  unfold maxLen at hl hl2
  clear hn hN hf hfb hf2 hfb2
  go_enter Try.func4, Try.ntmps4
  go_wp2_with fail
  refine C0.out.mono ?_
  rintro e w0 ⟨rfl, g0⟩
  have HG0 : Hid (w.grownBy w0 none) := g0
  clear g0 C0
  go_wp2_with fail
  refine (CW.out _).mono ?_
  rintro e w1 ⟨rfl, h1⟩
  obtain rfl := h1.symm
  have C1 : Hid (Calls _ _ _ _ _) := New_ok N (by omega) w0
  clear CW
  go_wp2_with fail
  refine C1.out.mono ?_
  rintro e w2 ⟨G, p, rfl, B1, K1⟩
  have HB1 : Hid (Bu w2 G p (nwL N) (fun _ => none)) := B1
  have HK1 : Hid (Kp (fun _ => False) G w0 w2) := K1
  have C2 : Hid (Calls _ _ _ _ _) := New_ok N (by omega) w2
  clear B1 K1 C1
  go_wp2_with fail
  refine C2.out.mono ?_
  rintro e w3 ⟨G2, p2, rfl, B2, K2⟩
  have hmk := makeB N (by omega) w3
  obtain ⟨g, hg⟩ : ∃ g, g = w3.heap.size := ⟨_, rfl⟩
  obtain ⟨RB', hRB⟩ : ∃ R, R = List.replicate N (Value.bool false) := ⟨_, rfl⟩
  rw [← hRB, ← hg] at hmk
  obtain ⟨P, hPd⟩ : ∃ P : Nat → Prop, P = fun k => k < w.heap.size ∨ G2 k ∨ k = g := ⟨_, rfl⟩
  have HPW : Hid (∀ k, k < w.heap.size → P k) := fun k hk => by rw [hPd]; exact Or.inl hk
  have HPG : Hid (P g) := by rw [hPd]; exact Or.inr (Or.inr rfl)
  have HP2 : Hid (∀ k, G2 k → P k ∧ k ≠ g) := fun k hk => by rw [hPd]; exact ⟨Or.inr (Or.inl hk), by have := B2.lt k hk; omega⟩
  have HB4 : Hid (Bu (w3.alloc (.cells RB'.toArray 4)) G2 p2 (nwL N) (fun _ => none)) := B2.none (World.grownBy_alloc _ _ none)
  have HBW : Hid (Below w.heap.size w (w3.alloc (.cells RB'.toArray 4))) := by
    have k0 := HG0.out
    have a := below_of k0 w.heap.size (Nat.le_refl _) (by simp)
    have b := HK1.out.below w.heap.size k0.size (fun k z => z.elim)
    have c := K2.below w.heap.size (Nat.le_trans k0.size HK1.out.size) (fun k z => z.elim)
    exact ((a.trans b).trans c).trans ((Below.refl _ w3).alloc (Nat.le_trans k0.size (Nat.le_trans HK1.out.size K2.size)) _)
  have HGW : Hid (w.heap.size ≤ g) := by
    rw [hg]
    exact Nat.le_trans HG0.out.size (Nat.le_trans HK1.out.size K2.size)
  have HA0 : Hid (Ast P (w3.alloc (.cells RB'.toArray 4)) (w3.alloc (.cells RB'.toArray 4)) N p g (.slice none 0 0) 0 0) := by
    have hb := blk_new w3 (List.replicate N (Value.bool false)) 4
    rw [← hRB, ← hg] at hb
    have b1 := (HB1.out.kept K2 (fun k _ z => z)).none (World.grownBy_alloc w3 (.cells RB'.toArray 4) none)
    have k0 := HG0.out
    have s1 := HK1.out.size
    have s2 := K2.size
    refine ⟨nwL N, fun _ => none, op0 N, [], ⟨G, b1, Hd.nil _, (fun k _ z => by cases z), fun k hk => ⟨fun z => ?_, (fun z => by cases z), ?_⟩⟩, St.new N, Hk.nil, ⟨hb.lt, fun i hi => ?_, fun i hi => hb.frozen i⟩, Nat.zero_le _, ?_, rfl, Kp.refl _ _⟩
    · have zl := HB1.out.lt k z
      rw [hPd] at hk
      rcases hk with y | y | y
      · rcases HK1.out.new k z with q | q
        · exact q
        · have := k0.size; omega
      · rcases K2.new k y with q | q
        · exact q
        · omega
      · omega
    · rw [hPd] at hk
      have ss : (w3.alloc (.cells RB'.toArray 4)).heap.size = w3.heap.size + 1 := by simp
      rw [ss]
      rcases hk with y | y | y
      · have := k0.size; omega
      · have := B2.lt k y; omega
      · omega
    · rw [hRB] at hb
      rw [← hRB] at hb
      have := hb.cell i
      rw [hRB] at this
      rw [hRB, this]
      simp [hi, op0]
    · simp [hs, nw_fr]
  clear C2 B2 K2 HB1 HK1 HG0 hRB hPd hg
  go_wp2_with fail
  generalize w3.alloc (.cells RB'.toArray 4) = w4 at *
  clear hmk
  go_loopw [12, 13, 14] (fun y s z wr => ∃ i : Nat, i ≤ len ∧ i ≤ 300 ∧ z = .int .i64 i ∧ ∃ v, v = y ∧ ∃ m : Nat, s = .int .i64 m ∧ Ast P w4 wr N p g v i m) (fun _ _ z _ => 300 - (iv z).toNat)
  case atStart => exact ⟨0, by omega, by omega, rfl, _, rfl, 0, rfl, HA0.out⟩
  case round =>
    obtain ⟨i, hi, hi2, rfl, v, rfl, s, rfl, hA⟩ := hrel
    have HA : Hid (Ast P w4 wr N p g v i s) := hA
    obtain ⟨L, tk, op, h, T, S, hk, hp, hlen, hfr, hsum, kp⟩ := hA
    have HT : Hid (One P wr p v L tk h) := T
    have HS : Hid (St N op L tk) := S
    have HK : Hid (Hk h tk) := hk
    have HPL : Hid (Pls wr g N op) := hp
    have HKP : Hid (Kp (NB P g) (NB P g) w4 wr) := kp
    have HFR : Hid (fr L + hs h = N) := hfr
    have HSM : Hid (s = hs h) := hsum
    have hsN : s ≤ N := by omega
    have HBR : Hid (∀ W, Kp (NB P g) (NB P g) w4 W → Below w.heap.size w W) := fun W k => HBW.out.trans (k.below w.heap.size HBW.out.size (fun c hc => by
      rcases hc with z | z
      · by_cases y : c < w.heap.size
        · exact absurd (HPW.out c y) z
        · omega
      · rw [z]; exact HGW.out))
    clear T S hk hp kp hfr hsum HA0
    by_cases hgo : i < len ∧ i < 300
    · obtain ⟨g1, g2⟩ := hgo
      obtain ⟨b, off, rfl, c0⟩ := HF.out.at' (HBR.out wr HKP.out) g1
      have hfi := HFB.out i g1
      have HFI : Hid (-9223372036854775808 ≤ f i ∧ f i < 9223372036854775808) := hfi
      have g1I : (i : Int) < (len : Int) := by omega
      have g2I : (i : Int) < 300 := by omega
      clear hfi
      by_cases hpos : 0 ≤ f i
      case' pos =>
        obtain ⟨o, ho, hto⟩ := tmod_7 hpos
        have CF : Hid (Calls _ _ _ _ _) := fits_ok HPL.out HS.out.lt (by omega) o ho
        generalize f i = fi at *
        go_wp2_with fail
        refine CF.out.mono ?_
        rintro e w5 ⟨⟨r, rfl, hr⟩, h5⟩
        obtain rfl := h5.symm
        clear CF c0
        rcases take_case L o with he | ⟨k, a, rr, h1, h2, h3, h4⟩
        case' inl =>
          have CT : Hid (Calls Try.prog 11 #[.pointer (some ⟨p, 0, none⟩), .int .i64 o] wr fun e w' => e = .returned (.tuple #[.int .i64 0, .int .i64 90]) ∧ w' = wr) := by
            obtain ⟨_, a1, _⟩ := HT.out
            exact Take_none a1 o ho he
          have hrf : r = false := by
            cases r with
            | false => rfl
            | true => exact absurd (hr.1 rfl) (HS.out.no_wh ho he)
          subst hrf
          clear hr he
          go_wp2_with fail
          refine CT.out.mono ?_
          rintro e w6 ⟨rfl, h6⟩
          obtain rfl := h6.symm
          have HM : Hid (Ast P w4 wr N p g v (i + 1) s) := by
            obtain ⟨L', tk', op', h', q1, q2, q3, q4, q5, q6, q7, q8⟩ := HA.out
            exact ⟨L', tk', op', h', q1, q2, q3, q4, by omega, q6, q7, q8⟩
          clear CT HT HS HK HPL HKP HFR HSM HA HBR HFI
          go_wp2_with fail
          obtain ⟨wq, hwq⟩ : ∃ wq, wq = wr := ⟨_, rfl⟩
          subst hwq
          obtain ⟨vq, hvq⟩ : ∃ vq, vq = v := ⟨_, rfl⟩
          subst hvq
          obtain ⟨sq, hsq⟩ : ∃ sq, sq = s := ⟨_, rfl⟩
          subst hsq
        case' inr =>
          obtain ⟨st, hw, hm, hb, ht, hfr⟩ := HS.out.take h1 h2 h3 h4
          have hrt : r = true := hr.2 ⟨_, hw⟩
          subst hrt
          have ha : a < 4096 := by have := Nat.two_pow_pos o; omega
          have HS3 : Hid (St N (shut op o (a / 2 ^ o)) (tkL L o k a) (pt tk a (some o))) := st
          have HF3 : Hid (fr (tkL L o k a) + 2 ^ o = fr L) := hfr
          have HW3 : Hid (∀ c, a ≤ c → c < a + 2 ^ o → op c = true) := (wh_of hm).1 hw
          have HM3 : Hid (a % 2 ^ o = 0) := hm
          have HB3 : Hid (a + 2 ^ o ≤ N) := hb
          have HK3 : Hid (Hk (h ++ [((a : Int), (o : Int))]) (pt tk a (some o))) := HK.out.add o ht
          have CT : Hid (Calls Try.prog 11 #[.pointer (some ⟨p, 0, none⟩), .int .i64 o] wr fun e w' => e = .returned (.tuple #[.int .i64 a, .int .i64 0]) ∧ One P w' p v (tkL L o k a) (pt tk a (some o)) h ∧ Kp (NP P) (NP P) wr w') := by
            obtain ⟨G, a1, a3, a5, a7⟩ := HT.out
            refine (Take_ok a1 (HS.out.len (by omega)) o k a rr h1 h2 h3 h4 ha).mono ?_
            rintro e w' ⟨rfl, G', b', k'⟩
            exact ⟨rfl, One.prog a1.lt a3 a5 a7 b' k'⟩
          clear st hw hm hb ht hfr h1 h2 h3 h4 hr
          go_wp2_with fail
          refine CT.out.mono ?_
          rintro e w6 ⟨rfl, t6, kp6⟩
          have HT6 : Hid (One P w6 p v (tkL L o k a) (pt tk a (some o)) h) := t6
          have HPL6 : Hid (Pls w6 g N op) := HPL.out.of_eq kp6.size (kp6.np HPG.out HPL.out.lt)
          have HKP6 : Hid (Kp (NB P g) (NB P g) w4 w6) := HKP.out.trans (kp6.nb g)
          have CK : Hid (Calls _ _ _ _ _) := taken_ok HPL6.out (by omega) a o ho HM3.out HB3.out HW3.out
          clear t6 kp6 CT HT HS HK HPL HKP HA
          go_wp2_with fail
          refine CK.out.mono ?_
          rintro e w7 ⟨rfl, p7, g7⟩
          have HT7 : Hid (One P w7 p v (tkL L o k a) (pt tk a (some o)) h) := HT6.out.wrote g7 HPG.out
          have HPL7 : Hid (Pls w7 g N (shut op o (a / 2 ^ o))) := p7
          have HKP7 : Hid (Kp (NB P g) (NB P g) w4 w7) := HKP6.out.trans (kp_wrote g7)
          obtain ⟨i0, hi0, hz0, hz1, hz2⟩ := info_parts Try.infoH
          have HUW : Hid (∀ W, Below w7.heap.size w7 W → W.ownsRow 0 38 2 v h.length (hv h)) := fun W hW => by
            obtain ⟨_, _, a3, _⟩ := HT7.out
            exact a3.of_eq (fun g hg => hW.block g (a3.lt g hg))
          have hsh := shl_wrap o ho
          have hpl := pow_le o ho
          have h2N : 2 ^ o ≤ N := by have := HB3.out; omega
          obtain ⟨S2, hS2⟩ : ∃ S, 2 ^ o = S := ⟨_, rfl⟩
          have HS2 : Hid (2 ^ o = S2) := hS2
          rw [hS2] at hsh hpl h2N
          clear p7 g7 CK HT6 HPL6 HKP6 hS2
          go_wp2_with (at_builtin; refine wpList_append_lies _ rfl (.tmp 86) (.tmp 90) 32 rfl 0 38 i0 _ 2 16 Try.underlying32 hi0 hz0 hz1 hz2 rfl (by decide) v h.length (hv h) rfl (HUW.out _ ((Below.refl _ w7).alloc (Nat.le_refl _) _)) ⟨w7.heap.size, 0, none⟩ 1 1 (pc ((a : Int), (o : Int))) rfl rfl (news_pair w7 a o) (pc_one _) (by omega) (by unfold maxLen; omega) (by omega) (Nat.zero_le _) (w7.heap.size + 1) (by simp) ?_; intro g3 k3 w8 o3 gr3 at3 lt3)
          have HM : Hid (Ast P w4 w8 N p g (.slice (some ⟨g3, 0, none⟩) (h.length + 1) k3) (i + 1) (s + S2)) := by
            have hd5 : Hd w8 (.slice (some ⟨g3, 0, none⟩) (h.length + 1) k3) (h ++ [((a : Int), (o : Int))]) := by
              unfold Hd
              rw [hv_app, List.length_append]
              exact o3
            obtain ⟨t8, kp8⟩ := HT7.out.held ((World.grownBy_alloc w7 _ _).trans gr3) hd5 (fun c hc => by
              obtain rfl : g3 = c := by simpa [Value.ownBlock] using hc
              rcases at3 with z | z
              · exact Or.inl z
              · exact Or.inr (by omega))
            have hadd := hs_app h ((a : Int), (o : Int))
            simp only [Int.toNat_natCast] at hadd
            refine ⟨_, _, _, _, t8, HS3.out, HK3.out, HPL7.out.of_eq kp8.size (kp8.np HPG.out HPL7.out.lt), by rw [List.length_append]; exact Nat.succ_le_succ hlen, ?_, ?_, HKP7.out.trans (kp8.nb g)⟩
            · rw [hadd]
              have := HFR.out
              have := HF3.out
              omega
            · rw [hadd, HSM.out, HS2.out]
          clear o3 gr3 at3 lt3 HUW HT7 HPL7 HKP7 HS3 HF3 HW3 HM3 HB3 HK3 HFR HSM HBR HFI HS2
          generalize Value.slice (some ⟨g3, 0, none⟩) (h.length + 1) k3 = vq at *
          obtain ⟨sq, hsq⟩ : ∃ sq, s + S2 = sq := ⟨_, rfl⟩
          rw [hsq] at HM
          rw [show (s : Int) + (S2 : Int) = (sq : Int) by omega]
          have hsqN : sq ≤ 800 := by omega
          clear hsq
          obtain ⟨wq, hwq⟩ : ∃ wq, wq = w8 := ⟨_, rfl⟩
          subst hwq
      case' neg =>
        have hneg : f i < 0 := by omega
        obtain ⟨av, cv, hv⟩ : ∃ a c, v = .slice a h.length c := by
          obtain ⟨_, _, a3, _⟩ := HT.out
          exact a3.len
        subst hv
        obtain ⟨m, hm⟩ : ∃ m, h.length = m := ⟨_, rfl⟩
        have HM0 : Hid (h.length = m) := hm
        rw [hm] at hlen HT HA ⊢
        clear hm hpos
        rcases Classical.em (0 < m) with hm0 | hm0
        case' inl =>
          have hm0I : (0 : Int) < (m : Int) := by omega
          have CWA : Hid (∀ W, Calls Try.prog 10 #[.int .i64 (f i), .int .i64 m] W fun e w' => e = .returned (.int .i64 (f i % m)) ∧ w' = W) := fun W => within_any (f i) m hm0I (by omega) HFI.out.1 HFI.out.2 W
          obtain ⟨j, hj⟩ : ∃ j : Nat, f i % m = j := ⟨(f i % m).toNat, by have := Int.emod_nonneg (f i) (show (m : Int) ≠ 0 by omega); omega⟩
          have hjm : j < m := by have := Int.emod_lt_of_pos (f i) hm0I; omega
          rw [hj] at CWA
          have hjI : (j : Int) < (m : Int) := by omega
          have hj0 : (0 : Int) ≤ (j : Int) := by omega
          obtain ⟨a, o, hy, ht⟩ := HK.out.at (k := j) (by rw [HM0.out]; exact hjm)
          obtain ⟨ho, _, han, _⟩ := HS.out.tk1 a o ht
          have HY : Hid (h[j]? = some ((a : Int), (o : Int))) := hy
          have HK3 : Hid (Hk (h.eraseIdx j) (pt tk a none)) := HK.out.del hy
          have hde := hs_del h j _ hy
          simp only [Int.toNat_natCast] at hde
          have CB : Hid (Calls _ _ _ _ _) := back_ok HT.out HS.out (by omega) HPG.out HPL.out a o ht
          obtain ⟨g5, k5, e5, l5, d5, d6⟩ := (show ∃ g cap, Value.slice av m cv = .slice (some ⟨g, 0, none⟩) h.length cap ∧ g < wr.heap.size ∧ wr.cell? ⟨g, j * 2, none⟩ = some (.int .i64 a) ∧ wr.cell? ⟨g, j * 2 + 1, none⟩ = some (.int .i64 o) by
            obtain ⟨_, _, a3, _⟩ := HT.out
            exact a3.cell hy)
          rw [HM0.out] at e5
          cases e5
          have hsh := shl_wrap o ho
          have hpl := pow_le o ho
          obtain ⟨S2, hS2⟩ : ∃ S, 2 ^ o = S := ⟨_, rfl⟩
          have HS2 : Hid (2 ^ o = S2) := hS2
          rw [hS2] at hsh hpl hde
          have hSs : S2 ≤ s := by have := HSM.out; omega
          have HDE : Hid (hs (h.eraseIdx j) + S2 = hs h) := hde
          clear hj hy ht han hS2 hde
          generalize f i = fi at *
          go_wp2_with (go_at_call 10; refine (CWA.out _).mono ?_; rintro e w5 ⟨rfl, h5⟩; obtain rfl := h5.symm)
          refine CB.out.mono ?_
          rintro e w5 ⟨rfl, L5, st5, fr5, t5, p5, kp5⟩
          have HT5 : Hid (One P w5 p (.slice (some ⟨g5, 0, none⟩) m cv) L5 (pt tk a none) h) := t5
          have HS5 : Hid (St N (opened op o (a / 2 ^ o)) L5 (pt tk a none)) := st5
          have HF5 : Hid (fr L5 = fr L + 2 ^ o) := fr5
          have HPL5 : Hid (Pls w5 g N (opened op o (a / 2 ^ o))) := p5
          have HKP5 : Hid (Kp (NB P g) (NB P g) w4 w5) := HKP.out.trans kp5
          obtain ⟨g6, k6, e6, l6, y5, y6⟩ := (show ∃ g cap, Value.slice (some ⟨g5, 0, none⟩) m cv = .slice (some ⟨g, 0, none⟩) h.length cap ∧ g < w5.heap.size ∧ w5.cell? ⟨g, j * 2, none⟩ = some (.int .i64 a) ∧ w5.cell? ⟨g, j * 2 + 1, none⟩ = some (.int .i64 o) by
            obtain ⟨_, _, a3, _⟩ := t5
            exact a3.cell HY.out)
          rw [HM0.out] at e6
          cases e6
          have CWI : Hid (Calls _ _ _ _ _) := without_ok (show Hd w5 (.slice (some ⟨g5, 0, none⟩) m cv) h by obtain ⟨_, _, a3, _⟩ := t5; exact a3) (by rw [HM0.out]; omega) j
          clear st5 fr5 t5 p5 kp5 CB CWA d5 d6 HT HS HK HPL HKP HA c0
          go_wp2_with fail
          refine CWI.out.mono ?_
          rintro e w6 ⟨v6, rfl, h6, g6', n6⟩
          have HM : Hid (Ast P w4 w6 N p g v6 (i + 1) (s - S2)) := by
            obtain ⟨t6, kp6⟩ := HT5.out.held (grown_row g6' _) h6 (fun c hc => Or.inr (n6 c hc))
            have q1 := HFR.out
            have q2 := HF5.out
            have q3 := HDE.out
            have q4 := HSM.out
            have q5 := HS2.out
            refine ⟨_, _, _, _, t6, HS5.out, HK3.out, HPL5.out.of_eq kp6.size (kp6.np HPG.out HPL5.out.lt), by have := List.length_eraseIdx_le h j; rw [HM0.out] at this; omega, ?_, ?_, HKP5.out.trans (kp6.nb g)⟩
            · rw [q2, q5]; omega
            · omega
          clear h6 g6' n6 CWI y5 y6 HT5 HS5 HF5 HPL5 HKP5 HFR HSM HBR HFI HS2 HDE HK3 HY HM0
          go_wp2_with fail
          obtain ⟨sq, hsq⟩ : ∃ sq, s - S2 = sq := ⟨_, rfl⟩
          rw [hsq] at HM
          rw [show (s : Int) - (S2 : Int) = (sq : Int) by omega]
          have hsqN : sq ≤ 800 := by omega
          clear hsq
          obtain ⟨wq, hwq⟩ : ∃ wq, wq = w6 := ⟨_, rfl⟩
          subst hwq
          obtain ⟨vq, hvq⟩ : ∃ vq, vq = v6 := ⟨_, rfl⟩
          subst hvq
        case' inr =>
          have hm0I : ¬ ((0 : Int) < (m : Int)) := by omega
          have HM : Hid (Ast P w4 wr N p g (.slice av m cv) (i + 1) s) := by
            obtain ⟨L', tk', op', h', q1, q2, q3, q4, q5, q6, q7, q8⟩ := HA.out
            exact ⟨L', tk', op', h', q1, q2, q3, q4, by omega, q6, q7, q8⟩
          clear HT HS HK HPL HKP HFR HSM HA HBR HFI
          generalize f i = fi at *
          go_wp2_with fail
          clear c0
          obtain ⟨wq, hwq⟩ : ∃ wq, wq = wr := ⟨_, rfl⟩
          subst hwq
          generalize Value.slice av m cv = vq at *
          obtain ⟨sq, hsq⟩ : ∃ sq, sq = s := ⟨_, rfl⟩
          subst hsq
      all_goals (
        obtain ⟨L6, tk6, op6, h6, T6, S6, hk6, hp6, hl6, hf6, hs6, kp6⟩ := HM.out
        obtain ⟨G6, a1, _⟩ := T6
        have CFR : Hid (Calls _ _ _ _ _) := Free_any a1 (S6.len (by omega))
        have CWH : Hid (Calls _ _ _ _ _) := Whole_any a1
        have hRs : fr L6 + sq = N := by omega
        have HWZ : Hid ((∀ y, tk6 y = none) ↔ sq = 0) := by
          rw [hs6, hs_zero]
          exact hk6.whole
        clear a1 S6 hk6 hp6 hl6 hf6 hs6 kp6
        generalize fr L6 = R at *
        have hRI : (R : Int) + (sq : Int) = (N : Int) := by omega
        have hRW : IntKind.i64.wrap ((R : Int) + (sq : Int)) = (N : Int) := by rw [hRI]; exact IntWalk.i64_in _ (by omega)
        refine CFR.out.mono ?_
        rintro e w7 ⟨rfl, h7⟩
        obtain rfl := h7.symm
        go_wp2_with fail
        refine CWH.out.mono ?_
        rintro e w8 ⟨r, rfl, hr, h8⟩
        obtain rfl := h8.symm
        have hrz : r = ((sq : Int) == 0) := by
          rw [Bool.eq_iff_iff, hr, HWZ.out]
          simp
        subst hrz
        clear CFR CWH HWZ hr hRs hRI hRW
        go_wp2
        exact ⟨⟨i + 1, by omega, by omega, by go_num, _, rfl, sq, rfl, HM.out⟩, by simp [iv]; omega⟩)
    · have HA2 : Hid (∃ v', v' = v ∧ 0 + sl v' ≤ 300 ∧ ∃ s, Ast P w4 wr N p g v' 300 s) := by
        refine ⟨v, rfl, ?_, s, ?_⟩
        · obtain ⟨_, _, a3, _⟩ := HT.out
          obtain ⟨_, _, e⟩ := a3.len
          rw [e]
          show 0 + h.length ≤ 300
          omega
        · obtain ⟨L', tk', op', h', q1, q2, q3, q4, q5, q6, q7, q8⟩ := HA.out
          exact ⟨L', tk', op', h', q1, q2, q3, q4, by omega, q6, q7, q8⟩
      clear HT HS HK HPL HKP HFR HSM HA
      rcases (show ¬ i < len ∨ (i < len ∧ ¬ i < 300) by omega) with gg | ⟨gg, gg'⟩
      case' inl =>
        have gI : ¬ ((i : Int) < (len : Int)) := by omega
        go_wp2_with fail
      case' inr =>
        have gI : (i : Int) < (len : Int) := by omega
        have gI2 : ¬ ((i : Int) < 300) := by omega
        go_wp2_with fail
      all_goals (
        go_loopw [12, 20] (fun y z wr => ∃ i : Nat, z = .int .i64 i ∧ ∃ v, v = y ∧ i + sl v ≤ 300 ∧ ∃ s, Ast P w4 wr N p g v 300 s) (fun y _ _ => sl y)
        case atStart =>
          obtain ⟨v', e', hq, hs'⟩ := HA2.out
          exact ⟨0, rfl, v', e', hq, hs'⟩
        case round =>
          clear HA2 hlen hsN
          obtain ⟨i, rfl, v, rfl, hil, s, L, tk, op, h, T, S, hk, hp, hlen, hfr, hsum, kp⟩ := hrel
          have HT : Hid (One P wr p v L tk h) := T
          have HS : Hid (St N op L tk) := S
          have HK : Hid (Hk h tk) := hk
          have HPL : Hid (Pls wr g N op) := hp
          have HKP : Hid (Kp (NB P g) (NB P g) w4 wr) := kp
          have HFR : Hid (fr L + hs h = N) := hfr
          have HSM : Hid (s = hs h) := hsum
          clear T S hk hp kp hfr hsum
          obtain ⟨av, cv, hv⟩ : ∃ a c, v = .slice a h.length c := by
            obtain ⟨_, _, a3, _⟩ := HT.out
            exact a3.len
          subst hv
          obtain ⟨m, hm⟩ : ∃ m, h.length = m := ⟨_, rfl⟩
          have HM0 : Hid (h.length = m) := hm
          rw [hm] at hlen HT hil ⊢
          have hil' : i + m ≤ 300 := hil
          clear hm hil
          by_cases hm0 : 0 < m
          · have hm0I : (0 : Int) < (m : Int) := by omega
            have HJ : Hid (∃ j : Nat, j < m ∧ (i < len2 → ∃ b2 off2, ao2 = some ⟨b2, off2, none⟩ ∧ wr.cell? ⟨b2, off2 + i, none⟩ = some (.int .i64 (f2 i)) ∧ ∀ W, Calls Try.prog 10 #[.int .i64 (f2 i), .int .i64 m] W fun e w' => e = .returned (.int .i64 j) ∧ w' = W) ∧ (¬ i < len2 → j = 0)) := by
              by_cases hi2 : i < len2
              · obtain ⟨b2, off2, e2, c2⟩ := HF2.out.at' (HBR.out wr HKP.out) hi2
                have hb2 := HFB2.out i hi2
                have n1 := Int.emod_nonneg (f2 i) (show (m : Int) ≠ 0 by omega)
                have n2 := Int.emod_lt_of_pos (f2 i) hm0I
                refine ⟨(f2 i % m).toNat, by omega, fun _ => ⟨b2, off2, e2, c2, fun W => ?_⟩, fun z => absurd hi2 z⟩
                rw [show (((f2 i % m).toNat : Nat) : Int) = f2 i % m by omega]
                exact within_any (f2 i) m hm0I (by omega) hb2.1 hb2.2 W
              · exact ⟨0, hm0, fun z => absurd z hi2, fun _ => rfl⟩
            obtain ⟨j, hjm, hj1, hj2⟩ := HJ.out
            have hjI : (j : Int) < (m : Int) := by omega
            have hj0 : (0 : Int) ≤ (j : Int) := by omega
            obtain ⟨a, o, hy, ht⟩ := HK.out.at (k := j) (by rw [HM0.out]; exact hjm)
            have HY : Hid (h[j]? = some ((a : Int), (o : Int))) := hy
            have HK3 : Hid (Hk (h.eraseIdx j) (pt tk a none)) := HK.out.del hy
            have hde := hs_del h j _ hy
            simp only [Int.toNat_natCast] at hde
            have HDE : Hid (hs (h.eraseIdx j) + 2 ^ o = hs h) := hde
            have hel : (h.eraseIdx j).length = m - 1 := by rw [List.length_eraseIdx, HM0.out, if_pos hjm]
            have HEL : Hid ((h.eraseIdx j).length = m - 1) := hel
            have CB : Hid (Calls _ _ _ _ _) := back_ok HT.out HS.out (by omega) HPG.out HPL.out a o ht
            obtain ⟨g5, k5, e5, l5, d5, d6⟩ := (show ∃ g cap, Value.slice av m cv = .slice (some ⟨g, 0, none⟩) h.length cap ∧ g < wr.heap.size ∧ wr.cell? ⟨g, j * 2, none⟩ = some (.int .i64 a) ∧ wr.cell? ⟨g, j * 2 + 1, none⟩ = some (.int .i64 o) by
              obtain ⟨_, _, a3, _⟩ := HT.out
              exact a3.cell hy)
            rw [HM0.out] at e5
            cases e5
            clear hy ht hde hel HJ
            rcases Classical.em (i < len2) with hi2 | hi2
            case' inl =>
              have hi2I : (i : Int) < (len2 : Int) := by omega
              obtain ⟨b2, off2, e2, c2, cw⟩ := hj1 hi2
              have CWJ : Hid (∀ W, Calls Try.prog 10 #[.int .i64 (f2 i), .int .i64 m] W fun e w' => e = .returned (.int .i64 j) ∧ w' = W) := cw
              subst e2
              generalize f2 i = fi at *
              clear cw hj1 hj2
              go_wp2_with (go_at_call 10; refine (CWJ.out _).mono ?_; rintro e w5 ⟨rfl, h5⟩; obtain rfl := h5.symm)
              clear c2 CWJ
            case' inr =>
              have hi2I : ¬ ((i : Int) < (len2 : Int)) := by omega
              obtain rfl := hj2 hi2
              clear hj1 hj2
              go_wp2_with fail
            all_goals (
              refine CB.out.mono ?_
              rintro e w5 ⟨rfl, L5, st5, fr5, t5, p5, kp5⟩
              have HT5 : Hid (One P w5 p (.slice (some ⟨g5, 0, none⟩) m cv) L5 (pt tk a none) h) := t5
              have HS5 : Hid (St N (opened op o (a / 2 ^ o)) L5 (pt tk a none)) := st5
              have HF5 : Hid (fr L5 = fr L + 2 ^ o) := fr5
              have HPL5 : Hid (Pls w5 g N (opened op o (a / 2 ^ o))) := p5
              have HKP5 : Hid (Kp (NB P g) (NB P g) w4 w5) := HKP.out.trans kp5
              have CWI : Hid (∀ jj : Nat, Calls Try.prog 24 #[.slice (some ⟨g5, 0, none⟩) m cv, .int .i64 jj] w5 fun e w' => ∃ v', e = .returned v' ∧ Hd w' v' (h.eraseIdx jj) ∧ w5.grownBy w' none ∧ ∀ c, v'.ownBlock = some c → w5.heap.size ≤ c) := fun jj => without_ok (show Hd w5 (.slice (some ⟨g5, 0, none⟩) m cv) h by obtain ⟨_, _, a3, _⟩ := t5; exact a3) (by rw [HM0.out]; omega) jj
              clear st5 fr5 t5 p5 kp5 CB d5 d6 HT HS HK HPL HKP
              go_wp2_with fail
              first | refine (CWI.out j).mono ?_ | refine (CWI.out 0).mono ?_
              rintro e w6 ⟨v6, rfl, h6, g6', n6⟩
              obtain ⟨a6, c6, e6⟩ := h6.len
              rw [HEL.out] at e6
              subst e6
              have HM : Hid (∃ s, Ast P w4 w6 N p g (.slice a6 (m - 1) c6) 300 s) := by
                obtain ⟨t6, kp6⟩ := HT5.out.held (grown_row g6' _) h6 (fun c hc => Or.inr (n6 c hc))
                have q1 := HFR.out
                have q2 := HF5.out
                have q3 := HDE.out
                exact ⟨_, _, _, _, _, t6, HS5.out, HK3.out, HPL5.out.of_eq kp6.size (kp6.np HPG.out HPL5.out.lt), by rw [HEL.out]; omega, by rw [q2]; omega, rfl, HKP5.out.trans (kp6.nb g)⟩
              clear h6 g6' n6 CWI HT5 HS5 HF5 HPL5 HKP5 HFR HSM HDE HK3 HY HM0 HEL
              go_wp2
              exact ⟨⟨i + 1, by go_num, _, rfl, (show i + 1 + (m - 1) ≤ 300 by omega), HM.out⟩, (show m - 1 < m by omega)⟩)
          · obtain rfl : m = 0 := by omega
            have HTN : Hid (∀ y, tk y = none) := HK.out.whole.2 (List.eq_nil_of_length_eq_zero HM0.out)
            have HLN : Hid (∀ k, k ≤ 6 → L k = nwL N k) := HS.out.fresh HTN.out
            have HLE : Hid (∀ k, k < 7 → (nwL N k).length ≤ 4096) := fun k hk => by rw [← HLN.out k (by omega)]; exact HS.out.len (by omega) k hk
            obtain ⟨G1, a1, _⟩ := HT.out
            have HA1 : Hid (Bu wr G1 p (nwL N) tk) := a1.congr (fun k hk => HLN.out k (by omega))
            have HA2 : Hid (Bu wr G2 p2 (nwL N) (fun _ => none)) := HB4.out.kept HKP.out (fun k hk z => by
              rcases z with y | y
              · exact y (HP2.out k hk).1
              · exact (HP2.out k hk).2 y)
            have HBX : Hid (Below w.heap.size w wr) := HBR.out wr HKP.out
            have CL1 : Hid (Calls _ _ _ _ _) := Lists_any HA1.out HLE.out
            clear a1 HT HS HK HPL HKP HFR HSM HM0 HLN HBR
            go_wp2_with fail
            refine CL1.out.mono ?_
            rintro e w5 ⟨v5, rfl, L5, g5⟩
            have HL5 : Hid (Ls wr.heap.size w5 v5 (fun i => ints (nwL N i))) := L5
            have HG5 : Hid (wr.grownBy w5 none) := g5
            obtain ⟨ga, ca, rfl, _⟩ := L5.cell
            have CL2 : Hid (Calls _ _ _ _ _) := Lists_any (HA2.out.none g5) HLE.out
            clear L5 g5 CL1
            go_wp2_with fail
            refine CL2.out.mono ?_
            rintro e w6 ⟨v6, rfl, L6, g6⟩
            have HL6 : Hid (Ls w5.heap.size w6 v6 (fun i => ints (nwL N i))) := L6
            have HL56 : Hid (Ls wr.heap.size w6 (.slice (some ⟨ga, 0, none⟩) 7 ca) (fun i => ints (nwL N i))) := HL5.out.none g6
            have HB6 : Hid (Below w.heap.size w w6) := HBX.out.trans (below_of (HG5.out.trans g6) _ HBX.out.size (by simp))
            obtain ⟨gb, cb, rfl, _⟩ := L6.cell
            have CW6 : Hid (Calls _ _ _ _ _) := Whole_any (HA1.out.none (HG5.out.trans g6))
            clear L6 g6 CL2 HL5 HG5 HBX
            go_wp2_with fail
            refine CW6.out.mono ?_
            rintro e w7 ⟨r, rfl, hr, h7⟩
            obtain rfl := h7.symm
            have hrt : r = true := hr.2 HTN.out
            subst hrt
            clear hr CW6
            go_wp2_with fail
            go_loopw [24] (fun z wq => ∃ j : Nat, j ≤ 7 ∧ z = .int .i64 j ∧ w6.grownBy wq none) (fun z _ => 7 - (iv z).toNat)
            case atStart => exact ⟨0, by omega, rfl, World.grownBy.refl _ _⟩
            case round =>
              obtain ⟨j, hj, rfl, hb⟩ := hrel
              have HB8 : Hid (w6.grownBy wr none) := hb
              by_cases hlt : j < 7
              · obtain ⟨g1', c1', e1, _, q1⟩ := (HL56.out.none hb).cell
                obtain ⟨g2', c2', e2, _, q2⟩ := (HL6.out.none hb).cell
                cases e1
                cases e2
                obtain ⟨a1, k1, d1, o1⟩ := q1 j hlt
                obtain ⟨a2, k2, d2, o2⟩ := q2 j hlt
                have hlI : (j : Int) < 7 := by omega
                have hk0 : (0 : Int) ≤ (j : Int) := by omega
                have hll := HLE.out j hlt
                simp only [ints_len] at d1 d2 o1 o2
                have CE : Hid (∀ W, Below wr.heap.size wr W → Calls Try.prog 26 #[.slice a1 (nwL N j).length k1, .slice a2 (nwL N j).length k2] W fun e w' => e = .returned (.bool true) ∧ W.grownBy w' none) := fun W hW => eq_ok (o1.of_eq (fun g hg => hW.block g (o1.lt g hg))) (o2.of_eq (fun g hg => hW.block g (o2.lt g hg))) (by rw [ints_len]; omega)
                clear q1 q2 o1 o2 hb hll
                generalize (nwL N j).length = mm at *
                go_wp2
                go_region_with (first | (go_at_call 26; refine (CE.out _ (by first | exact (Below.refl _ _).drew | exact Below.refl _ _)).mono ?_; rintro e w8 ⟨rfl, g8⟩))
                all_goals (
                  have HB9 : Hid (w6.grownBy w8 none) := HB8.out.trans ((grown_drew _ _).trans g8)
                  clear g8 d1 d2 CE
                  go_wp2
                  go_roundw
                  case rel => exact ⟨j + 1, by omega, by go_num, HB9.out⟩
                  case measure => simp [iv]; omega)
              · obtain rfl : j = 7 := by omega
                have HBF : Hid (Below w.heap.size w wr) := HB6.out.trans (below_of hb _ HB6.out.size (by simp))
                clear hb
                go_wp2
                go_ret
                exact ⟨rfl, HBF.out⟩)
end Go.Proofs.Ytdlkmeopiilmdaa
