/- RingSecond: a second chance, for every input; no condition but the list's reading. -/
import Derived.Test.YtimeoinmepfpnaaRp
namespace Go.Proofs.Ytimeoinmepfpnaa.Ri
open Go.ChangeShapes Go.WideShapes Go.ChangeAt Go.RowKit
set_option linter.unusedVariables false
set_option maxRecDepth 8192

/-- The bits of the first k numbers. -/
def bk (T : List Bool) (k : Nat) : Nat → Bool := fun i => decide (i < k) && T.getD i false
theorem bk_zero (T : List Bool) : bk T 0 = fun _ => false := by funext i; simp [bk]
theorem bk_succ (T : List Bool) (k : Nat) : (fun i => if i = k then T.getD k false else bk T k i) = bk T (k + 1) := by
  funext i
  unfold bk
  by_cases e : i = k
  · subst e
    simp
  · rw [if_neg e]
    by_cases q : i < k
    · rw [decide_eq_true q, decide_eq_true (by omega : i < k + 1)]
    · rw [decide_eq_false q, decide_eq_false (by omega : ¬ i < k + 1)]
/-- The first number that is not pinned; the first one besides whose bit is not set; -1: none. -/
def Fi (pin : Int) (k : Nat) (v : Int) : Prop := (v = -1 ∧ ∀ i, i < k → (i : Int) = pin) ∨ ∃ a : Nat, a < k ∧ v = a ∧ (a : Int) ≠ pin ∧ ∀ i, i < a → (i : Int) = pin
def Wa (pin : Int) (T : List Bool) (k : Nat) (v : Int) : Prop := (v = -1 ∧ ∀ i, i < k → (i : Int) ≠ pin → T.getD i false = true) ∨ ∃ a : Nat, a < k ∧ v = a ∧ (a : Int) ≠ pin ∧ T.getD a false = false ∧ ∀ i, i < a → (i : Int) ≠ pin → T.getD i false = true
theorem Fi.zero (pin : Int) : Fi pin 0 (-1) := Or.inl ⟨rfl, fun i h => absurd h (Nat.not_lt_zero _)⟩
theorem Wa.zero (pin : Int) (T : List Bool) : Wa pin T 0 (-1) := Or.inl ⟨rfl, fun i h => absurd h (Nat.not_lt_zero _)⟩
theorem Fi.hit {pin v : Int} {k : Nat} (h : Fi pin k v) (hp : (k : Int) ≠ pin) (hv : v < 0) : Fi pin (k + 1) k := by
  rcases h with ⟨_, h⟩ | ⟨a, h1, h2, _⟩
  · exact Or.inr ⟨k, by omega, rfl, hp, h⟩
  · omega
theorem Fi.pass {pin v : Int} {k : Nat} (h : Fi pin k v) (q : (k : Int) = pin ∨ 0 ≤ v) : Fi pin (k + 1) v := by
  rcases h with ⟨h1, h⟩ | ⟨a, h1, h2, h3⟩
  · refine Or.inl ⟨h1, fun i hi => ?_⟩
    rcases Nat.lt_succ_iff_lt_or_eq.1 hi with z | z
    · exact h i z
    · rw [z]; omega
  · exact Or.inr ⟨a, by omega, h2, h3⟩
theorem Wa.hit {pin v : Int} {T : List Bool} {k : Nat} (h : Wa pin T k v) (hp : (k : Int) ≠ pin) (ht : T.getD k false = false) (hv : v < 0) : Wa pin T (k + 1) k := by
  rcases h with ⟨_, h⟩ | ⟨a, h1, h2, _⟩
  · exact Or.inr ⟨k, by omega, rfl, hp, ht, h⟩
  · omega
theorem Wa.pass {pin v : Int} {T : List Bool} {k : Nat} (h : Wa pin T k v) (q : (k : Int) = pin ∨ T.getD k false = true ∨ 0 ≤ v) : Wa pin T (k + 1) v := by
  rcases h with ⟨h1, h⟩ | ⟨a, h1, h2, h3⟩
  · refine Or.inl ⟨h1, fun i hi hip => ?_⟩
    rcases Nat.lt_succ_iff_lt_or_eq.1 hi with z | z
    · exact h i z hip
    · subst z
      rcases q with q | q | q
      · exact absurd q hip
      · exact q
      · omega
  · exact Or.inr ⟨a, by omega, h2, h3⟩
theorem Fi.le {pin v : Int} {k : Nat} (h : Fi pin k v) : -1 ≤ v ∧ v < k ∨ (v = -1 ∧ k = 0) := by
  rcases h with ⟨h, _⟩ | ⟨a, h1, h2, _⟩ <;> omega
theorem Wa.le {pin v : Int} {T : List Bool} {k : Nat} (h : Wa pin T k v) : -1 ≤ v ∧ v < k ∨ (v = -1 ∧ k = 0) := by
  rcases h with ⟨h, _⟩ | ⟨a, h1, h2, _⟩ <;> omega
theorem rt_ends {n j w : Nat} (hn : 0 < n) (hw : w < n) (hj : j = w + 1 ∨ j = n + w + 1) : (rt (sg 0 n) j).length = n ∧ (rt (sg 0 n) j)[0]? = some (((w + 1) % n : Nat) : Int) ∧ (rt (sg 0 n) j)[n - 1]? = some (w : Int) := by
  refine ⟨by rw [rt_len, sg_len], ?_, ?_⟩
  · rw [rt_get (by rw [sg_len]; exact hn), sg_len, sg_get _ _ _ (Nat.mod_lt _ hn), Nat.zero_add, Nat.zero_add]
    rcases hj with rfl | rfl
    · rfl
    · rw [Nat.add_assoc, Nat.add_mod_left]
  · rw [rt_get (by rw [sg_len]; omega), sg_len, sg_get _ _ _ (Nat.mod_lt _ hn), Nat.zero_add]
    have : (n - 1 + j) % n = w := by
      rcases hj with rfl | rfl
      · rw [show n - 1 + (w + 1) = n + w by omega, Nat.add_mod_left, Nat.mod_eq_of_lt hw]
      · rw [show n - 1 + (n + w + 1) = n + (n + w) by omega, Nat.add_mod_left, Nat.add_mod_left, Nat.mod_eq_of_lt hw]
    rw [this]
/-- What Next tells of the bits, where there is a number that is not pinned. -/
theorem second_some {pin vf vw : Int} {n : Nat} {T : List Bool} (h0 : 0 < n) (hn : n ≤ 60) (hf : Fi pin n vf) (hw : Wa pin T n vw) (hv : 0 ≤ vf) :
    ∃ (w j : Nat) (L' : List Int) (f' : Nat → Bool), nxt bu pin (sg 0 n) (bk T n) = (some (w : Int), j, L', f') ∧ w < n ∧ j ≤ 2 * n + 1 ∧ (∀ i, i < w → (i : Int) ≠ pin → f' i = false) ∧ L'.length = n ∧ L'[0]? = some (((w + 1) % n : Nat) : Int) ∧ L'[n - 1]? = some (w : Int) ∧ ((vw = w ∧ j = w + 1) ∨ (vw = -1 ∧ vf = w ∧ j = n + w + 1)) := by
  have hbk : ∀ i, i < n → bk T n i = T.getD i false := fun i hi => by unfold bk; rw [decide_eq_true hi, Bool.true_and]
  rcases hw with ⟨h1, h⟩ | ⟨a, h1, h2, h3, h4, h5⟩
  · obtain ⟨a, g1, g2, g3, g4⟩ := hf.resolve_left (fun q => by omega)
    obtain ⟨f', e, hc⟩ := second_first (pin := pin) (n := n) (p := a) (f := bk T n) hn g1 g3 g4 (fun i hi hip => by rw [hbk i hi]; exact h i hi hip)
    obtain ⟨e1, e2, e3⟩ := rt_ends (j := n + a + 1) h0 g1 (Or.inr rfl)
    exact ⟨a, _, _, f', e, g1, by omega, fun i hi hip => hc i (by omega) hip, e1, e2, e3, Or.inr ⟨h1, g2, rfl⟩⟩
  · obtain ⟨f', e, hc⟩ := second_want (pin := pin) (n := n) (w := a) (f := bk T n) hn h1 h3 (by rw [hbk a h1]; exact h4) (fun i hi hip => by rw [hbk i (by omega)]; exact h5 i hi hip)
    obtain ⟨e1, e2, e3⟩ := rt_ends (j := a + 1) h0 h1 (Or.inl rfl)
    exact ⟨a, _, _, f', e, h1, by omega, hc, e1, e2, e3, Or.inl ⟨h2, rfl⟩⟩
/-- Where there is none. -/
theorem second_nil {pin : Int} {n : Nat} {T : List Bool} (h0 : 0 < n) (hf : Fi pin n (-1)) (vw : Int) (hw : Wa pin T n vw) : vw = -1 ∧ nxt bu pin (sg 0 n) (bk T n) = (none, 3, sg 0 n, bk T n) := by
  obtain ⟨_, h⟩ := hf.resolve_right (fun ⟨a, _, q, _⟩ => by omega)
  have h1 := h 0 h0
  have hn1 : n = 1 := by
    by_cases z : n = 1
    · exact z
    · have := h 1 (by omega); omega
  subst hn1
  refine ⟨?_, ?_⟩
  · rcases hw with ⟨q, _⟩ | ⟨a, q1, _, q3, _⟩
    · exact q
    · exact absurd (h a q1) q3
  · have : sg 0 1 = [pin] := by rw [← h1]; rfl
    rw [this]
    exact second_none _ _
set_option maxHeartbeats 1000000 in
theorem second_ok {W0 : World} {n pin0 : Int} {ao : Option Addr} {cap : Nat} {T : List Bool} (hn0 : -9223372036854775808 ≤ n) (hn1 : n < 9223372036854775808) (hp0 : -9223372036854775808 ≤ pin0) (hp1 : pin0 < 9223372036854775808) (hB : Bs W0.heap.size W0 ao T) (hm : T.length ≤ maxLen) :
    Calls Try.prog 4 #[.int .i64 n, .slice ao T.length cap, .int .i64 pin0] W0 fun e w' => e = .returned (.bool true) ∧ Below W0.heap.size W0 w' := by
  have hmf : ∀ (fn : Fn) (first cap : Array Value) (w : World), (Instr.makeFunc fn first cap).run Try.prog w = .ok (.func fn first cap) w := fun _ _ _ _ => rfl
  have HBS : Hid (Bs W0.heap.size W0 ao T) := hB
  have CW := works_ok W0
  have C1 : Hid (∀ w, Calls Try.prog 17 #[.int .i64 n, .int .i64 60] w fun e w' => e = .returned (.int .i64 (n % 60)) ∧ w' = w) := fun w => Within_any n 60 (by omega) (by omega) hn0 hn1 w
  have C2 : Hid (∀ w, Calls Try.prog 17 #[.int .i64 pin0, .int .i64 70] w fun e w' => e = .returned (.int .i64 (pin0 % 70)) ∧ w' = w) := fun w => Within_any pin0 70 (by omega) (by omega) hp0 hp1 w
  have r1 : 0 ≤ n % 60 ∧ n % 60 < 60 := ⟨Int.emod_nonneg _ (by omega), Int.emod_lt_of_pos _ (by omega)⟩
  have r2 : 0 ≤ pin0 % 70 ∧ pin0 % 70 < 70 := ⟨Int.emod_nonneg _ (by omega), Int.emod_lt_of_pos _ (by omega)⟩
  unfold maxLen at hm
  clear hB hn0 hn1 hp0 hp1
  generalize n % 60 = a at *
  generalize pin0 % 70 = c at *
  obtain ⟨N, hN⟩ : ∃ N : Nat, 1 + a = (N : Int) := ⟨(1 + a).toNat, by omega⟩
  obtain ⟨pin, hpin⟩ : ∃ pin : Int, c - 5 = pin := ⟨_, rfl⟩
  have hNN : 1 ≤ N ∧ N ≤ 60 := by omega
  have hpr : -5 ≤ pin ∧ pin < 65 := by omega
  have e1 : IntKind.i64.wrap (1 + a) = (N : Int) := by rw [hN]; simp (disch := omega) only [IntWalk.i64_in]
  have e2 : IntKind.i64.wrap (c - 5) = pin := by rw [hpin]; simp (disch := omega) only [IntWalk.i64_in]
  generalize hlen : T.length = m at *
  go_enter Try.func4, Try.ntmps4
  go_wp2_with fail
  refine CW.mono ?_
  rintro e w1 ⟨rfl, b1⟩
  have H1 : Hid (Below W0.heap.size W0 w1) := b1
  clear CW b1
  go_wp2_with fail
  refine (C1.out _).mono ?_
  rintro e w' ⟨rfl, hw⟩
  obtain rfl := hw.symm
  go_wp2_with fail
  refine (C2.out _).mono ?_
  rintro e w' ⟨rfl, hw⟩
  obtain rfl := hw.symm
  clear C1 C2
  have NW := New_ok w1
  go_wp2_with fail
  refine NW.mono ?_
  rintro e w2 ⟨rfl, q2, b2⟩
  obtain ⟨p, hp⟩ : ∃ p, p = w1.heap.size + 1 := ⟨_, rfl⟩
  obtain ⟨g0, hg0⟩ : ∃ g, g = w1.heap.size := ⟨_, rfl⟩
  rw [← hp, ← hg0] at q2
  rw [← hp]
  have hbp : W0.heap.size ≤ p ∧ W0.heap.size ≤ g0 := by have := H1.out.size; omega
  have H2 : Hid (Rx w2 p g0 (sg 0 0) ∧ Below W0.heap.size W0 w2) := ⟨⟨[], 0, q2, rfl⟩, bs H1.out b2⟩
  have hpl := q2.pl
  have hgl := q2.gl
  clear NW b2 q2 hp hg0 H1
  go_wp2_with fail
  go_loopw [9, 10, 11] (fun tw tf ti wr => ∃ (k g : Nat) (vw vf : Int), tw = .int .i64 vw ∧ tf = .int .i64 vf ∧ ti = .int .i64 (k : Nat) ∧ k ≤ N ∧ Rx wr p g (sg 0 k) ∧ Bi wr w2.heap.size (bk T k) ∧ Fi pin k vf ∧ Wa pin T k vw ∧ Below W0.heap.size W0 wr ∧ W0.heap.size ≤ g ∧ g ≠ w2.heap.size) (fun _ _ ti _ => N - (intOf ti).toNat)
  case atStart =>
    refine ⟨0, g0, -1, -1, rfl, rfl, rfl, by omega, H2.out.1.below (below1 _ _), ?_, Fi.zero _, Wa.zero _ _, bs H2.out.2 (below1 _ _), hbp.2, by omega⟩
    rw [bk_zero]
    exact blk_new w2 (bv fun _ => false) 42
  case round =>
    obtain ⟨k, g, vw, vf, rfl, rfl, rfl, hk, hrx, hbi, hfi, hwa, hbel, hgb, hgn⟩ := hrel
    have hvf := hfi.le
    have hvw := hwa.le
    have HFI : Hid (Fi pin k vf) := hfi
    have HWA : Hid (Wa pin T k vw) := hwa
    have HX : Hid (Rx wr p g (sg 0 k) ∧ Bi wr w2.heap.size (bk T k) ∧ Below W0.heap.size W0 wr ∧ W0.heap.size ≤ g ∧ g ≠ w2.heap.size) := ⟨hrx, hbi, hbel, hgb, hgn⟩
    have h2s := H2.out.2.size
    have hbl := hbi.lt
    clear hfi hwa hbi hbel
    by_cases hlt : k < N
    · have CA : Hid (Calls _ _ _ _ _) := Add_is hrx (by omega) (sg_add (n := k) (by omega))
      clear hrx
      go_wp2_with fail
      refine CA.out.mono ?_
      rintro e w3 ⟨rfl, t3⟩
      obtain ⟨g3, x3, k3, at3⟩ := t3
      have hg3 : g3 ≠ w2.heap.size ∧ W0.heap.size ≤ g3 := by have := HX.out.2.2.1.size; rcases at3 with z | z <;> omega
      have hb3 : Below W0.heap.size W0 w3 := HX.out.2.2.1.trans (k3.to HX.out.2.2.1.size (fun i q => by rcases q with q | q <;> omega))
      have hbi3 : Bi w3 w2.heap.size (bk T k) := Blk.ch HX.out.2.1 k3 (fun q => by rcases q with q | q <;> omega)
      have ck := hbi3.cell (i := k) (by omega)
      have fk : w3.frozen? ⟨w2.heap.size, k, none⟩ = false := Blk.frozen hbi3 k
      have HF : ∀ t, T.getD k false = t → Hid (Rx (w3.setCell ⟨w2.heap.size, k, none⟩ (.bool t)) p g3 (sg 0 (k + 1)) ∧ Bi (w3.setCell ⟨w2.heap.size, k, none⟩ (.bool t)) w2.heap.size (bk T (k + 1)) ∧ Below W0.heap.size W0 (w3.setCell ⟨w2.heap.size, k, none⟩ (.bool t)) ∧ W0.heap.size ≤ g3 ∧ g3 ≠ w2.heap.size) := fun t ht => by
        have kk : Ch (fun i => i = w2.heap.size) w3 (w3.setCell ⟨w2.heap.size, k, none⟩ (.bool t)) := Ch.grown (grown_setCell' w3 _ k _) (fun y hy => by cases hy; rfl)
        refine ⟨x3.ch kk (by omega) hg3.1, ?_, hb3.trans (kk.to hb3.size (fun i q => by omega)), hg3.2, hg3.1⟩
        have := hbi3.set k t
        rw [← ht, bk_succ] at this
        rw [← ht]
        exact this
      have HBS3 : Hid (Bs W0.heap.size w3 ao T) := HBS.out.below hb3
      clear CA x3 k3 at3 hbi3 hb3
      generalize bk T k k = u0 at *
      by_cases hkm : k < m
      · obtain ⟨bb, off, rfl, _, cs⟩ := HBS3.out k (by omega)
        cases ht : T.getD k false
        · have HT : Hid (T.getD k false = false) := ht
          have HF := HF false ht
          rw [ht] at cs
          clear ht
          go_wp2
          all_goals (
            go_roundw
            case rel =>
              simp only [bne_iff_ne, bne_eq_false_iff_eq, ne_eq] at *
              exact ⟨k + 1, g3, _, _, rfl, rfl, (by first | go_num | (congr 1; omega)), by omega, HF.out.1, HF.out.2.1, (by first | exact HFI.out.hit (by omega) (by omega) | exact HFI.out.pass (by omega)), (by first | exact HWA.out.hit (by omega) HT.out (by omega) | exact HWA.out.pass (Or.inr (Or.inl HT.out)) | exact HWA.out.pass (by omega)), HF.out.2.2.1, HF.out.2.2.2.1, HF.out.2.2.2.2⟩
            case measure => simp [intOf]; omega)
        · have HT : Hid (T.getD k false = true) := ht
          have HF := HF true ht
          rw [ht] at cs
          clear ht
          go_wp2
          all_goals (
            go_roundw
            case rel =>
              simp only [bne_iff_ne, bne_eq_false_iff_eq, ne_eq] at *
              exact ⟨k + 1, g3, _, _, rfl, rfl, (by first | go_num | (congr 1; omega)), by omega, HF.out.1, HF.out.2.1, (by first | exact HFI.out.hit (by omega) (by omega) | exact HFI.out.pass (by omega)), (by first | exact HWA.out.hit (by omega) HT.out (by omega) | exact HWA.out.pass (Or.inr (Or.inl HT.out)) | exact HWA.out.pass (by omega)), HF.out.2.2.1, HF.out.2.2.2.1, HF.out.2.2.2.2⟩
            case measure => simp [intOf]; omega)
      · have ht : T.getD k false = false := by rw [List.getD_eq_getElem?_getD, List.getElem?_eq_none (by omega)]; rfl
        have HT : Hid (T.getD k false = false) := ht
        have HF := HF false ht
        clear ht
        go_wp2
        all_goals (
          go_roundw
          case rel =>
            simp only [bne_iff_ne, bne_eq_false_iff_eq, ne_eq] at *
            exact ⟨k + 1, g3, _, _, rfl, rfl, (by first | go_num | (congr 1; omega)), by omega, HF.out.1, HF.out.2.1, (by first | exact HFI.out.hit (by omega) (by omega) | exact HFI.out.pass (by omega)), (by first | exact HWA.out.hit (by omega) HT.out (by omega) | exact HWA.out.pass (Or.inr (Or.inl HT.out)) | exact HWA.out.pass (by omega)), HF.out.2.2.1, HF.out.2.2.2.1, HF.out.2.2.2.2⟩
          case measure => simp [intOf]; omega)
    · obtain rfl : k = N := by omega
      have US := us_bits w2.heap.size wr.heap.size p (by omega)
      have CN0 := Next_ok US hrx HX.out.2.1 (by omega) HX.out.2.2.2.2 pin
      by_cases hv : 0 ≤ vf
      · obtain ⟨w, j, L', f', hnx, hwN, hj, hcl, hlen', h0', hn', hcase⟩ := second_some (by omega) (by omega) HFI.out HWA.out hv
        rw [nval_some hnx, hnx] at CN0
        have CN : Hid (Calls _ _ _ _ _) := CN0
        have HCL : Hid (∀ i, i < w → (i : Int) ≠ pin → f' i = false) := hcl
        have HL' : Hid (L'.length = k ∧ L'[0]? = some (((w + 1) % k : Nat) : Int) ∧ L'[k - 1]? = some (w : Int)) := ⟨hlen', h0', hn'⟩
        have hmod : ((w : Int) + 1).tmod (k : Int) = (((w + 1) % k : Nat) : Int) := by
          rw [Int.tmod_eq_emod_of_nonneg (by omega)]
          exact (Int.natCast_emod (w + 1) k).symm
        have hjj : (j : Int) ≤ 2 * k + 1 := by omega
        clear CN0 US hrx hnx hcl hlen' h0' hn'
        generalize (w + 1) % k = w1' at *
        rcases hcase with ⟨rfl, rfl⟩ | ⟨rfl, rfl, rfl⟩
        all_goals (
          go_wp2_with fail
          refine CN.out.mono ?_
          rintro e w4 ⟨rfl, x4, bi4, c4⟩
          have H4 : Hid (Rx w4 p g L' ∧ Bi w4 w2.heap.size f' ∧ Below W0.heap.size W0 w4) := ⟨x4, bi4, HX.out.2.2.1.trans (c4.to HX.out.2.2.1.size (fun i q => by have := HX.out.2.2.1.size; rcases q with q | q | q <;> omega))⟩
          clear x4 bi4 c4 CN HX HFI HWA H2
          go_wp2
          go_loop [17] (fun t => ∃ q : Nat, q ≤ w ∧ t = .int .i64 q) (fun t => w - (intOf t).toNat)
          case atStart => exact ⟨0, by omega, rfl⟩
          case round =>
            obtain ⟨q, hq, rfl⟩ := hrel
            by_cases hqw : q < w
            · by_cases hqp : (q : Int) = pin
              · go_wp2
                go_round
                case rel => exact ⟨q + 1, by omega, (by first | go_num | (congr 1; omega))⟩
                case measure => simp [intOf]; omega
              · have cq : w4.cell? ⟨w2.heap.size, q, none⟩ = some (.bool false) := by rw [H4.out.2.1.cell (by omega), HCL.out q hqw hqp]
                go_wp2
                go_round
                case rel => exact ⟨q + 1, by omega, by go_num⟩
                case measure => simp [intOf]; omega
            · obtain rfl : q = w := by omega
              have CL : Hid (Calls _ _ _ _ _) := List_ok H4.out.1
              go_wp2_with fail
              refine CL.out.mono ?_
              rintro e w5 ⟨v, rfl, n5⟩
              have H5 : Hid (Below W0.heap.size W0 w5) := H4.out.2.2.trans (n5.2.1.mono H4.out.2.2.size)
              obtain ⟨gv, cv, Lv, rfl, _⟩ := n5.1.shape.resolve_left (fun z => by have := HL'.out.1; rw [z.2] at this; simp at this; omega)
              have k0 : w5.cell? ⟨gv, 0, none⟩ = some (.int .i64 (w1' : Nat)) := n5.1.cells HL'.out.2.1
              have k1 : w5.cell? ⟨gv, k - 1, none⟩ = some (.int .i64 (q : Nat)) := n5.1.cells HL'.out.2.2
              rw [HL'.out.1]
              have e7 : IntKind.i64.wrap ((k : Int) - 1) = ((k - 1 : Nat) : Int) := by rw [show (k : Int) - 1 = ((k - 1 : Nat) : Int) by omega]; simp (disch := omega) only [IntWalk.i64_in]
              have hk1 : k - 1 < k := by omega
              clear n5 CL H4 HL' HCL
              go_wp2
              go_quiet (fail)
              go_wp2
              go_ret
              exact ⟨rfl, H5.out.trans ((below_drewN _ _).mono H5.out.size)⟩)
      · have hvf1 : vf = -1 := by omega
        subst hvf1
        obtain ⟨rfl, hnx⟩ := second_nil (by omega) HFI.out vw HWA.out
        rw [nval_none hnx, hnx] at CN0
        have CN : Hid (Calls _ _ _ _ _) := CN0
        have HB : Hid (Below W0.heap.size W0 wr) := HX.out.2.2.1
        clear CN0 US hrx hnx HX HFI HWA H2
        go_wp2_with fail
        refine CN.out.mono ?_
        rintro e w4 ⟨rfl, x4, bi4, c4⟩
        have H4 : Hid (Below W0.heap.size W0 w4) := HB.out.trans (c4.to HB.out.size (fun i q => by have := HB.out.size; rcases q with q | q | q <;> omega))
        clear x4 bi4 c4 CN HB
        go_wp2
        go_ret
        exact ⟨rfl, H4.out⟩
end Go.Proofs.Ytimeoinmepfpnaa.Ri
