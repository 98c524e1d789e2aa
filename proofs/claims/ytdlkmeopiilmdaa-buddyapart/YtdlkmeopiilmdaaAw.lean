/- The statements' small functions dropped and awake; no condition but the ranges that each theorem names. -/
import Derived.Test.YtdlkmeopiilmdaaTw
namespace Go.Proofs.Ytdlkmeopiilmdaa
open Go.ChangeShapes Go.WideShapes Go.ChangeAt Go.RowKit
set_option linter.unusedVariables false

set_option maxHeartbeats 1000000 in
theorem dropped_ok {w : World} {v : Value} {h : List (Int × Int)} (H : Hd w v h) (hl : h.length ≤ 1000) (a : Int) :
    Calls Try.prog 15 #[v, .int .i64 a] w fun e w' => ∃ v' h', e = .returned v' ∧ Hd w' v' h' ∧ (∀ x ∈ h', x ∈ h) ∧ h'.length ≤ h.length ∧ w.grownBy w' none ∧ ∀ c, v'.ownBlock = some c → v.ownBlock = some c ∨ w.heap.size ≤ c := by
  obtain ⟨b, cap, rfl⟩ := H.len
  have HH : Hid (Hd w (.slice b h.length cap) h) := H
  clear H
  obtain ⟨n, hn⟩ : ∃ n, h.length = n := ⟨_, rfl⟩
  have HN : Hid (h.length = n) := hn
  rw [hn] at HH hl ⊢
  clear hn
  go_enter Try.func15, Try.ntmps15
  go_wp2
  go_loopw [5] (fun z wr => ∃ m : Nat, m ≤ n ∧ z = .int .i64 m ∧ wr = w) (fun z _ => n - (iv z).toNat)
  case atStart => exact ⟨0, by omega, rfl, rfl⟩
  case round =>
    obtain ⟨m, hm, rfl, hw⟩ := hrel
    obtain rfl := hw.symm
    by_cases hlt : m < n
    · have hltI : (m : Int) < (n : Int) := by omega
      obtain ⟨x, hx⟩ : ∃ x, h[m]? = some x := ⟨_, List.getElem?_eq_getElem (by rw [HN.out]; exact hlt)⟩
      obtain ⟨g1, k1, e1, q1, d1, d2⟩ := HH.out.cell hx
      rw [HN.out] at e1
      cases e1
      obtain ⟨x1, x2⟩ := x
      clear hx
      have HW : Hid (Calls _ _ _ _ _) := without_ok HH.out (by rw [HN.out]; exact hl) m
      by_cases e : x1 = a
      · subst e
        go_wp2_with fail
        refine HW.out.mono ?_
        rintro e w2 ⟨v2, rfl, h2, g2, n2⟩
        have HF : Hid (∃ h', Hd w2 v2 h' ∧ (∀ x ∈ h', x ∈ h) ∧ h'.length ≤ n ∧ w.grownBy w2 none ∧ ∀ c, v2.ownBlock = some c → (Value.slice (some ⟨g1, 0, none⟩) n cap).ownBlock = some c ∨ w.heap.size ≤ c) :=
          ⟨_, h2, fun x hx => List.mem_of_mem_eraseIdx hx, by rw [← HN.out]; exact List.length_eraseIdx_le _ _, g2, fun c hc => Or.inr (n2 c hc)⟩
        clear h2 g2 n2 HW
        go_wp2
        go_ret
        obtain ⟨h', q⟩ := HF.out
        exact ⟨v2, h', rfl, q⟩
      · clear HW
        go_wp2
        exact ⟨⟨m + 1, by omega, by go_num, by simp⟩, by simp [iv]; omega⟩
    · obtain rfl : m = n := by omega
      go_wp2
      go_ret
      exact ⟨.slice b m cap, rfl, h, HH.out, fun x y hx => hx, by rw [HN.out]; exact Nat.le_refl _, World.grownBy.refl _ _, fun c hc => Or.inl hc⟩
theorem nw5 : nwL 5 0 = [4] ∧ nwL 5 1 = [] ∧ nwL 5 2 = [0] := by decide
theorem Own.new1 (w : World) (x : Int) : Own (w.alloc (.cells #[.int .i64 x] 3)) (.slice (some ⟨w.heap.size, 0, none⟩) 1 1) [x] :=
  Own.of_blk (l := [x]) (blk_new w [.int .i64 x] 3) (Nat.le_refl _) (by unfold maxLen; omega) rfl rfl
set_option maxHeartbeats 2000000 in
theorem awake_ok (w : World) : Calls Try.prog 9 #[] w fun e w' => e = .returned (.bool true) ∧ w.grownBy w' none := by
  have C1 : Hid (Calls _ _ _ _ _) := New_ok 5 (by omega) w
  rw [show ((5 : Nat) : Int) = 5 from rfl] at C1
  go_enter Try.func9, Try.ntmps9
  go_wp2_with fail
  refine C1.out.mono ?_
  rintro e w1 ⟨G1, p, rfl, B1, K1⟩
  have HK1 : Hid (Kp (fun _ => False) G1 w w1) := K1
  have S1 := St.new 5
  have HS1 : Hid (St 5 (op0 5) (nwL 5) (fun _ => none)) := S1
  have C2 : Hid (Calls _ _ _ _ _) := Take_ok B1 (S1.len (by omega)) 0 0 4 [] (by omega) (by omega) (fun i h1 h2 => by omega) nw5.1 (by omega)
  rw [show ((0 : Nat) : Int) = 0 from rfl, show ((4 : Nat) : Int) = 4 from rfl] at C2
  clear S1 B1 K1 C1
  go_wp2_with fail
  refine C2.out.mono ?_
  rintro e w2 ⟨rfl, G2, B2, K2⟩
  have HK2 : Hid (Kp (fun _ => False) G2 w w2) := HK1.out.trans K2
  have S2 := (HS1.out.take (o := 0) (k := 0) (a := 4) (r := []) (by omega) (by omega) (fun i h1 h2 => by omega) nw5.1).1
  have HS2 : Hid (St 5 _ _ _) := S2
  have C3 : Hid (Calls _ _ _ _ _) := Take_ok B2 (S2.len (by omega)) 0 2 0 [] (by omega) (by omega) (fun i h1 h2 => by rcases (show i = 0 ∨ i = 1 by omega) with rfl | rfl <;> decide) (by decide) (by omega)
  rw [show ((0 : Nat) : Int) = 0 from rfl] at C3
  clear S2 B2 K2 C2 HK1
  go_wp2_with fail
  refine C3.out.mono ?_
  rintro e w3 ⟨rfl, G3, B3, K3⟩
  have HK3 : Hid (Kp (fun _ => False) G3 w w3) := HK2.out.trans K3
  have S3 := (HS2.out.take (o := 0) (k := 2) (a := 0) (r := []) (by omega) (by omega) (fun i h1 h2 => by rcases (show i = 0 ∨ i = 1 by omega) with rfl | rfl <;> decide) (by decide)).1
  have e0 : tkL (tkL (nwL 5) 0 0 4) 0 2 0 0 = [1] := by decide
  have e1 : tkL (tkL (nwL 5) 0 0 4) 0 2 0 1 = [2] := by decide
  obtain ⟨L3, hL3⟩ : ∃ L3, L3 = tkL (tkL (nwL 5) 0 0 4) 0 2 0 := ⟨_, rfl⟩
  rw [← hL3] at S3 e0 e1 B3
  clear hL3
  have HS3 : Hid (St 5 _ L3 _) := S3
  have HB3 : Hid (Bu w3 G3 p L3 _) := B3
  have C4 : Hid (Calls _ _ _ _ _) := Lists_any B3 (S3.len (by omega))
  clear C3 HK2
  go_wp2_with fail
  refine C4.out.mono ?_
  rintro e w4 ⟨v4, rfl, L4, g4⟩
  have B4 := B3.none g4
  have HK4 : Hid (Kp (fun _ => False) G3 w w4) := HK3.out.trans (Kp.of_none g4)
  have HL4 : Hid (Ls w3.heap.size w4 v4 (fun i => ints (L3 i))) := L4
  obtain ⟨g, cap, rfl, hgl, hcell⟩ := L4.cell
  have C5 : Hid (Calls _ _ _ _ _) := Give_ok B4 (S3.len (by omega)) S3.up 4 0 (by omega) (by omega) (by omega) rfl
  rw [show ((0 : Nat) : Int) = 0 from rfl, show ((4 : Nat) : Int) = 4 from rfl] at C5
  clear S3 B3 B4 L4 hcell C4 HK3 g4
  go_wp2_with fail
  refine C5.out.mono ?_
  rintro e w5 ⟨rfl, J, T5, G5, B5, K5⟩
  have S5 := (HS3.out.give rfl T5).1
  have HS5 : Hid (St 5 _ _ _) := S5
  have HK5 : Hid (Kp (fun _ => False) G5 w w5) := HK4.out.trans K5
  have HKL5 : Hid (Kp G3 G5 w4 w5) := K5
  have C6 : Hid (Calls _ _ _ _ _) := Give_ok B5 (S5.len (by omega)) S5.up 0 0 (by omega) (by omega) (by omega) rfl
  rw [show ((0 : Nat) : Int) = 0 from rfl] at C6
  clear S5 B5 K5 C5 T5 HK4
  go_wp2_with fail
  refine C6.out.mono ?_
  rintro e w6 ⟨rfl, J6, T6, G6, B6, K6⟩
  have S6 := (HS5.out.give rfl T6).1
  have HKL6 : Hid (Kp G3 G6 w4 w6) := HKL5.out.trans K6
  have HK6 : Hid (Kp (fun _ => False) G6 w w6) := HK5.out.trans K6
  have HTK : Hid (∀ x, pt (pt (pt (pt (fun _ => none) 4 (some 0)) 0 (some 0)) 4 none) 0 none x = (none : Option Nat)) := fun x => by
    unfold pt
    split
    · rfl
    · split
      · rfl
      · rfl
  have HFR : Hid (fr (gvE (gvE L3 0 4 J) 0 0 J6) = 5) := by
    have := S6.cn
    rw [S6.whole.1 HTK.out] at this
    exact this.symm
  have HB6 : Hid (Bu w6 G6 p _ _) := B6
  have HL6 : Hid (Ls w3.heap.size w6 (.slice (some ⟨g, 0, none⟩) 7 cap) (fun i => ints (L3 i))) := by
    obtain ⟨g', cap', F, V, e1, R, hF⟩ := HL4.out
    cases e1
    exact ⟨_, _, F, V, rfl, R.of_eq HKL6.out.size (fun b hb => HKL6.out.block b (R.lt b hb) (fun z => by have := HB3.out.lt b z; have := hF b hb; omega)), hF⟩
  have HLE : Hid (∀ i, i < 7 → (gvE (gvE L3 0 4 J) 0 0 J6 i).length ≤ 4096) := S6.len (by omega)
  obtain ⟨g', cap', e2, hgl6, hc6⟩ := HL6.out.cell
  cases e2
  obtain ⟨a0, c0, d0, o0⟩ := hc6 0 (by omega)
  obtain ⟨a1, c1, d1, o1⟩ := hc6 1 (by omega)
  simp only [e0] at d0 o0
  simp only [e1] at d1 o1
  have hi1 : ∀ x : Nat, (ints [x]).length = 1 := fun x => rfl
  rw [hi1] at d0 o0 d1 o1
  clear C6 K6 T6 S6 B6 hc6 e0 e1 HL4 hgl
  have CE0 : Hid (Calls _ _ _ _ _) := eq_ok (w := w6.alloc (.cells #[.int .i64 1] 3)) (o0.of_eq (fun k hk => Below.heap_alloc _ _ _ (o0.lt k hk))) (Own.new1 w6 1) (by show 1 ≤ 5000; omega)
  have HO1 : Hid (Own w6 (.slice a1 1 c1) (ints [2])) := o1
  clear o0 o1
  go_wp2_with fail
  refine CE0.out.mono ?_
  rintro e w7 ⟨rfl, g7⟩
  have G67 : w6.grownBy w7 none := (World.grownBy_alloc _ _ none).trans g7
  have d1' : w7.cell? ⟨g, 1, none⟩ = some (.slice a1 1 c1) := (G67.cell_far ⟨g, 1, none⟩ hgl6 (by simp)).trans d1
  have HO17 := HO1.out.of_eq (w' := w7) (fun k hk => G67.block k (HO1.out.lt k hk) (by simp))
  have CE1 : Hid (Calls _ _ _ _ _) := eq_ok (w := w7.alloc (.cells #[.int .i64 2] 3)) (HO17.of_eq (fun k hk => Below.heap_alloc _ _ _ (HO17.lt k hk))) (Own.new1 w7 2) (by show 1 ≤ 5000; omega)
  have HG67 : Hid (w6.grownBy w7 none) := G67
  clear d0 d1 CE0 g7 G67 HO17
  go_wp2_with fail
  refine CE1.out.mono ?_
  rintro e w8 ⟨rfl, g8⟩
  have HG68 : Hid (w6.grownBy w8 none) := HG67.out.trans ((World.grownBy_alloc _ _ none).trans g8)
  have CW : Hid (Calls _ _ _ _ _) := Whole_any (HB6.out.none HG68.out)
  have CF : Hid (Calls _ _ _ _ _) := Free_any (HB6.out.none HG68.out) HLE.out
  rw [HFR.out, show ((5 : Nat) : Int) = 5 from rfl] at CF
  clear CE1 g8 d1'
  go_wp2_with fail
  refine CW.out.mono ?_
  rintro e w9 ⟨r, rfl, hr, h⟩
  obtain rfl := h.symm
  have hrt : r = true := hr.2 HTK.out
  subst hrt
  clear hr CW
  go_wp2_with fail
  refine CF.out.mono ?_
  rintro e w10 ⟨rfl, h⟩
  obtain rfl := h.symm
  have HG : Hid (w.grownBy w8 none) := by
    have k := HK6.out
    exact ⟨HG68.out.os.trans k.os, HG68.out.tape.trans k.tape, HG68.out.output.trans k.output, Nat.le_trans k.size HG68.out.size, fun i hi _ => (HG68.out.block i (Nat.lt_of_lt_of_le hi k.size) (by simp)).trans (k.block i hi (by simp))⟩
  clear CF
  go_wp2
  go_ret
  exact ⟨rfl, HG.out⟩
end Go.Proofs.Ytdlkmeopiilmdaa
