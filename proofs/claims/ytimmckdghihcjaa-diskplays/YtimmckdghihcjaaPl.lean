/- The law DiskPlays walked. -/
import Derived.Test.YtimmckdghihcjaaDo
import Derived.Test.YtimmckdghihcjaaIn
namespace Go.Proofs.Ytimmckdghihcjaa
open Go.ChangeShapes Go.WideShapes Go.ChangeAt Go.RowKit
set_option linter.unusedVariables false

/-- Ints that may be written. -/
def IW (w : World) (g n : Nat) : Prop := g < w.heap.size ∧ ∀ i, i < n → (∃ x, w.cell? ⟨g, i, none⟩ = some (.int .i64 x)) ∧ w.frozen? ⟨g, i, none⟩ = false
theorem IB.iw {w : World} {g : Nat} {l : List Int} (h : IB w g l) : IW w g l.length := ⟨h.1, fun i hi => ⟨⟨l[i], (h.2 i _ (List.getElem?_eq_getElem hi)).1⟩, (h.2 i _ (List.getElem?_eq_getElem hi)).2⟩⟩
theorem IW.kept {w w' : World} {g n : Nat} {row : Option Nat} (h : IW w g n) (gr : w.grownBy w' row) (hne : some g ≠ row) : IW w' g n :=
  ⟨Nat.lt_of_lt_of_le h.1 gr.size, fun i hi => by
    obtain ⟨⟨x, hx⟩, hf⟩ := h.2 i hi
    exact ⟨⟨x, (gr.cell_far _ h.1 hne).trans hx⟩, (gr.frozen_far _ h.1 hne).trans hf⟩⟩
theorem IW.set {w : World} {g n : Nat} (h : IW w g n) (k : Nat) (v : Int) : IW (w.setCell ⟨g, k, none⟩ (.int .i64 v)) g n := by
  refine ⟨by simpa [World.setCell] using h.1, fun i hi => ?_⟩
  obtain ⟨⟨x, hx⟩, hf⟩ := h.2 i hi
  refine ⟨?_, by rw [World.frozen?_setCell]; exact hf⟩
  by_cases e : i = k
  · subst e
    exact ⟨v, by rw [World.cell?_setCell_same _ _ _ hx]⟩
  · exact ⟨x, by rw [World.cell?_setCell_other _ _ _ _ (by intro h; cases h; exact e rfl)]; exact hx⟩
theorem eqI_n {w : World} {a1 a2 : Option Addr} {l : List Int} {c1 c2 n : Nat} (hn : n = l.length) (hl : n ≤ 1024) (h1 : IA w a1 l) (h2 : IA w a2 l) :
    Calls Try.prog 12 #[.slice a1 n c1, .slice a2 n c2] w fun e w' => e = .returned (.bool true) ∧ w.grownBy w' none := by
  subst hn
  exact eqI_any hl h1 h2
/-- What Used gives back, laid open: l ints in new memory. -/
def Uo (W : World) (l : List Int) (n : Nat) (e : Ending) (W' : World) : Prop := ∃ ao c, e = .returned (.slice ao n c) ∧ c ≤ maxLen ∧ (l = [] ∨ ∃ g, ao = some ⟨g, 0, none⟩ ∧ W.heap.size ≤ g ∧ IB W' g l) ∧ W.grownBy W' none
theorem Ud.open' {W : World} {l : List Int} {e : Ending} {W' : World} (h : Ud W l e W') (n : Nat) (hn : n = l.length) : Uo W l n e W' := by
  obtain ⟨v, rfl, hI, gr⟩ := h
  obtain ⟨ao, c, rfl, hc, h⟩ := hI.form
  subst hn
  refine ⟨ao, c, rfl, hc, ?_, gr⟩
  rcases h with ⟨h0, _⟩ | h
  · exact Or.inl h0
  · exact Or.inr h
theorem ia_of {W' : World} {l : List Int} {ao : Option Addr} {B : Nat} (h : l = [] ∨ ∃ g, ao = some ⟨g, 0, none⟩ ∧ B ≤ g ∧ IB W' g l) : IA W' ao l := by
  rcases h with h | ⟨g, e, _, h⟩
  · exact Or.inl h
  · exact Or.inr ⟨g, e, h⟩
set_option maxRecDepth 100000 in
set_option maxHeartbeats 2000000 in
theorem plays_walk (w : World) (n : Int) (hn0 : -9223372036854775808 ≤ n) (hn1 : n < 9223372036854775808) (ao : Option Addr) (L cap : Nat) (hL : L ≤ maxLen) (hD : Dos w.heap.size w ao L) :
    Calls Try.prog 3 #[.int .i64 n, .slice ao L cap] w fun e w' => e = .returned (.bool true) ∧ Below w.heap.size w w' := by
  have HD : Hid (Dos w.heap.size w ao L) := hD
  clear hD
  unfold maxLen at hL
  go_enter Try.func3, Try.ntmps3
  by_cases hn : 0 ≤ n ∧ n ≤ 1024
  case' pos =>
    obtain ⟨n, rfl⟩ := Int.eq_ofNat_of_zero_le (show 0 ≤ n by omega)
    go_wp2_with fail
    refine (New_ok n (by omega) w).mono ?_
    rintro e w1 ⟨p, b, rfl, hM, gr, hp, hb⟩
    have HM : Hid (Dk w1 p b n (fun _ => none)) := hM
    have G1 : Hid (w.grownBy w1 none) := gr
    clear hM gr
    go_wp2_with fail
    refine (rNew_ok n (by omega) [b] w1 (fun x hx => by simp at hx; subst hx; exact HM.out.mp.lt)).mono ?_
    rintro e w2 ⟨q, g, rfl, hM2, gr2, hq, hg⟩
    have l1 := HM.out.st.lt
    have l2 := HM.out.mp.lt
    have z1 := G1.out.size
    have z2 := gr2.size
    have HLY : Hid (Lay p b q g w.heap.size) := ⟨hb, by omega, by omega, by omega⟩
    have HS0 : Hid (SLive p b q g n w.heap.size (fun _ => none) (fun _ => none) w2.heap.size [] w2) := ⟨HM.out.kept gr2 (by simp) (by simp), hM2, ⟨by omega, by simp⟩, ⟨by omega, by simp⟩⟩
    have HB0 : Hid (Below w.heap.size w w2) := ((Below.refl _ _).grown G1.out (Nat.le_refl _) (by simp)).grown gr2 (by omega) (by simp)
    have FR : Hid (∀ W m T, SLive p b q g n w.heap.size m m T [] W → Calls Try.prog 9 #[.pointer (some ⟨q, 0, none⟩)] W fun e W' => e = .returned (.int .i64 (n : Nat)) ∧ W' = W) := fun W m T hs => rSlots_any hs.r
    have FM : Hid (Calls Try.prog 8 #[.pointer (some ⟨p, 0, none⟩)] w2 fun e W' => e = .returned (.int .i64 (n : Nat)) ∧ W' = w2) := Slots_any HS0.out.d
    have HO : Hid (Orc (some ⟨p, 0, none⟩) (some ⟨q, 0, none⟩) w.heap.size (SLive p b q g n w.heap.size)) := orc_live HLY.out (by omega)
    have hnn : n ≤ 1024 := by omega
    clear HM G1 gr2 hM2 l1 l2 z1 z2 hp hb hq hg HLY hn hn0 hn1
    generalize SLive p b q g n w.heap.size = S at *
    have HTT : Hid (∃ T, T = w2.heap.size) := ⟨_, rfl⟩
    obtain ⟨T, hT⟩ := HTT
    rw [← hT] at HS0
    clear hT
    have HZ : Hid (∃ nn : Nat, nn = n) := ⟨_, rfl⟩
    obtain ⟨nn, hz⟩ := HZ
    rw [← hz] at FR FM hnn
    clear hz
    go_wp2_with fail
  case' neg =>
    go_wp2_with fail
    refine (New_no n (by omega) w).mono ?_
    rintro e w1 ⟨rfl, hw⟩
    rw [hw]
    clear hw w1
    go_wp2_with fail
    refine (rNew_no n (by omega) w).mono ?_
    rintro e w2 ⟨rfl, hw⟩
    rw [hw]
    clear hw w2
    have HS0 : Hid (SNil w.heap.size (fun _ => none) (fun _ => none) w.heap.size [] w) := ⟨Nat.le_refl _, Nat.le_refl _⟩
    have HB0 : Hid (Below w.heap.size w w) := Below.refl _ _
    have FR : Hid (∀ W m T, SNil w.heap.size m m T [] W → Calls Try.prog 9 #[.pointer none] W fun e W' => e = .returned (.int .i64 ((0 : Nat) : Int)) ∧ W' = W) := fun W m T hs => rSlots_nil W
    have FM : Hid (Calls Try.prog 8 #[.pointer none] w fun e W' => e = .returned (.int .i64 ((0 : Nat) : Int)) ∧ W' = w) := Slots_nil (Or.inl rfl)
    have HO : Hid (Orc none none w.heap.size (SNil w.heap.size)) := orc_nil _
    have hnn : 0 ≤ 1024 := by omega
    generalize SNil w.heap.size = S at *
    have HTT : Hid (∃ T, T = w.heap.size) := ⟨_, rfl⟩
    obtain ⟨T, hT⟩ := HTT
    rw [← hT] at HS0
    clear hT
    have HZ : Hid (∃ nn : Nat, nn = 0) := ⟨_, rfl⟩
    obtain ⟨nn, hz⟩ := HZ
    rw [← hz] at FR FM hnn
    clear hn hz
    go_wp2_with fail
  all_goals (
    refine FM.out.mono ?_
    rintro e w3 ⟨rfl, hw⟩
    rw [hw]
    clear hw w3
    go_wp2_with fail
    refine (FR.out _ _ _ HS0.out).mono ?_
    rintro e w4 ⟨rfl, hw⟩
    rw [hw]
    clear hw w4
    go_wp2_with fail
    go_loopw [9] (fun i wr => ∃ (k : Nat) (m : Slots) (T : Nat), k ≤ L ∧ k ≤ 60 ∧ i = .int .i64 k ∧ S m m T [] wr ∧ Below w.heap.size w wr) (fun i _ => 60 - (iv i).toNat)
    case atStart => exact ⟨0, _, _, by omega, by omega, rfl, HS0.out, HB0.out⟩
    case round =>
      clear HS0 HB0 FM T
      obtain ⟨k, f, T, hk1, hk2, rfl, hS, hB⟩ := hrel
      have HS : Hid (S f f T [] wr) := hS
      have HB : Hid (Below w.heap.size w wr) := hB
      clear hS hB
      by_cases hlt : k < L ∧ k < 60
      · obtain ⟨t1, t2⟩ := hlt
        obtain ⟨b0, off, Kind, Slot, aB, lB, cB, fB, rfl, hb0, hcell, hDo⟩ := (HD.out.below HB.out) k t1
        have HDo : Hid (DoIn w.heap.size wr Kind Slot aB lB cB fB) := hDo
        have c0 := hcell 0 _ rfl
        have c1 := hcell 1 _ rfl
        have c2 := hcell 2 _ rfl
        rw [Nat.add_zero] at c0
        clear hcell hDo
        go_wp2_with fail
        refine (done_any HO.out f wr HS.out HDo.out).mono ?_
        rintro e w5 ⟨rfl, ⟨f', hS5⟩, hb5⟩
        have HS5 : Hid (S f' f' w5.heap.size [] w5) := hS5
        have HB5 : Hid (Below w.heap.size w w5) := HB.out.trans hb5
        obtain ⟨l, hl, hU⟩ := HO.out.used f'
        obtain ⟨N, hN⟩ : ∃ N, N = l.length := ⟨_, rfl⟩
        have HU1 : Hid (∀ W T A, S f' f' T A W → Calls Try.prog 11 #[.pointer _] W (Ud W l)) := fun W T A h => (hU W T A h).1
        have HU2 : Hid (∀ W T A, S f' f' T A W → Calls Try.prog 13 #[.pointer _] W (Ud W l)) := fun W T A h => (hU W T A h).2
        have HN : Hid (N = l.length) := hN
        rw [← hN] at hl
        clear hS5 hb5 hU hN c0 c1 c2 HDo HS HB
        go_wp2_with fail
        refine (HU1.out w5 _ _ HS5.out).mono ?_
        intro e w6 hu
        obtain ⟨a1, c1, rfl, hc1, h1, gr⟩ := hu.open' N HN.out
        have HS6 : Hid (S f' f' w5.heap.size [] w6) := HO.out.grow HS5.out gr
        have HB6 : Hid (Below w.heap.size w w6) := HB5.out.grown gr HB5.out.size (by simp)
        have HI6 : Hid (l = [] ∨ ∃ g, a1 = some ⟨g, 0, none⟩ ∧ w5.heap.size ≤ g ∧ IB w6 g l) := h1
        unfold maxLen at hc1
        clear hu h1 gr
        go_wp2_with fail
        refine (HU1.out w6 _ _ HS6.out).mono ?_
        intro e w7 hu
        obtain ⟨a2, c2, rfl, hc2, h2, gr⟩ := hu.open' N HN.out
        have HS7 : Hid (S f' f' w5.heap.size [] w7) := HO.out.grow HS6.out gr
        have HB7 : Hid (Below w.heap.size w w7) := HB6.out.grown gr HB6.out.size (by simp)
        have HI7 : Hid (l = [] ∨ ∃ g, a1 = some ⟨g, 0, none⟩ ∧ w5.heap.size ≤ g ∧ g < w6.heap.size ∧ IB w7 g l) := by
          rcases HI6.out with h | ⟨g, h1, h2, h3⟩
          · exact Or.inl h
          · exact Or.inr ⟨g, h1, h2, h3.1, h3.kept gr (by simp)⟩
        have HJ7 : Hid (l = [] ∨ ∃ g, a2 = some ⟨g, 0, none⟩ ∧ w6.heap.size ≤ g ∧ IB w7 g l) := h2
        unfold maxLen at hc2
        clear hu h2 gr HS6 HI6
        go_wp2_with fail
        refine (HU2.out w7 _ _ HS7.out).mono ?_
        intro e w8 hu
        obtain ⟨a3, c3, rfl, hc3, h3, gr⟩ := hu.open' N HN.out
        have HS8 : Hid (S f' f' w5.heap.size [] w8) := HO.out.grow HS7.out gr
        have HB8 : Hid (Below w.heap.size w w8) := HB7.out.grown gr HB7.out.size (by simp)
        have HI8 : Hid (l = [] ∨ ∃ g, a1 = some ⟨g, 0, none⟩ ∧ w5.heap.size ≤ g ∧ g < w6.heap.size ∧ IB w8 g l) := by
          rcases HI7.out with h | ⟨g, h1, h2, h2', h3⟩
          · exact Or.inl h
          · exact Or.inr ⟨g, h1, h2, h2', h3.kept gr (by simp)⟩
        have HJ8 : Hid (l = [] ∨ ∃ g, a2 = some ⟨g, 0, none⟩ ∧ w6.heap.size ≤ g ∧ IB w8 g l) := by
          rcases HJ7.out with h | ⟨g, h1, h2, h3⟩
          · exact Or.inl h
          · exact Or.inr ⟨g, h1, h2, h3.kept gr (by simp)⟩
        have HK8 : Hid (IA w8 a3 l) := ia_of h3
        have HA8 : Hid (IA w8 a1 l) := by
          rcases HI8.out with h | ⟨g, h1, _, _, h3⟩
          · exact Or.inl h
          · exact Or.inr ⟨g, h1, h3⟩
        clear hu h3 gr HS7 HI7 HJ7 hc3
        go_wp2_with fail
        refine (eqI_n HN.out hl HA8.out HK8.out).mono ?_
        rintro e w9 ⟨rfl, gr⟩
        have HS9 : Hid (S f' f' w5.heap.size [] w9) := HO.out.grow HS8.out gr
        have HB9 : Hid (Below w.heap.size w w9) := HB8.out.grown gr HB8.out.size (by simp)
        have HI9 : Hid (N = 0 ∨ ∃ g, a1 = some ⟨g, 0, none⟩ ∧ w5.heap.size ≤ g ∧ g < w6.heap.size ∧ IW w9 g N) := by
          rcases HI8.out with h | ⟨g, h1, h2, h2', h3⟩
          · exact Or.inl (by rw [HN.out, h]; rfl)
          · exact Or.inr ⟨g, h1, h2, h2', by rw [HN.out]; exact (h3.kept gr (by simp)).iw⟩
        have HJ9 : Hid (l = [] ∨ ∃ g, a2 = some ⟨g, 0, none⟩ ∧ w6.heap.size ≤ g ∧ IB w9 g l) := by
          rcases HJ8.out with h | ⟨g, h1, h2, h3⟩
          · exact Or.inl h
          · exact Or.inr ⟨g, h1, h2, h3.kept gr (by simp)⟩
        have z5 := HB5.out.size
        clear gr HS8 HI8 HJ8 HK8 HA8 HB5 HB6 HB7 HB8 HS5
        go_wp2_with fail
        go_loopw [12] (fun i wx => ∃ j : Nat, j ≤ N ∧ i = .int .i64 j ∧ S f' f' w5.heap.size [] wx ∧ Below w.heap.size w wx ∧ (N = 0 ∨ ∃ g, a1 = some ⟨g, 0, none⟩ ∧ w5.heap.size ≤ g ∧ g < w6.heap.size ∧ IW wx g N) ∧ (l = [] ∨ ∃ g, a2 = some ⟨g, 0, none⟩ ∧ w6.heap.size ≤ g ∧ IB wx g l)) (fun i _ => N - (iv i).toNat)
        case atStart => exact ⟨0, by omega, rfl, HS9.out, HB9.out, HI9.out, HJ9.out⟩
        case round =>
          clear HS9 HB9 HI9 HJ9
          obtain ⟨j, hj, rfl, hS, hB, hI, hJ⟩ := hrel
          have HS : Hid (S f' f' w5.heap.size [] wr) := hS
          have HB : Hid (Below w.heap.size w wr) := hB
          have HJ : Hid (l = [] ∨ ∃ g, a2 = some ⟨g, 0, none⟩ ∧ w6.heap.size ≤ g ∧ IB wr g l) := hJ
          clear hS hB hJ
          by_cases hlt : j < N
          · obtain ⟨g1, rfl, q1, q2, q3⟩ := hI.resolve_left (by omega)
            have HW : Hid (IW wr g1 N) := q3
            obtain ⟨⟨x, x1⟩, x2⟩ := q3.2 j hlt
            clear q3
            go_wp2
            go_roundw
            case rel =>
              have G := grown_setCell' wr g1 j (.int .i64 (-9))
              refine ⟨j + 1, by omega, by go_num, HO.out.stay _ _ _ _ _ _ _ HS.out G (fun t ht => Or.inl (by injection ht; omega)), HB.out.grown G HB.out.size (fun t ht => by injection ht; omega), Or.inr ⟨g1, rfl, q1, q2, HW.out.set j _⟩, ?_⟩
              rcases HJ.out with h | ⟨g, h1, h2, h3⟩
              · exact Or.inl h
              · exact Or.inr ⟨g, h1, h2, h3.kept G (some_ne (by omega))⟩
            case measure => simp [iv]; omega
          · obtain rfl : j = N := by omega
            clear hI
            go_wp2_with fail
            refine (HU2.out _ _ _ HS.out).mono ?_
            intro e w10 hu
            obtain ⟨a4, c4, rfl, hc4, h4, gr⟩ := hu.open' j HN.out
            have HS10 : Hid (S f' f' w5.heap.size [] w10) := HO.out.grow HS.out gr
            have HB10 : Hid (Below w.heap.size w w10) := HB.out.grown gr HB.out.size (by simp)
            have HK10 : Hid (IA w10 a4 l) := ia_of h4
            have HJ10 : Hid (IA w10 a2 l) := (ia_of HJ.out).kept gr (by simp)
            clear hu h4 gr hc4
            go_wp2_with fail
            refine (eqI_n HN.out hl HJ10.out HK10.out).mono ?_
            rintro e w11 ⟨rfl, gr⟩
            have HS11 : Hid (S f' f' w5.heap.size [] w11) := HO.out.grow HS10.out gr
            have HB11 : Hid (Below w.heap.size w w11) := HB10.out.grown gr HB10.out.size (by simp)
            clear gr
            go_wp2
            go_roundw
            case rel => exact ⟨k + 1, f', _, by omega, by omega, by go_num, HS11.out, HB11.out⟩
            case measure => simp [iv]; omega
      · rcases (show k < L ∧ ¬ k < 60 ∨ ¬ k < L by omega) with ⟨t1, t2⟩ | t1 <;> (
          go_wp2_with fail
          go_loopw [13] (fun i wr => ∃ (k : Nat), k ≤ 70 ∧ i = .int .i64 k ∧ S f f T [] wr ∧ Below w.heap.size w wr) (fun i _ => 70 - (iv i).toNat)
          case atStart => exact ⟨0, by omega, rfl, HS.out, HB.out⟩
          case round =>
            clear HS HB
            obtain ⟨j, hj, rfl, hS, hB⟩ := hrel
            have HS : Hid (S f f T [] _) := hS
            have HB : Hid (Below w.heap.size w _) := hB
            clear hS hB
            go_wp2_with fail
            refine (FR.out _ _ _ HS.out).mono ?_
            rintro e w6 ⟨rfl, hw⟩
            rw [hw]
            clear hw w6
            rcases (show (j < nn ∧ j < 70) ∨ (j < nn ∧ ¬ j < 70) ∨ ¬ j < nn by omega) with ⟨u1, u2⟩ | ⟨u1, u2⟩ | u1
            · go_wp2_with fail
              refine (read_any HO.out f j wr HS.out).mono ?_
              rintro e w7 ⟨rfl, hb7⟩
              have HS7 : Hid (S f f T [] w7) := HO.out.grow HS.out (below_grow hb7)
              have HB7 : Hid (Below w.heap.size w w7) := HB.out.trans (hb7.mono HB.out.size)
              clear hb7
              go_wp2
              go_roundw
              case rel => exact ⟨j + 1, by omega, by go_num, HS7.out, HB7.out⟩
              case measure => simp [iv]; omega
            · go_wp2_with fail
              refine (works_any _).mono ?_
              rintro e w7 ⟨rfl, hb7⟩
              have HB7 : Hid (Below w.heap.size w w7) := HB.out.trans (hb7.mono HB.out.size)
              clear hb7
              go_wp2
              go_ret
              exact ⟨rfl, HB7.out⟩
            · go_wp2_with fail
              refine (works_any _).mono ?_
              rintro e w7 ⟨rfl, hb7⟩
              have HB7 : Hid (Below w.heap.size w w7) := HB.out.trans (hb7.mono HB.out.size)
              clear hb7
              go_wp2
              go_ret
              exact ⟨rfl, HB7.out⟩))
end Go.Proofs.Ytimmckdghihcjaa
