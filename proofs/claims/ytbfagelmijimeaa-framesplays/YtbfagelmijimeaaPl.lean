/- The law FramesPlays walked. -/
import Derived.Test.YtbfagelmijimeaaDn
import Derived.Test.YtbfagelmijimeaaIn
namespace Go.Proofs.Ytbfagelmijimeaa
open Go.ChangeShapes Go.WideShapes Go.ChangeAt Go.RowKit
set_option linter.unusedVariables false

/-- A list of Dos that came in. -/
def Dos (B : Nat) (W : World) (ao : Option Addr) (L : Nat) : Prop := ∀ i, i < L → ∃ (b off : Nat) (Kind At Size V To From : Int) (aB : Option Addr) (lB cB : Nat) (fB : Nat → Int), ao = some ⟨b, off, none⟩ ∧ b < B ∧
  (∀ j v, (doV Kind At Size V To From aB lB cB)[j]? = some v → W.cell? ⟨b, off + i * 7 + j, none⟩ = some v) ∧ DoIn B W Kind At Size V To From aB lB cB fB
theorem Dos.below {B : Nat} {W W' : World} {ao : Option Addr} {L : Nat} (h : Dos B W ao L) (hb : Below B W W') : Dos B W' ao L := fun i hi => by
  obtain ⟨b, off, Kind, At, Size, V, To, From, aB, lB, cB, fB, h1, h2, h3, h4⟩ := h i hi
  exact ⟨b, off, Kind, At, Size, V, To, From, aB, lB, cB, fB, h1, h2, fun j v hv => (hb.cell h2).trans (h3 j v hv), h4.below hb⟩
set_option maxRecDepth 100000 in
set_option maxHeartbeats 8000000 in
theorem plays_walk (w : World) (n : Int) (hn0 : -9223372036854775808 ≤ n) (hn1 : n < 9223372036854775808) (ao : Option Addr) (L cap : Nat) (hL : L ≤ maxLen) (hD : Dos w.heap.size w ao L) :
    Calls Try.prog 3 #[.int .i64 n, .slice ao L cap] w fun e w' => e = .returned (.bool true) ∧ Below w.heap.size w w' := by
  have HD : Hid (Dos w.heap.size w ao L) := hD
  clear hD
  unfold maxLen at hL
  go_enter Try.func3, Try.ntmps3
  by_cases hn : 1 ≤ n ∧ n ≤ 4096
  case' pos =>
    obtain ⟨n, rfl⟩ := Int.eq_ofNat_of_zero_le (show 0 ≤ n by omega)
    go_wp2_with fail
    refine (New_ok n (by omega) (by omega) w).mono ?_
    rintro e w1 ⟨p, g, rfl, hM, gr, hp, hg⟩
    have HM : Hid (Mem w1 p g n (fun _ => 0)) := hM
    have G1 : Hid (w.grownBy w1 none) := gr
    clear hM gr
    go_wp2_with fail
    refine (rNew_ok n (by omega) (by omega) w1).mono ?_
    rintro e w2 ⟨q, h, rfl, hM2, gr2, hq, hh⟩
    have l1 := HM.out.lt
    have l2 := HM.out.by'.1
    have l3 := hM2.lt
    have l4 := hM2.by'.1
    have z1 := G1.out.size
    have z2 := gr2.size
    have HLY : Hid (Lay p g q h n w.heap.size w2.heap.size) := ⟨by omega, by omega, by omega, by omega, by omega, by omega, by omega, by omega, by omega, by omega⟩
    have HS0 : Hid (SLive p g q h n w2.heap.size (fun _ => 0) (fun _ => 0) w2) := ⟨HM.out.kept gr2 (by simp) (by simp), hM2, Nat.le_refl _⟩
    have HB0 : Hid (Below w.heap.size w w2) := ((Below.refl _ _).grown G1.out (Nat.le_refl _) (by simp)).grown gr2 (by omega) (by simp)
    have FR : Hid (∀ W f, SLive p g q h n w2.heap.size f f W → Calls Try.prog 11 #[.pointer (some ⟨q, 0, none⟩)] W fun e W' => e = .returned (.int .i64 (n : Nat)) ∧ W' = W) := fun W f hs => rFrames_any hs.2.1 (by omega)
    have FM : Hid (Calls Try.prog 10 #[.pointer (some ⟨p, 0, none⟩)] w2 fun e W' => e = .returned (.int .i64 (n : Nat)) ∧ W' = w2) := Frames_any HS0.out.1 (by omega)
    have HO : Hid (Orc (some ⟨p, 0, none⟩) (some ⟨q, 0, none⟩) w.heap.size w2.heap.size (SLive p g q h n w2.heap.size)) := orc_live HLY.out
    have hnn : n ≤ 4096 := by omega
    clear HM G1 gr2 hM2 l1 l2 l3 l4 z1 z2 hp hg hq hh HLY hn hn0 hn1
    generalize SLive p g q h n w2.heap.size = S at *
    have HTT : Hid (∃ T, T = w2.heap.size) := ⟨_, rfl⟩
    obtain ⟨T, hT⟩ := HTT
    rw [← hT] at HO
    clear hT
    have HZ : Hid (∃ nn : Nat, nn = n) := ⟨_, rfl⟩
    obtain ⟨nn, hz⟩ := HZ
    rw [← hz] at FR FM hnn
    clear hz
    go_wp2_with fail
  case' neg =>
    go_wp2_with fail
    refine (New_no n (by omega) w).mono ?_
    rintro e w1 ⟨rfl, hw⟩
    rw [hw]
    clear hw w1
    go_wp2_with fail
    refine (rNew_no n (by omega) w).mono ?_
    rintro e w2 ⟨rfl, hw⟩
    rw [hw]
    clear hw w2
    have HS0 : Hid (SNil w.heap.size (fun _ => 0) (fun _ => 0) w) := Nat.le_refl _
    have HB0 : Hid (Below w.heap.size w w) := Below.refl _ _
    have FR : Hid (∀ W f, SNil w.heap.size f f W → Calls Try.prog 11 #[.pointer none] W fun e W' => e = .returned (.int .i64 ((0 : Nat) : Int)) ∧ W' = W) := fun W f hs => rFrames_nil W
    have FM : Hid (Calls Try.prog 10 #[.pointer none] w fun e W' => e = .returned (.int .i64 ((0 : Nat) : Int)) ∧ W' = w) := Frames_nil (Or.inl rfl)
    have HO : Hid (Orc none none w.heap.size w.heap.size (SNil w.heap.size)) := orc_nil _ _ (Nat.le_refl _)
    have hnn : 0 ≤ 4096 := by omega
    generalize SNil w.heap.size = S at *
    have HZ : Hid (∃ nn : Nat, nn = 0) := ⟨_, rfl⟩
    obtain ⟨nn, hz⟩ := HZ
    rw [← hz] at FR FM hnn
    clear hn hz
    go_wp2_with fail
  all_goals (
    refine FM.out.mono ?_
    rintro e w3 ⟨rfl, hw⟩
    rw [hw]
    clear hw w3
    go_wp2_with fail
    refine (FR.out _ _ HS0.out).mono ?_
    rintro e w4 ⟨rfl, hw⟩
    rw [hw]
    clear hw w4
    go_wp2_with fail
    go_loopw [9] (fun i wr => ∃ (k : Nat) (f : Nat → Int), k ≤ L ∧ k ≤ 60 ∧ i = .int .i64 k ∧ S f f wr ∧ Below w.heap.size w wr) (fun i _ => 60 - (intOf i).toNat)
    case atStart => exact ⟨0, _, by omega, by omega, rfl, HS0.out, HB0.out⟩
    case round =>
      clear HS0 HB0 FM
      obtain ⟨k, f, hk1, hk2, rfl, hS, hB⟩ := hrel
      have HS : Hid (S f f wr) := hS
      have HB : Hid (Below w.heap.size w wr) := hB
      clear hS hB
      by_cases hlt : k < L ∧ k < 60
      · obtain ⟨t1, t2⟩ := hlt
        obtain ⟨b, off, Kind, At, Size, V, To, From, aB, lB, cB, fB, rfl, hb, hcell, hDo⟩ := (HD.out.below HB.out) k t1
        have HDo : Hid (DoIn w.heap.size wr Kind At Size V To From aB lB cB fB) := hDo
        have c0 := hcell 0 _ rfl
        have c1 := hcell 1 _ rfl
        have c2 := hcell 2 _ rfl
        have c3 := hcell 3 _ rfl
        have c4 := hcell 4 _ rfl
        have c5 := hcell 5 _ rfl
        have c6 := hcell 6 _ rfl
        rw [Nat.add_zero] at c0
        clear hcell hDo
        go_wp2_with fail
        refine (done_any HO.out f wr HS.out HDo.out).mono ?_
        rintro e w5 ⟨rfl, ⟨f', hS5⟩, hb5⟩
        have HS5 : Hid (S f' f' w5) := hS5
        have HB5 : Hid (Below w.heap.size w w5) := HB.out.trans hb5
        clear hS5 hb5
        go_wp2
        go_roundw
        case rel => exact ⟨k + 1, f', by omega, by omega, by go_num, HS5.out, HB5.out⟩
        case measure => simp [intOf]; omega
      · rcases (show k < L ∧ ¬ k < 60 ∨ ¬ k < L by omega) with ⟨t1, t2⟩ | t1 <;> (
          go_wp2_with fail
          go_loopw [10] (fun i wr => ∃ (k : Nat), k ≤ 64 ∧ i = .int .i64 k ∧ S f f wr ∧ Below w.heap.size w wr) (fun i _ => 64 - (intOf i).toNat)
          case atStart => exact ⟨0, by omega, rfl, HS.out, HB.out⟩
          case round =>
            clear HS HB
            obtain ⟨j, hj, rfl, hS, hB⟩ := hrel
            have HS : Hid (S f f _) := hS
            have HB : Hid (Below w.heap.size w _) := hB
            clear hS hB
            go_wp2_with fail
            refine (FR.out _ _ HS.out).mono ?_
            rintro e w6 ⟨rfl, hw⟩
            rw [hw]
            clear hw w6
            rcases (show (j < nn ∧ j < 64) ∨ (j < nn ∧ ¬ j < 64) ∨ ¬ j < nn by omega) with ⟨u1, u2⟩ | ⟨u1, u2⟩ | u1
            · go_wp2_with fail
              refine (page_any HO.out f j wr HS.out).mono ?_
              rintro e w7 ⟨rfl, hb7⟩
              have HS7 : Hid (S f f w7) := HO.out.grow HS.out (below_grow hb7)
              have HB7 : Hid (Below w.heap.size w w7) := HB.out.trans (hb7.mono HB.out.size)
              clear hb7
              go_wp2
              go_roundw
              case rel => exact ⟨j + 1, by omega, by go_num, HS7.out, HB7.out⟩
              case measure => simp [intOf]; omega
            · go_wp2_with fail
              refine (works_any _).mono ?_
              rintro e w7 ⟨rfl, hb7⟩
              have HB7 : Hid (Below w.heap.size w w7) := HB.out.trans (hb7.mono HB.out.size)
              clear hb7
              go_wp2
              go_ret
              exact ⟨rfl, HB7.out⟩
            · go_wp2_with fail
              refine (works_any _).mono ?_
              rintro e w7 ⟨rfl, hb7⟩
              have HB7 : Hid (Below w.heap.size w w7) := HB.out.trans (hb7.mono HB.out.size)
              clear hb7
              go_wp2
              go_ret
              exact ⟨rfl, HB7.out⟩))
end Go.Proofs.Ytbfagelmijimeaa
