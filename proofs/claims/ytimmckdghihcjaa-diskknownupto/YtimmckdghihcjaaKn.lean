/- The law DiskKnown walked: the chapter's examples; both ends; disks that are none. -/
import Derived.Test.YtimmckdghihcjaaWk
namespace Go.Proofs.Ytimmckdghihcjaa
open Go.ChangeShapes Go.WideShapes Go.ChangeAt Go.RowKit
set_option linter.unusedVariables false

theorem make_run (n : Nat) (hn : n ≤ 1048576) (w : World) : (Instr.makeSlice 32 (.int .i64 n) (.int .i64 n)).run Try.prog w = .ok (.slice (some ⟨w.heap.size, 0, none⟩) n n) (w.alloc (.cells (vals n (fun _ => 0)).toArray 5)) := by
  obtain ⟨i0, hi, hz0, hz1, hz2⟩ := info_parts Try.infoU
  have h := run_makeSlice (P := Try.prog) w 32 5 i0 (.int .u8 0) Try.underlying32 hi hz0 .i64 .i64 n n (by omega) (by omega) (by rw [hz1]; simp; omega) (by rw [hz2]; omega) (by omega)
  rw [h]
  have e : madeCells (Value.int .u8 0).cells ((n : Int).toNat * i0.size) = (vals n (fun _ => 0)).toArray := by
    apply Array.toList_inj.1
    rw [hz1, Int.toNat_natCast]
    show (madeCells #[.int .u8 0] (n * 1)).toList = _
    rw [toList_madeCells_one, Nat.mul_one, vals_zero]
  rw [e, Int.toNat_natCast]
theorem page_nil (w : World) : Calls Try.prog 18 #[.slice none 0 0] w (Pgd w (pg 0 (fun _ => 0))) := page_any (Nat.zero_le _) (Arg.nil _ _ _)
theorem okB0 : okB 256 (pg 0 (fun _ => 0)) := fun i hi => by unfold pg; rw [if_neg (by omega)]; exact ⟨by decide, by decide⟩
theorem us_one (u : Nat → Int) : usI 2 (pt (fun _ => none) 0 (some u)) = [0] := by
  unfold usI us
  simp [List.range_succ, pt]
/-- Used of a disk of which no slot has a page, and its length. -/
theorem Used_none {w : World} {p b N : Nat} {m : Nat → Option (Nat → Int)} (h : Dk w p b N m) (hm : ∀ j, m j = none) : Calls Try.prog 11 #[.pointer (some ⟨p, 0, none⟩)] w fun e w' => ∃ ao c, e = .returned (.slice ao 0 c) ∧ c ≤ maxLen ∧ w.grownBy w' none := by
  refine (Used_any h).mono ?_
  rintro e w' ⟨v, rfl, hI, gr⟩
  rw [us_none _ _ hm] at hI
  obtain ⟨ao, c, rfl, hc, _⟩ := hI.form
  exact ⟨ao, c, rfl, hc, gr⟩
set_option maxRecDepth 100000 in
set_option maxHeartbeats 4000000 in
theorem known_walk (w : World) : Calls Try.prog 5 #[] w fun e w' => e = .returned (.bool true) ∧ Below w.heap.size w w' := by
  go_enter Try.func5, Try.ntmps5
  go_wp2_with fail
  refine (New_no (-1) (by omega) w).mono ?_
  rintro e w0 ⟨rfl, hw⟩
  rw [hw]
  clear hw w0
  go_wp2_with fail
  refine (New_no 1025 (by omega) w).mono ?_
  rintro e w0 ⟨rfl, hw⟩
  rw [hw]
  clear hw w0
  go_wp2_with fail
  refine (New_ok 1024 (by omega) w).mono ?_
  rintro e w1 ⟨p1, b1, rfl, hD, gr, hp, hb⟩
  have A1 : Hid (Dn w w1 p1 b1 1024 (fun _ => none)) := ⟨hD, (Below.refl _ _).grown gr (Nat.le_refl _) (by simp), hp, hb⟩
  clear hD gr hp hb
  go_wp2_with fail
  refine (New_ok 0 (by omega) w1).mono ?_
  rintro e w2 ⟨p2, b2, rfl, hD, gr, hp, hb⟩
  have A2 : Hid (Dn w w2 p1 b1 1024 (fun _ => none)) := A1.out.grow gr
  have hs := A1.out.be.size
  have B2 : Hid (Dk w2 p2 b2 0 (fun _ => none)) := hD
  have hne : b1 ≠ p2 ∧ b1 ≠ b2 := by have := A1.out.d.mp.lt; omega
  clear hD gr hp hb A1 hs
  go_wp2_with fail
  refine (Slots_any A2.out.d).mono ?_
  rintro e w0 ⟨rfl, hw⟩
  rw [hw]
  clear hw w0
  go_wp2_with fail
  refine (page_nil w2).mono ?_
  rintro e w3 ⟨g3, rfl, hB, hg, gr⟩
  have A3 : Hid (Dn w w3 p1 b1 1024 (fun _ => none)) := A2.out.grow gr
  have B3 : Hid (Dk w3 p2 b2 0 (fun _ => none)) := B2.out.kept gr (by simp) (by simp)
  have hgb : g3 ≠ b1 := by have := A2.out.d.mp.lt; omega
  have Y3 : Hid (By w3 g3 256 (pg 0 (fun _ => 0))) := hB
  clear hB hg gr A2 B2
  go_wp2_with fail
  refine (Write_ok A3.out.d 1023 (by omega) g3 0 256 _ Y3.out.rd okB0 hgb).mono ?_
  rintro e w4 ⟨rfl, hD, gr⟩
  have A4 : Hid (Dn w w4 p1 b1 1024 _) := A3.out.turn gr hD
  have B4 : Hid (Dk w4 p2 b2 0 (fun _ => none)) := B3.out.kept gr (some_ne hne.1.symm) (some_ne hne.2.symm)
  clear hD gr A3 B3 hgb Y3 hne
  go_wp2_with fail
  refine (page_nil w4).mono ?_
  rintro e w5 ⟨g5, rfl, hB, hg, gr⟩
  have A5 : Hid (Dn w w5 p1 b1 1024 _) := A4.out.grow gr
  have B5 : Hid (Dk w5 p2 b2 0 (fun _ => none)) := B4.out.kept gr (by simp) (by simp)
  clear hB hg gr A4 B4
  go_wp2_with fail
  refine (Write_no A5.out.d 1024 (by omega) _).mono ?_
  rintro e w0 ⟨rfl, hw⟩
  rw [hw]
  clear hw w0
  go_wp2_with fail
  refine (Slots_any B5.out).mono ?_
  rintro e w0 ⟨rfl, hw⟩
  rw [hw]
  clear hw w0
  go_wp2_with fail
  refine (page_nil w5).mono ?_
  rintro e w6 ⟨g6, rfl, hB, hg, gr⟩
  have E6 : Hid (Below w.heap.size w w6) := A5.out.be.grown gr A5.out.be.size (by simp)
  have B6 : Hid (Dk w6 p2 b2 0 (fun _ => none)) := B5.out.kept gr (by simp) (by simp)
  clear hB hg gr A5 B5
  go_wp2_with fail
  refine (Write_no B6.out 0 (by omega) _).mono ?_
  rintro e w0 ⟨rfl, hw⟩
  rw [hw]
  clear hw w0
  go_wp2_with fail
  refine (Used_none B6.out (fun _ => rfl)).mono ?_
  rintro e w7 ⟨a7, c7, rfl, hc7, gr⟩
  have E7 : Hid (Below w.heap.size w w7) := E6.out.grown gr E6.out.size (by simp)
  unfold maxLen at hc7
  clear gr E6 B6
  go_wp2_with fail
  refine (New_ok 2 (by omega) w7).mono ?_
  rintro e w8 ⟨p, b, rfl, hD, gr, hp, hb⟩
  have A8 : Hid (Dn w w8 p b 2 (fun _ => none)) := ⟨hD, E7.out.grown gr E7.out.size (by simp), Nat.le_trans E7.out.size hp, Nat.le_trans E7.out.size hb⟩
  clear hD gr hp hb E7
  go_wp2_with fail
  refine (Read_no A8.out.d 2 (by omega)).mono ?_
  rintro e w0 ⟨rfl, hw⟩
  rw [hw]
  clear hw w0
  go_wp2_with fail
  refine (Read_no A8.out.d (-1) (by omega)).mono ?_
  rintro e w0 ⟨rfl, hw⟩
  rw [hw]
  clear hw w0
  go_wp2_with fail
  refine (Erase_no A8.out.d 2 (by omega)).mono ?_
  rintro e w0 ⟨rfl, hw⟩
  rw [hw]
  clear hw w0
  go_wp2_with fail
  refine (Erase_none A8.out.d 1 (by omega) rfl).mono ?_
  rintro e w9 ⟨rfl, gr⟩
  have A9 : Hid (Dn w w9 p b 2 (fun _ => none)) := A8.out.grow gr
  clear gr A8
  go_wp2_with fail
  refine (page_nil w9).mono ?_
  rintro e w10 ⟨g10, rfl, hB, hg, gr⟩
  have A10 : Hid (Dn w w10 p b 2 (fun _ => none)) := A9.out.grow gr
  clear hB hg gr A9
  go_wp2_with fail
  refine (Write_no A10.out.d (-1) (by omega) _).mono ?_
  rintro e w0 ⟨rfl, hw⟩
  rw [hw]
  clear hw w0
  have m1 : (Instr.makeSlice 32 (.int .i64 255) (.int .i64 255)).run Try.prog w10 = .ok (.slice (some ⟨w10.heap.size, 0, none⟩) 255 255) (w10.alloc (.cells (vals 255 (fun _ => 0)).toArray 5)) := make_run 255 (by omega) w10
  have A11 : Hid (Dn w (w10.alloc (.cells (vals 255 (fun _ => 0)).toArray 5)) p b 2 (fun _ => none)) := A10.out.grow (World.grownBy_alloc _ _ none)
  generalize w10.alloc (.cells (vals 255 (fun _ => 0)).toArray 5) = w11 at *
  clear A10
  go_wp2_with fail
  refine (Write_len A11.out.d 0 (by omega) _ 255 _ (by omega) (by unfold maxLen; omega)).mono ?_
  rintro e w0 ⟨rfl, hw⟩
  rw [hw]
  clear hw w0 m1
  have m1 : (Instr.makeSlice 32 (.int .i64 257) (.int .i64 257)).run Try.prog w11 = .ok (.slice (some ⟨w11.heap.size, 0, none⟩) 257 257) (w11.alloc (.cells (vals 257 (fun _ => 0)).toArray 5)) := make_run 257 (by omega) w11
  have A12 : Hid (Dn w (w11.alloc (.cells (vals 257 (fun _ => 0)).toArray 5)) p b 2 (fun _ => none)) := A11.out.grow (World.grownBy_alloc _ _ none)
  generalize w11.alloc (.cells (vals 257 (fun _ => 0)).toArray 5) = w12 at *
  clear A11
  go_wp2_with fail
  refine (Write_len A12.out.d 0 (by omega) _ 257 _ (by omega) (by unfold maxLen; omega)).mono ?_
  rintro e w0 ⟨rfl, hw⟩
  rw [hw]
  clear hw w0 m1
  go_wp2_with fail
  refine (Write_len A12.out.d 0 (by omega) none 0 0 (by omega) (by unfold maxLen; omega)).mono ?_
  rintro e w0 ⟨rfl, hw⟩
  rw [hw]
  clear hw w0
  go_wp2_with fail
  refine (Used_none A12.out.d (fun _ => rfl)).mono ?_
  rintro e w13 ⟨a13, c13, rfl, hc13, gr⟩
  have A13 : Hid (Dn w w13 p b 2 (fun _ => none)) := A12.out.grow gr
  unfold maxLen at hc13
  clear gr A12
  go_wp2_with fail
  refine (page_nil w13).mono ?_
  rintro e w14 ⟨g14, rfl, hB, hg, gr⟩
  have A14 : Hid (Dn w w14 p b 2 (fun _ => none)) := A13.out.grow gr
  have hgb : g14 ≠ b := by have := A13.out.d.mp.lt; omega
  have Y14 : Hid (By w14 g14 256 (pg 0 (fun _ => 0))) := hB
  clear hB hg gr A13
  go_wp2_with fail
  refine (Write_ok A14.out.d 0 (by omega) g14 0 256 _ Y14.out.rd okB0 hgb).mono ?_
  rintro e w15 ⟨rfl, hD, gr⟩
  have A15 : Hid (Dn w w15 p b 2 (pt (fun _ => none) 0 (some (pg 0 (fun _ => 0))))) := A14.out.turn gr hD
  clear hD gr A14 hgb Y14
  go_wp2_with fail
  refine (Read_ok A15.out.d 0 (pg 0 (fun _ => 0)) (by simp [pt])).mono ?_
  rintro e w16 ⟨rfl, _, gr⟩
  have A16 : Hid (Dn w w16 p b 2 (pt (fun _ => none) 0 (some (pg 0 (fun _ => 0))))) := A15.out.grow gr
  clear gr A15
  go_wp2_with fail
  refine (Used_any A16.out.d).mono ?_
  rintro e w17 ⟨v17, rfl, hI, gr⟩
  rw [us_one] at hI
  obtain ⟨a17, c17, rfl, hc17, _⟩ := hI.form
  have E17 : Hid (Below w.heap.size w w17) := (A16.out.grow gr).be
  unfold maxLen at hc17
  clear hI gr A16
  go_wp2_with fail
  go_loopw [21, 22, 23] (fun v t i wr => ∃ (k : Nat) (z : Option Addr), k ≤ 2 ∧ i = .int .i64 k ∧ v = .pointer z ∧ t = .bool true ∧ NoD wr z ∧ Below w.heap.size w wr) (fun _ _ i _ => 2 - (iv i).toNat)
  case atStart => exact ⟨0, none, by omega, rfl, rfl, rfl, Or.inl rfl, E17.out⟩
  case round =>
    clear E17
    obtain ⟨k, z, hk, rfl, rfl, rfl, hN, hB⟩ := hrel
    have HN : Hid (NoD wr z) := hN
    have HB : Hid (Below w.heap.size w wr) := hB
    clear hN hB
    by_cases hlt : k < 2
    · go_wp2_with fail
      refine (Read_nil HN.out 0).mono ?_
      rintro e w18 ⟨rfl, rfl⟩
      go_wp2_with fail
      refine (Write_nil HN.out 0 _).mono ?_
      rintro e w18 ⟨rfl, rfl⟩
      go_wp2_with fail
      refine (Erase_nil HN.out 0).mono ?_
      rintro e w18 ⟨rfl, rfl⟩
      go_wp2_with fail
      refine (Slots_nil HN.out).mono ?_
      rintro e w18 ⟨rfl, rfl⟩
      go_wp2_with fail
      refine (Used_nil HN.out).mono ?_
      rintro e w18 ⟨rfl, rfl⟩
      go_wp2_with fail
      go_roundw
      case rel =>
        refine ⟨k + 1, _, by omega, by go_num, rfl, rfl, Or.inr ⟨_, rfl, ?_⟩, HB.out.grown (World.grownBy_alloc _ _ none) HB.out.size (by simp)⟩
        exact (blk_new _ [.int .i64 0, .map none] 51).cell 1
      case measure => simp [iv]; omega
    · go_wp2_with fail
      refine (works_any _).mono ?_
      rintro e w18 ⟨rfl, hb⟩
      have HB2 : Hid (Below w.heap.size w w18) := HB.out.trans (hb.mono HB.out.size)
      clear hb
      go_wp2
      go_ret
      exact ⟨rfl, HB2.out⟩
end Go.Proofs.Ytimmckdghihcjaa
