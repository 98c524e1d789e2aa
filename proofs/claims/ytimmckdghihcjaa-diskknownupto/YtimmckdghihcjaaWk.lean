/- The statements' own small trial 'works' answers true and leaves what was there as it was; no condition. -/
import Derived.Test.YtimmckdghihcjaaLw
namespace Go.Proofs.Ytimmckdghihcjaa
open Go.ChangeShapes Go.WideShapes Go.ChangeAt Go.RowKit
set_option linter.unusedVariables false

theorem arg7 (w : World) : Arg (w.alloc (.cells #[.int .u8 7] 5)) (some ⟨w.heap.size, 0, none⟩) 1 (fun _ => 7) := by
  refine Or.inr ⟨_, _, rfl, by simp, fun i hi => ?_⟩
  obtain rfl : i = 0 := by omega
  exact cell_one_new _ _ _ 0 _ rfl
theorem okB7 : okB 1 (fun _ => 7) := fun i hi => ⟨show (0 : Int) ≤ 7 by decide, show (7 : Int) < 256 by decide⟩
/-- A disk beside what was there ahead of it. -/
structure Dn (w0 w : World) (p b N : Nat) (m : Nat → Option (Nat → Int)) : Prop where
  d : Dk w p b N m
  be : Below w0.heap.size w0 w
  p0 : w0.heap.size ≤ p
  b0 : w0.heap.size ≤ b
theorem Dn.grow {w0 w w' : World} {p b N : Nat} {m : Nat → Option (Nat → Int)} (h : Dn w0 w p b N m) (g : w.grownBy w' none) : Dn w0 w' p b N m :=
  ⟨h.d.kept g (by simp) (by simp), h.be.grown g h.be.size (by simp), h.p0, h.b0⟩
theorem Dn.turn {w0 w w' : World} {p b N : Nat} {m m' : Nat → Option (Nat → Int)} (h : Dn w0 w p b N m) (g : w.grownBy w' (some b)) (hd : Dk w' p b N m') : Dn w0 w' p b N m' :=
  ⟨hd, h.be.grown g h.be.size (fun j hj => by injection hj with e; rw [← e]; exact h.b0), h.p0, h.b0⟩
theorem us_none (N : Nat) (m : Nat → Option (Nat → Int)) (h : ∀ j, m j = none) : usI N m = [] := by
  unfold usI us
  rw [List.map_eq_nil_iff, List.filter_eq_nil_iff]
  intro j _
  simp [h j]
set_option maxRecDepth 100000 in
set_option maxHeartbeats 1000000 in
theorem works_any (w : World) : Calls Try.prog 15 #[] w fun e w' => e = .returned (.bool true) ∧ Below w.heap.size w w' := by
  go_enter Try.func15, Try.ntmps15
  go_wp2_with fail
  refine (New_ok 2 (by omega) w).mono ?_
  rintro e w1 ⟨p, b, rfl, hD, gr, hp, hb⟩
  have HD1 : Hid (Dn w w1 p b 2 (fun _ => none)) := ⟨hD, (Below.refl _ _).grown gr (Nat.le_refl _) (by simp), hp, hb⟩
  clear hD gr
  go_wp2_with fail
  refine (Read_none HD1.out.d 1 (by omega) rfl).mono ?_
  rintro e w2 ⟨rfl, gr⟩
  have HD2 : Hid (Dn w w2 p b 2 (fun _ => none)) := HD1.out.grow gr
  clear gr
  go_wp2_with fail
  refine (page_any (by unfold maxLen; omega) (arg7 w2)).mono ?_
  rintro e w3 ⟨g, rfl, hB, hg, gr⟩
  have g2 := (World.grownBy_alloc w2 (.cells #[.int .u8 7] 5) none).trans gr
  have HD3 : Hid (Dn w w3 p b 2 (fun _ => none)) := HD2.out.grow g2
  have hgb : g ≠ b := by have := HD2.out.d.mp.lt; simp at hg; omega
  have HB3 : Hid (By w3 g 256 (pg 1 (fun _ => 7))) := hB
  clear gr g2 hB hg
  go_wp2_with fail
  refine (Write_ok HD3.out.d 1 (by omega) g 0 256 _ HB3.out.rd okB7.pg hgb).mono ?_
  rintro e w4 ⟨rfl, hD, gr⟩
  have HD4 : Hid (Dn w w4 p b 2 (pt (fun _ => none) 1 (some (pg 1 (fun _ => 7))))) := HD3.out.turn gr hD
  clear gr hD hgb HB3
  go_wp2_with fail
  refine (Read_ok HD4.out.d 1 (pg 1 (fun _ => 7)) (by simp [pt])).mono ?_
  rintro e w5 ⟨rfl, hB, gr⟩
  have HD5 : Hid (Dn w w5 p b 2 (pt (fun _ => none) 1 (some (pg 1 (fun _ => 7))))) := HD4.out.grow gr
  have HB5 : Hid (By w5 w4.heap.size 256 (pg 1 (fun _ => 7))) := hB
  have hlt : b < w4.heap.size := HD4.out.d.mp.lt
  clear gr hB
  go_wp2_with fail
  refine (Erase_ok HD5.out.d 1 (pg 1 (fun _ => 7)) (by simp [pt])).mono ?_
  rintro e w6 ⟨rfl, hD, gr⟩
  have HD6 : Hid (Dn w w6 p b 2 (pt (pt (fun _ => none) 1 (some (pg 1 (fun _ => 7)))) 1 none)) := HD5.out.turn gr hD
  have HB6 : Hid (By w6 w4.heap.size 256 (pg 1 (fun _ => 7))) := HB5.out.kept gr (some_ne (by omega))
  clear gr hD
  go_wp2_with fail
  refine (page_any (by unfold maxLen; omega) (arg7 w6)).mono ?_
  rintro e w7 ⟨g7, rfl, hB, hg, gr⟩
  have g2 := (World.grownBy_alloc w6 (.cells #[.int .u8 7] 5) none).trans gr
  have HD7 : Hid (Dn w w7 p b 2 _) := HD6.out.grow g2
  have HB7 : Hid (By w7 g7 256 (pg 1 (fun _ => 7))) := hB
  have HB8 : Hid (By w7 w4.heap.size 256 (pg 1 (fun _ => 7))) := HB6.out.kept g2 (by simp)
  clear gr g2 hB hg
  go_wp2_with fail
  refine (same_any (by unfold maxLen; omega) HB8.out.arg HB7.out.arg).mono ?_
  rintro e w8 ⟨rfl, gr⟩
  have HD8 : Hid (Dn w w8 p b 2 _) := HD7.out.grow gr
  clear gr HB7 HB8
  go_wp2_with fail
  refine (Used_any HD8.out.d).mono ?_
  rintro e w9 ⟨v, rfl, hI, gr⟩
  have HD9 : Hid (Dn w w9 p b 2 _) := HD8.out.grow gr
  rw [us_none 2 _ (fun j => by unfold pt; by_cases h : j = 1 <;> simp [h])] at hI
  obtain ⟨ao, c, rfl, hc, _⟩ := hI.form
  unfold maxLen at hc
  clear gr hI
  go_wp2
  go_ret
  exact ⟨rfl, HD9.out.be⟩
end Go.Proofs.Ytimmckdghihcjaa
