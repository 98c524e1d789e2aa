/- ColourKnown walked: the chapter's examples, both ends. -/
import Derived.Test.YtoondpgdodmngaaLw
namespace Go.Proofs.Ytoondpgdodmngaa
open Go.ChangeShapes Go.WideShapes Go.ChangeAt Go.RowKit
set_option linter.unusedVariables false

theorem Try.infoE : (Try.prog.info? 22).map (fun i => (i.zero, i.size, i.bytes)) = some (some (.int .i64 0), 1, 8) := by kernel_rfl
/-- The statement's colours, indexes, numbers of colours. -/
def TB : List Int := [3, 1023, 4, 3, 1024, 4, 4, 0, 4, 0, -1, 4, 0, 9223372036854775807, 16, 0, 0, 0, 0, 0, 17, 15, 255, 16, 0, 4095, 1, 0, 4096, 1]
/-- The errnos that are asked. -/
def ER : List Int := [0, 2, 2, 2, 2, 2, 2, 0, 0, 2]
theorem frK : ∀ k, k < 10 → ∃ v, ∀ w, Calls Try.prog 13 #[.int .i64 (nth TB (k * 3)), .int .i64 (nth TB (k * 3 + 1)), .int .i64 (nth TB (k * 3 + 2))] w (Two v (nth ER k) w) := by
  intro k hk
  obtain rfl | rfl | rfl | rfl | rfl | rfl | rfl | rfl | rfl | rfl : k = 0 ∨ k = 1 ∨ k = 2 ∨ k = 3 ∨ k = 4 ∨ k = 5 ∨ k = 6 ∨ k = 7 ∨ k = 8 ∨ k = 9 := by omega
  · exact ⟨_, fun w => Frame_ok 3 1023 4 (by unfold fo; decide) w⟩
  · exact ⟨_, fun w => Frame_no 3 1024 4 (by unfold fo; decide) w⟩
  · exact ⟨_, fun w => Frame_no 4 0 4 (by unfold fo; decide) w⟩
  · exact ⟨_, fun w => Frame_no 0 (-1) 4 (by unfold fo; decide) w⟩
  · exact ⟨_, fun w => Frame_no 0 9223372036854775807 16 (by unfold fo; decide) w⟩
  · exact ⟨_, fun w => Frame_no 0 0 0 (by unfold fo; decide) w⟩
  · exact ⟨_, fun w => Frame_no 0 0 17 (by unfold fo; decide) w⟩
  · exact ⟨_, fun w => Frame_ok 15 255 16 (by unfold fo; decide) w⟩
  · exact ⟨_, fun w => Frame_ok 0 4095 1 (by unfold fo; decide) w⟩
  · exact ⟨_, fun w => Frame_no 0 4096 1 (by unfold fo; decide) w⟩
theorem tb_cell (w : World) (C : Array Value) (hC : C = (enI TB).toArray) (i : Nat) (hi : i < 30) : (w.alloc (.cells C 37)).cell? ⟨w.heap.size, i, none⟩ = some (.int .i64 (nth TB i)) := by
  subst hC
  rw [cell_of_row _ _ i _ 37 (0, 0) (heap_alloc_last w _), List.getElem?_toArray]
  exact enI_get hi
theorem er_take (k : Nat) (hk : k < 10) : ER.take (k + 1) = ER.take k ++ [nth ER k] := by
  rw [List.take_add_one]
  congr 1
  unfold nth
  rw [List.getD_eq_getElem?_getD, List.getElem?_eq_getElem (show k < ER.length from hk)]
  rfl
set_option maxRecDepth 20000 in
set_option maxHeartbeats 2000000 in
theorem known_any (w : World) : Calls Try.prog 8 #[] w fun e w' => e = .returned (.bool true) ∧ Below w.heap.size w w' := by
  obtain ⟨i0, hi, hz0, hz1, hz2⟩ := info_parts Try.infoE
  have FK : Hid (∀ k, k < 10 → ∃ v, ∀ w, Calls Try.prog 13 #[.int .i64 (nth TB (k * 3)), .int .i64 (nth TB (k * 3 + 1)), .int .i64 (nth TB (k * 3 + 2))] w (Two v (nth ER k) w)) := frK
  have N0 : Hid (∀ w, Calls Try.prog 9 #[.int .i64 10, .int .i64 17] w (Two 0 2 w)) := fun w => Of_no 10 17 (by decide) w
  have N1 : Hid (∀ w, Calls Try.prog 9 #[.int .i64 (-1), .int .i64 4] w (Two 0 2 w)) := fun w => Of_no (-1) 4 (by decide) w
  have N2 : Hid (∀ w, Calls Try.prog 9 #[.int .i64 4096, .int .i64 4] w (Two 0 2 w)) := fun w => Of_no 4096 4 (by decide) w
  have N3 : Hid (∀ w, Calls Try.prog 11 #[.int .i64 4096, .int .i64 4] w (Two 0 2 w)) := fun w => Index_no 4096 4 (by decide) w
  have N4 : Hid (∀ w, Calls Try.prog 19 #[.int .i64 3, .int .i64 4, .int .i64 3] w (Two 0 0 w)) := fun w => Count_ok 3 4 3 (by decide) (by decide) (by decide) (by decide) (by decide) (by decide) w
  have N5 : Hid (∀ w, Calls Try.prog 19 #[.int .i64 10, .int .i64 4, .int .i64 4] w (Two 0 2 w)) := fun w => Count_no 10 4 4 (by decide) w
  have N6 : Hid (∀ w, Calls Try.prog 19 #[.int .i64 0, .int .i64 4, .int .i64 0] w (Two 0 2 w)) := fun w => Count_no 0 4 0 (by decide) w
  have M0 : Hid (∀ w, Calls Try.prog 21 #[.int .u64 1048576, .int .i64 0] w (Two 0 10 w)) := fun w => Set_addr 1048576 0 (by decide) w
  have M1 : Hid (∀ w, Calls Try.prog 21 #[.int .u64 0, .int .i64 0] w (Two 0 2 w)) := fun w => Set_arg 0 0 (by decide) (by decide) (by decide) w
  have M2 : Hid (∀ w, Calls Try.prog 23 #[.int .i64 64, .int .i64 4] w (Two 0 2 w)) := fun w => Owner_no 64 4 (by decide) w
  have M3 : Hid (∀ w, Calls Try.prog 23 #[.int .i64 (-1), .int .i64 4] w (Two 0 2 w)) := fun w => Owner_no (-1) 4 (by decide) w
  have L0 : Hid (∀ w : World, Calls Try.prog 16 #[.int .i64 10, .int .i64 4, .slice none 0 0] w (Frd w 10 4 0 (fun _ => 0))) := fun w => Frames_ok (F := 10) (by unfold maxLen; omega) (Or.inl rfl) (by omega) ⟨by decide, okP_zero _ _⟩
  go_enter Try.func8, Try.ntmps8
  go_wp2_with fail
  have HT : Hid (∀ i, i < 30 → (w.alloc (.cells #[.int .i64 3, .int .i64 1023, .int .i64 4, .int .i64 3, .int .i64 1024, .int .i64 4, .int .i64 4, .int .i64 0, .int .i64 4, .int .i64 0, .int .i64 (-1), .int .i64 4, .int .i64 0, .int .i64 9223372036854775807, .int .i64 16, .int .i64 0, .int .i64 0, .int .i64 0, .int .i64 0, .int .i64 0, .int .i64 17, .int .i64 15, .int .i64 255, .int .i64 16, .int .i64 0, .int .i64 4095, .int .i64 1, .int .i64 0, .int .i64 4096, .int .i64 1] 37)).cell? ⟨w.heap.size, i, none⟩ = some (.int .i64 (nth TB i))) := fun i hi => tb_cell w _ rfl i hi
  have HB : Hid (Below w.heap.size w (w.alloc (.cells #[.int .i64 3, .int .i64 1023, .int .i64 4, .int .i64 3, .int .i64 1024, .int .i64 4, .int .i64 4, .int .i64 0, .int .i64 4, .int .i64 0, .int .i64 (-1), .int .i64 4, .int .i64 0, .int .i64 9223372036854775807, .int .i64 16, .int .i64 0, .int .i64 0, .int .i64 0, .int .i64 0, .int .i64 0, .int .i64 17, .int .i64 15, .int .i64 255, .int .i64 16, .int .i64 0, .int .i64 4095, .int .i64 1, .int .i64 0, .int .i64 4096, .int .i64 1] 37))) := below_new _ _
  have HX : Hid (w.heap.size < (w.alloc (.cells #[.int .i64 3, .int .i64 1023, .int .i64 4, .int .i64 3, .int .i64 1024, .int .i64 4, .int .i64 4, .int .i64 0, .int .i64 4, .int .i64 0, .int .i64 (-1), .int .i64 4, .int .i64 0, .int .i64 9223372036854775807, .int .i64 16, .int .i64 0, .int .i64 0, .int .i64 0, .int .i64 0, .int .i64 0, .int .i64 17, .int .i64 15, .int .i64 255, .int .i64 16, .int .i64 0, .int .i64 4095, .int .i64 1, .int .i64 0, .int .i64 4096, .int .i64 1] 37)).heap.size) := by unfold Hid; simp
  generalize (w.alloc (.cells #[.int .i64 3, .int .i64 1023, .int .i64 4, .int .i64 3, .int .i64 1024, .int .i64 4, .int .i64 4, .int .i64 0, .int .i64 4, .int .i64 0, .int .i64 (-1), .int .i64 4, .int .i64 0, .int .i64 9223372036854775807, .int .i64 16, .int .i64 0, .int .i64 0, .int .i64 0, .int .i64 0, .int .i64 0, .int .i64 17, .int .i64 15, .int .i64 255, .int .i64 16, .int .i64 0, .int .i64 4095, .int .i64 1, .int .i64 0, .int .i64 4096, .int .i64 1] 37)) = W at *
  generalize hT : w.heap.size = T at HT HX ⊢
  clear hT
  go_loopw [1, 51] (fun v i wr => ∃ (k : Nat) (vv : Value), vv = v ∧ k ≤ 10 ∧ i = .int .i64 k ∧ wr.ownsRow W.heap.size 22 1 v k (enI (ER.take k)) ∧ Below W.heap.size W wr) (fun _ i _ => 10 - (intOf i).toNat)
  case atStart => exact ⟨0, _, rfl, by omega, rfl, World.ownsRow_nil _ _ _ _, Below.refl _ _⟩
  case round =>
    obtain ⟨k, v, hvv, hk, rfl, hI, hb⟩ := hrel
    subst hvv
    have HL : Hid (Below W.heap.size W wr) := hb
    have HI : Hid (wr.ownsRow W.heap.size 22 1 v k (enI (ER.take k))) := hI
    clear hb hI
    by_cases hlt : k < 10
    · have c0 := (HL.out.cell (p := ⟨T, k * 3, none⟩) HX.out).trans (HT.out (k * 3) (by omega))
      have c1 := (HL.out.cell (p := ⟨T, k * 3 + 1, none⟩) HX.out).trans (HT.out (k * 3 + 1) (by omega))
      have c2 := (HL.out.cell (p := ⟨T, k * 3 + 2, none⟩) HX.out).trans (HT.out (k * 3 + 2) (by omega))
      obtain ⟨fv, hf⟩ := FK.out k hlt
      have HF : Hid (∀ w, Calls Try.prog 13 #[.int .i64 (nth TB (k * 3)), .int .i64 (nth TB (k * 3 + 1)), .int .i64 (nth TB (k * 3 + 2))] w (Two fv (nth ER k) w)) := hf
      have HE : Hid (enI (ER.take (k + 1)) = enI (ER.take k) ++ [.int .i64 (nth ER k)]) := by unfold Hid; rw [er_take k hlt, enI_snoc]
      generalize nth TB (k * 3) = x0 at *
      generalize nth TB (k * 3 + 1) = x1 at *
      generalize nth TB (k * 3 + 2) = x2 at *
      generalize nth ER k = er at *
      have hsz := HL.out.size
      clear hf
      have HL1 : Hid (Below W.heap.size W (wr.alloc (.cells #[.int .i64 x0, .int .i64 x1, .int .i64 x2] 37))) := HL.out.alloc hsz _
      have HI1 : Hid ((wr.alloc (.cells #[.int .i64 x0, .int .i64 x1, .int .i64 x2] 37)).ownsRow W.heap.size 22 1 v k (enI (ER.take k))) := HI.out.alloc _
      go_wp2_with fail
      refine (HF.out _).mono ?_
      rintro e wx ⟨rfl, hx⟩
      obtain rfl := hx.symm
      generalize wr.alloc (.cells #[.int .i64 x0, .int .i64 x1, .int .i64 x2] 37) = wq at *
      have hsq := HL1.out.size
      go_wp2_with (at_builtin; refine wpList_append_own _ rfl (.tmp 65) (.tmp 67) 36 rfl W.heap.size 22 i0 _ 1 8 Try.underlying36 hi hz0 hz1 hz2 rfl (by decide) _ k _ rfl (HI1.out.alloc _) ⟨wq.heap.size, 0, none⟩ 1 1 [.int .i64 er] rfl rfl (cell_one_new _ _ _) (by intro u hu; simp at hu; subst hu; rfl) (by unfold maxLen; omega) (by omega) (by simp; omega) ?_; intro v2 w2 o2 gr2 nil2)
      go_roundw
      case rel =>
        refine ⟨k + 1, _, rfl, by omega, by go_num, ?_, (HL1.out.alloc hsq _).grown gr2 (by simp; omega) (fun t ht => (HI1.out.lt t ht).1)⟩
        rw [HE.out]
        exact o2
      case measure => simp [intOf]; omega
    · obtain rfl : k = 10 := by omega
      obtain ⟨g, cp, hv, hg1, hg2⟩ := HI.out.form (by omega)
      subst hv
      have hcc : ∀ i, i < 10 → wr.cell? ⟨g, i, none⟩ = some (.int .i64 (nth ER i)) := fun i hi => by
        have := HI.out.cells rfl i (.int .i64 (nth ER i)) (enI_get (L := ER) hi)
        rw [Go.WideShapes.add_plain, Nat.zero_add] at this
        exact this
      have d0 := hcc 0 (by omega)
      have d1 := hcc 1 (by omega)
      have d2 := hcc 2 (by omega)
      have d3 := hcc 3 (by omega)
      have d4 := hcc 4 (by omega)
      have d5 := hcc 5 (by omega)
      have d6 := hcc 6 (by omega)
      have d7 := hcc 7 (by omega)
      have d8 := hcc 8 (by omega)
      have d9 := hcc 9 (by omega)
      simp only [nth, ER, List.getD_cons_zero, List.getD_cons_succ] at d0 d1 d2 d3 d4 d5 d6 d7 d8 d9
      have B0 : Hid (Below w.heap.size w wr) := HB.out.trans (HL.out.mono HB.out.size)
      clear hcc HI HL FK HT HX HB
      go_wp2_with fail
      refine (N0.out _).mono ?_
      rintro e wx ⟨rfl, hx⟩
      obtain rfl := hx.symm
      go_wp2_with fail
      refine (N1.out _).mono ?_
      rintro e wx ⟨rfl, hx⟩
      obtain rfl := hx.symm
      go_wp2_with fail
      refine (N2.out _).mono ?_
      rintro e wx ⟨rfl, hx⟩
      obtain rfl := hx.symm
      go_wp2_with fail
      refine (N3.out _).mono ?_
      rintro e wx ⟨rfl, hx⟩
      obtain rfl := hx.symm
      go_wp2_with fail
      refine (N4.out _).mono ?_
      rintro e wx ⟨rfl, hx⟩
      obtain rfl := hx.symm
      go_wp2_with fail
      refine (N5.out _).mono ?_
      rintro e wx ⟨rfl, hx⟩
      obtain rfl := hx.symm
      go_wp2_with fail
      refine (N6.out _).mono ?_
      rintro e wx ⟨rfl, hx⟩
      obtain rfl := hx.symm
      clear N0 N1 N2 N3 N4 N5 N6
      clear d0 d1 d2 d3 d4 d5 d6 d7 d8 d9
      go_wp2_with fail
      refine (L0.out _).mono ?_
      rintro e w4 ⟨v4, rfl, o4, k4⟩
      obtain ⟨a4, c4, e4, _⟩ := o4.form
      have Bw4 : Hid (Below w.heap.size w w4) := B0.out.trans (k4.mono B0.out.size)
      rw [show fr 10 4 0 (fun _ => 0) = [] by decide +kernel] at e4
      subst e4
      clear o4 k4 L0 B0
      have Qw5 : Hid (Calls Try.prog 16 #[.int .i64 10, .int .i64 4, .slice (some ⟨w4.heap.size, 0, none⟩) 2 2] (w4.alloc (.cells #[.int .i64 3, .int .i64 1] 3)) fun e w' => e = .returned (.tuple #[.slice none 0 0, .int .i64 2]) ∧ Below (w4.alloc (.cells #[.int .i64 3, .int .i64 1] 3)).heap.size (w4.alloc (.cells #[.int .i64 3, .int .i64 1] 3)) w') :=
        Frames_no (F := 10) (by unfold maxLen; omega) (arg_lit w4 [3, 1] _ rfl) (by decide) (fun q => absurd (q.2.2 0 (by omega)) (by decide))
      have Aw5 : Hid (Below w.heap.size w (w4.alloc (.cells #[.int .i64 3, .int .i64 1] 3))) := Bw4.out.alloc Bw4.out.size _
      go_wp2_with fail
      refine Qw5.out.mono ?_
      rintro e w5 ⟨rfl, hx⟩
      have Bw5 : Hid (Below w.heap.size w w5) := Aw5.out.trans (hx.mono Aw5.out.size)
      clear hx Qw5 Aw5 Bw4
      have Qw6 : Hid (Calls Try.prog 16 #[.int .i64 10, .int .i64 4, .slice (some ⟨w5.heap.size, 0, none⟩) 2 2] (w5.alloc (.cells #[.int .i64 1, .int .i64 1] 3)) fun e w' => e = .returned (.tuple #[.slice none 0 0, .int .i64 2]) ∧ Below (w5.alloc (.cells #[.int .i64 1, .int .i64 1] 3)).heap.size (w5.alloc (.cells #[.int .i64 1, .int .i64 1] 3)) w') :=
        Frames_no (F := 10) (by unfold maxLen; omega) (arg_lit w5 [1, 1] _ rfl) (by decide) (fun q => absurd (q.2.2 0 (by omega)) (by decide))
      have Aw6 : Hid (Below w.heap.size w (w5.alloc (.cells #[.int .i64 1, .int .i64 1] 3))) := Bw5.out.alloc Bw5.out.size _
      go_wp2_with fail
      refine Qw6.out.mono ?_
      rintro e w6 ⟨rfl, hx⟩
      have Bw6 : Hid (Below w.heap.size w w6) := Aw6.out.trans (hx.mono Aw6.out.size)
      clear hx Qw6 Aw6 Bw5
      have Qw7 : Hid (Calls Try.prog 16 #[.int .i64 10, .int .i64 4, .slice (some ⟨w6.heap.size, 0, none⟩) 1 1] (w6.alloc (.cells #[.int .i64 4] 3)) fun e w' => e = .returned (.tuple #[.slice none 0 0, .int .i64 2]) ∧ Below (w6.alloc (.cells #[.int .i64 4] 3)).heap.size (w6.alloc (.cells #[.int .i64 4] 3)) w') :=
        Frames_no (F := 10) (by unfold maxLen; omega) (arg_lit w6 [4] _ rfl) (by decide) (fun q => absurd (q.2.1 0 (by omega)) (by decide))
      have Aw7 : Hid (Below w.heap.size w (w6.alloc (.cells #[.int .i64 4] 3))) := Bw6.out.alloc Bw6.out.size _
      go_wp2_with fail
      refine Qw7.out.mono ?_
      rintro e w7 ⟨rfl, hx⟩
      have Bw7 : Hid (Below w.heap.size w w7) := Aw7.out.trans (hx.mono Aw7.out.size)
      clear hx Qw7 Aw7 Bw6
      go_wp2_with fail
      refine (M0.out _).mono ?_
      rintro e wx ⟨rfl, hx⟩
      obtain rfl := hx.symm
      go_wp2_with fail
      refine (M1.out _).mono ?_
      rintro e wx ⟨rfl, hx⟩
      obtain rfl := hx.symm
      go_wp2_with fail
      refine (M2.out _).mono ?_
      rintro e wx ⟨rfl, hx⟩
      obtain rfl := hx.symm
      go_wp2_with fail
      refine (M3.out _).mono ?_
      rintro e wx ⟨rfl, hx⟩
      obtain rfl := hx.symm
      clear M0 M1 M2 M3
      go_wp2_with fail
      refine (works_any _).mono ?_
      rintro e w8 ⟨rfl, hx⟩
      have B8 : Hid (Below w.heap.size w w8) := Bw7.out.trans (hx.mono Bw7.out.size)
      clear hx Bw7
      go_wp2
      go_ret
      exact ⟨rfl, B8.out⟩
end Go.Proofs.Ytoondpgdodmngaa
