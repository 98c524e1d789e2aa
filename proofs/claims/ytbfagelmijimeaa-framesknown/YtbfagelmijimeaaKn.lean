/- The closed statement FramesKnown walked: the chapter's examples and both ends, memories that are none. -/
import Derived.Test.YtbfagelmijimeaaWrk
namespace Go.Proofs.Ytbfagelmijimeaa
open Go.ChangeShapes Go.WideShapes Go.ChangeAt Go.RowKit
set_option linter.unusedVariables false

set_option maxRecDepth 100000 in
set_option maxHeartbeats 4000000 in
theorem known_walk (w : World) : Calls Try.prog 6 #[] w fun e w' => e = .returned (.bool true) ∧ Below w.heap.size w w' := by
  have m5 : ∀ w, (Instr.makeSlice 33 (.int .i64 255) (.int .i64 255)).run Try.prog w = .ok (.slice (some ⟨w.heap.size, 0, none⟩) 255 255) (w.alloc (.cells (vals 255 (fun _ => 0)).toArray 5)) := make_run 255 (by omega)
  have m6 : ∀ w, (Instr.makeSlice 33 (.int .i64 256) (.int .i64 256)).run Try.prog w = .ok (.slice (some ⟨w.heap.size, 0, none⟩) 256 256) (w.alloc (.cells (vals 256 (fun _ => 0)).toArray 5)) := make_run 256 (by omega)
  have m7 : ∀ w, (Instr.makeSlice 33 (.int .i64 257) (.int .i64 257)).run Try.prog w = .ok (.slice (some ⟨w.heap.size, 0, none⟩) 257 257) (w.alloc (.cells (vals 257 (fun _ => 0)).toArray 5)) := make_run 257 (by omega)
  generalize (vals 255 (fun _ => 0)).toArray = C5 at m5
  generalize (vals 256 (fun _ => 0)).toArray = C6 at m6
  generalize (vals 257 (fun _ => 0)).toArray = C7 at m7
  go_enter Try.func6, Try.ntmps6
  go_wp2_with fail
  refine (New_no 0 (by omega) w).mono ?_
  rintro e w1 ⟨rfl, rfl⟩
  go_wp2_with fail
  refine (New_no 4097 (by omega) w1).mono ?_
  rintro e w ⟨rfl, rfl⟩
  go_wp2_with fail
  refine (New_ok 4096 (by omega) (by omega) w).mono ?_
  rintro e w1 ⟨p, g, rfl, hM, gr, hp, hg⟩
  have b1 := below_of gr w.heap.size (Nat.le_refl _) (by simp)
  have HM1 : Hid (Mem w1 p g 4096 (fun _ => 0)) := hM
  clear hM gr
  go_wp2_with fail
  refine (Frames_any HM1.out (by omega)).mono ?_
  rintro e w2 ⟨rfl, rfl⟩
  go_wp2_with fail
  refine (Byte_ok HM1.out (by omega) 1048575 (by omega)).mono ?_
  rintro e w1 ⟨rfl, rfl⟩
  go_wp2_with fail
  refine (Byte_no HM1.out (by omega) (by omega) 1048576 (by omega) (by omega)).mono ?_
  rintro e w2 ⟨rfl, rfl⟩
  clear HM1
  go_wp2_with fail
  refine (New_ok 2 (by omega) (by omega) w2).mono ?_
  rintro e w1 ⟨p, g, rfl, hM, gr, hp, hg⟩
  have b2 := b1.trans (below_of gr w.heap.size b1.size (by simp))
  have HM1 : Hid (Mem w1 p g 2 (fun _ => 0)) := hM
  clear hM gr b1
  go_wp2_with fail
  refine (Load_ok HM1.out (by omega) 509 3 (by omega) (by omega) (by omega)).mono ?_
  rintro e w2 ⟨rfl, rfl⟩
  rw [show num (fun _ => 0) 509 3 = 0 by decide]
  go_wp2_with fail
  refine (Load_no HM1.out (by omega) (by omega) 0 0 (by omega) (by omega) (by omega) (by omega) (by decide)).mono ?_
  rintro e w1 ⟨rfl, rfl⟩
  rw [show runE 2 0 0 = 2 by decide]
  go_wp2_with fail
  refine (Load_no HM1.out (by omega) (by omega) 0 9 (by omega) (by omega) (by omega) (by omega) (by decide)).mono ?_
  rintro e w2 ⟨rfl, rfl⟩
  rw [show runE 2 0 9 = 2 by decide]
  go_wp2_with fail
  refine (Load_no HM1.out (by omega) (by omega) 512 0 (by omega) (by omega) (by omega) (by omega) (by decide)).mono ?_
  rintro e w1 ⟨rfl, rfl⟩
  rw [show runE 2 512 0 = 10 by decide]
  go_wp2_with fail
  refine (Load_no HM1.out (by omega) (by omega) 18446744073709551615 8 (by omega) (by omega) (by omega) (by omega) (by decide)).mono ?_
  rintro e w2 ⟨rfl, rfl⟩
  rw [show runE 2 18446744073709551615 8 = 10 by decide]
  go_wp2_with fail
  refine (Zero_no HM1.out (by omega) (by omega) 2 (by omega)).mono ?_
  rintro e w1 ⟨rfl, rfl⟩
  go_wp2_with fail
  refine (Copy_no HM1.out (by omega) (by omega) 0 2 (by omega)).mono ?_
  rintro e w2 ⟨rfl, rfl⟩
  go_wp2_with fail
  refine (Copy_no HM1.out (by omega) (by omega) 2 0 (by omega)).mono ?_
  rintro e w1 ⟨rfl, rfl⟩
  go_wp2_with fail
  have b3 := b2.alloc b2.size (.cells C5 5)
  have HM2 : Hid (Mem (w1.alloc (.cells C5 5)) p g 2 (fun _ => 0)) := HM1.out.kept (World.grownBy_alloc _ _ none) (by simp) (by simp)
  clear b2 HM1
  refine (Put_len HM2.out (by omega) (by omega) 1 (by omega) _ 255 255 (by omega) (by unfold maxLen; omega)).mono ?_
  rintro e w2 ⟨rfl, hw2⟩
  rw [← hw2] at b3 HM2
  clear hw2
  go_wp2_with fail
  have b4 := b3.alloc b3.size (.cells C7 5)
  have HM3 : Hid (Mem (w2.alloc (.cells C7 5)) p g 2 (fun _ => 0)) := HM2.out.kept (World.grownBy_alloc _ _ none) (by simp) (by simp)
  clear b3 HM2
  refine (Put_len HM3.out (by omega) (by omega) 1 (by omega) _ 257 257 (by omega) (by unfold maxLen; omega)).mono ?_
  rintro e w3 ⟨rfl, hw2⟩
  rw [← hw2] at b4 HM3
  clear hw2
  go_wp2_with fail
  have b5 := b4.alloc b4.size (.cells C6 5)
  have HM4 : Hid (Mem (w3.alloc (.cells C6 5)) p g 2 (fun _ => 0)) := HM3.out.kept (World.grownBy_alloc _ _ none) (by simp) (by simp)
  clear b4 HM3
  refine (Put_no HM4.out (by omega) (by omega) (-1) (by omega) _).mono ?_
  rintro e w4 ⟨rfl, hw2⟩
  rw [← hw2] at b5 HM4
  clear hw2 HM4
  go_wp2_with fail
  go_loopw [25, 26, 27] (fun q v i wr => ∃ (k : Nat) (z : Option Addr), k ≤ 2 ∧ i = .int .i64 k ∧ v = .bool true ∧ q = .pointer z ∧ NoM wr z ∧ Below w.heap.size w wr) (fun _ _ i _ => 2 - (intOf i).toNat)
  case atStart => exact ⟨0, none, by omega, rfl, rfl, rfl, Or.inl rfl, b5⟩
  case round =>
    clear b5
    obtain ⟨k, z, hk, rfl, rfl, rfl, hN, hb⟩ := hrel
    have HN : Hid (NoM wr z) := hN
    clear hN
    by_cases hlt : k < 2
    · go_wp2_with fail
      refine (Byte_nil HN.out 0).mono ?_
      rintro e w5 ⟨rfl, rfl⟩
      go_wp2_with fail
      refine (Load_nil HN.out 0 1).mono ?_
      rintro e w6 ⟨rfl, rfl⟩
      go_wp2_with fail
      refine (Page_nil HN.out 0).mono ?_
      rintro e w5 ⟨rfl, rfl⟩
      go_wp2_with fail
      refine (Frames_nil HN.out).mono ?_
      rintro e w6 ⟨rfl, rfl⟩
      go_wp2_with fail
      refine (SetByte_nil HN.out 0 1).mono ?_
      rintro e w5 ⟨rfl, rfl⟩
      go_wp2_with fail
      refine (Store_nil HN.out 0 1 1).mono ?_
      rintro e w6 ⟨rfl, rfl⟩
      go_wp2_with fail
      refine (Zero_nil HN.out 9).mono ?_
      rintro e w5 ⟨rfl, rfl⟩
      go_wp2_with fail
      refine (Copy_nil HN.out 0 0).mono ?_
      rintro e w6 ⟨rfl, rfl⟩
      go_wp2_with fail
      refine (Put_nil HN.out 0 _).mono ?_
      rintro e w5 ⟨rfl, rfl⟩
      go_wp2
      go_roundw
      case rel =>
        refine ⟨k + 1, _, by omega, by go_num, rfl, rfl, Or.inr ⟨_, rfl, ?_⟩, hb.alloc hb.size _⟩
        show (match (World.alloc _ _).heap[_]? with | some (Obj.cells c _ _) => c[0]? | _ => none) = _
        rw [heap_alloc_last]; rfl
      case measure => simp [intOf]; omega
    · obtain rfl : k = 2 := by omega
      go_wp2_with fail
      refine (works_any _).mono ?_
      rintro e w5 ⟨rfl, hb2⟩
      go_wp2
      go_ret
      exact ⟨rfl, hb.trans (hb2.mono hb.size)⟩
end Go.Proofs.Ytbfagelmijimeaa
