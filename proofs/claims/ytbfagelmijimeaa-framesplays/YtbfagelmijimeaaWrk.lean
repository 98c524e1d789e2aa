/- The statements' own small trial 'works' answers true and leaves what was there as it was. -/
import Derived.Test.YtbfagelmijimeaaArr
namespace Go.Proofs.Ytbfagelmijimeaa
open Go.ChangeShapes Go.WideShapes Go.ChangeAt Go.RowKit
set_option linter.unusedVariables false

theorem below_of {w w' : World} {row : Option Nat} (h : w.grownBy w' row) (B : Nat) (hB : B ≤ w.heap.size) (hr : ∀ k, row = some k → B ≤ k) : Below B w w' := (Below.refl B w).grown h hB hr
theorem make_run (n : Nat) (hn : n ≤ 1048576) (w : World) : (Instr.makeSlice 33 (.int .i64 n) (.int .i64 n)).run Try.prog w = .ok (.slice (some ⟨w.heap.size, 0, none⟩) n n) (w.alloc (.cells (vals n (fun _ => 0)).toArray 5)) := by
  obtain ⟨i0, hi, hz0, hz1, hz2⟩ := info_parts Try.infoU
  have h := run_makeSlice (P := Try.prog) w 33 5 i0 (.int .u8 0) Try.underlying33 hi hz0 .i64 .i64 n n (by omega) (by omega) (by rw [hz1]; simp; omega) (by rw [hz2]; omega) (by omega)
  rw [h]
  have e : madeCells (Value.int .u8 0).cells ((n : Int).toNat * i0.size) = (vals n (fun _ => 0)).toArray := by
    apply Array.toList_inj.1
    rw [hz1, Int.toNat_natCast]
    show (madeCells #[.int .u8 0] (n * 1)).toList = _
    rw [toList_madeCells_one, Nat.mul_one, vals_zero]
  rw [e, Int.toNat_natCast]
theorem wk1 : num (lay (fun _ => 0) 254 4 (byt 287454020)) 254 4 = 287454020 := by decide
theorem wk2 : lay (fun _ => 0) 254 4 (byt 287454020) 257 = 17 := by decide
theorem wk3 : lay (lay (fun _ => 0) 254 4 (byt 287454020)) (0 * 256) 256 (fun i => lay (fun _ => 0) 254 4 (byt 287454020) (1 * 256 + i)) 0 = 34 := by decide
set_option maxRecDepth 100000 in
set_option maxHeartbeats 1000000 in
theorem works_any (w : World) : Calls Try.prog 14 #[] w fun e w' => e = .returned (.bool true) ∧ Below w.heap.size w w' := by
  go_enter Try.func14, Try.ntmps14
  go_wp2_with fail
  refine (New_ok 2 (by omega) (by omega) w).mono ?_
  rintro e w1 ⟨p, g, rfl, hM, gr, hp, hg⟩
  have b1 := below_of gr w.heap.size (Nat.le_refl _) (by simp)
  have HM1 : Hid (Mem w1 p g 2 (fun _ => 0)) := hM
  clear hM gr
  go_wp2_with fail
  refine (Store_ok HM1.out (by omega) 254 4 (by omega) (by omega) (by omega) 287454020 (by omega) (by omega)).mono ?_
  rintro e w2 ⟨rfl, hM, gr⟩
  have b2 := b1.trans (below_of gr w.heap.size b1.size (by intro k hk; injection hk; omega))
  have HM2 : Hid (Mem w2 p g 2 _) := hM
  clear hM gr
  go_wp2_with fail
  refine (Load_ok HM2.out (by omega) 254 4 (by omega) (by omega) (by omega)).mono ?_
  rintro e w3 ⟨rfl, rfl⟩
  rw [wk1]
  go_wp2_with fail
  refine (Byte_ok HM2.out (by omega) 257 (by omega)).mono ?_
  rintro e w4 ⟨rfl, rfl⟩
  rw [wk2]
  go_wp2_with fail
  refine (Copy_ok HM2.out (by omega) 0 1 (by omega) (by omega)).mono ?_
  rintro e w5 ⟨rfl, hM, gr⟩
  have b3 := b2.trans (below_of gr w.heap.size b2.size (by intro k hk; injection hk; omega))
  have HM3 : Hid (Mem w5 p g 2 _) := hM
  clear hM gr
  go_wp2_with fail
  refine (Byte_ok HM3.out (by omega) 0 (by omega)).mono ?_
  rintro e w6 ⟨rfl, rfl⟩
  rw [wk3]
  go_wp2_with fail
  refine (Load_no HM3.out (by omega) (by omega) 509 4 (by omega) (by omega) (by omega) (by omega) (by decide)).mono ?_
  rintro e w7 ⟨rfl, rfl⟩
  rw [show runE 2 509 4 = 10 by decide]
  go_wp2
  go_ret
  exact ⟨rfl, b3⟩
end Go.Proofs.Ytbfagelmijimeaa
