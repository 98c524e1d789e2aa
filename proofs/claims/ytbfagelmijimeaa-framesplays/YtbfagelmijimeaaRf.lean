/- The reference's memory: what its New, Frames, Byte, SetByte, Load and Store give back and write. -/
import Derived.Test.YtbfagelmijimeaaLw
namespace Go.Proofs.Ytbfagelmijimeaa
open Go.ChangeShapes Go.WideShapes Go.ChangeAt Go.RowKit
set_option linter.unusedVariables false

theorem Within_any (n a b : Int) (w : World) :
    Calls Try.prog 25 #[.int .i64 n, .int .i64 a, .int .i64 b] w fun e w' => e = .returned (.bool (inB n a b)) ∧ w' = w := by
  go_enter Try.func25, Try.ntmps25
  go_wp2
  all_goals (go_ret; exact ⟨ret_bool (by rw [Bool.eq_iff_iff]; simp [inB]; omega), rfl⟩)
theorem rNew_no (n : Int) (h : n < 1 ∨ 4096 < n) (w : World) :
    Calls Try.prog 9 #[.int .i64 n] w fun e w' => e = .returned (.tuple #[.pointer none, .int .i64 2]) ∧ w' = w := by
  have hb := inB_f h
  go_enter Try.func9, Try.ntmps9
  go_wp2_with (go_at_call 25; refine (Within_any _ _ _ _).mono ?_; rintro e w' ⟨rfl, rfl⟩)
  all_goals (go_ret2; exact ⟨rfl, rfl⟩)
theorem rNew_ok (n : Nat) (h1 : 1 ≤ n) (hn : n ≤ 4096) (w : World) :
    Calls Try.prog 9 #[.int .i64 n] w fun e w' => ∃ p g, e = .returned (.tuple #[.pointer (some ⟨p, 0, none⟩), .int .i64 0]) ∧ Mem w' p g n (fun _ => 0) ∧ w.grownBy w' none ∧ w.heap.size ≤ p ∧ w.heap.size ≤ g := by
  obtain ⟨i0, hi, hz0, hz1, hz2⟩ := info_parts Try.infoU
  have hb := inB_t (show (1 : Int) ≤ n by omega) (show (n : Int) ≤ 4096 by omega)
  go_enter Try.func9, Try.ntmps9
  go_wp2_with (first
    | (go_at_call 25; refine (Within_any _ _ _ _).mono ?_; rintro e w' ⟨rfl, rfl⟩)
    | (at_make; refine wpList_make_full _ rfl _ _ 33 rfl _ 5 i0 (.int .u8 0) 1 Try.underlying33 hi hz0 hz1 _ _ _ _ (n * 256) rfl rfl rfl rfl (by rw [hz2]; omega) (by unfold maxLen; omega) (Nat.le_refl _) ?_; intro w1 hown1 hgrow1))
  have hb : By w1 w'.heap.size (n * 256) (fun _ => 0) := made_By hown1
  have hg := hgrow1
  have hsz : w'.heap.size < w1.heap.size := hb.1
  clear hown1 hgrow1
  go_ret2
  refine ⟨w1.heap.size, w'.heap.size, rfl, ⟨by simp, ?_, hb.kept (World.grownBy_alloc _ _ none) (by simp), by omega, fun i _ => ⟨by decide, by decide⟩⟩, hg.trans (World.grownBy_alloc _ _ none), by omega, by omega⟩
  show (match (w1.alloc _).heap[w1.heap.size]? with | some (Obj.cells c _ _) => c[0]? | _ => none) = _
  rw [heap_alloc_last]; rfl
theorem rFrames_any {w : World} {p g n : Nat} {f : Nat → Int} (hM : Mem w p g n f) (hn : n ≤ 4096) :
    Calls Try.prog 11 #[.pointer (some ⟨p, 0, none⟩)] w fun e w' => e = .returned (.int .i64 n) ∧ w' = w := by
  have hc := hM.cell
  clear hM
  go_enter Try.func11, Try.ntmps11
  go_wp2
  go_ret
  exact ⟨ret_int (by omega), rfl⟩
theorem rFrames_nil (w : World) :
    Calls Try.prog 11 #[.pointer none] w fun e w' => e = .returned (.int .i64 0) ∧ w' = w := by
  go_enter Try.func11, Try.ntmps11
  go_wp2
  go_ret
  exact ⟨rfl, rfl⟩
theorem rthere_any {w : World} {p g n : Nat} {f : Nat → Int} (hM : Mem w p g n f) (h1 : 1 ≤ n) (hn : n ≤ 4096) :
    Calls Try.prog 36 #[.pointer (some ⟨p, 0, none⟩)] w fun e w' => e = .returned (.bool true) ∧ w' = w := by
  have hc := hM.cell
  clear hM
  go_enter Try.func36, Try.ntmps36
  go_wp2
  go_ret
  exact ⟨ret_bool (by simp; omega), rfl⟩
theorem rthere_nil (w : World) :
    Calls Try.prog 36 #[.pointer none] w fun e w' => e = .returned (.bool false) ∧ w' = w := by
  go_enter Try.func36, Try.ntmps36
  go_wp2
  go_ret
  exact ⟨rfl, rfl⟩
theorem rByte_ok {w : World} {p g n : Nat} {f : Nat → Int} (hM : Mem w p g n f) (hn : n ≤ 4096) (pa : Nat) (hl : pa < n * 256) :
    Calls Try.prog 26 #[.pointer (some ⟨p, 0, none⟩), .int .u64 pa] w fun e w' => e = .returned (.tuple #[.int .u8 (f pa), .int .i64 0]) ∧ w' = w := by
  have hc := (hM.by'.2 pa hl).1
  have hd := hM.cell
  have HM : Hid (Mem w p g n f) := hM
  clear hM
  go_enter Try.func26, Try.ntmps26
  go_wp2_with (go_at_call 36; refine (rthere_any HM.out (by omega) hn).mono ?_; rintro e w' ⟨rfl, rfl⟩)
  go_ret2
  exact ⟨rfl, rfl⟩
theorem rByte_no {w : World} {p g n : Nat} {f : Nat → Int} (hM : Mem w p g n f) (h1 : 1 ≤ n) (hn : n ≤ 4096) (pa : Int) (hl : n * 256 ≤ pa) (h2 : pa < 18446744073709551616) :
    Calls Try.prog 26 #[.pointer (some ⟨p, 0, none⟩), .int .u64 pa] w fun e w' => e = .returned (.tuple #[.int .u8 0, .int .i64 10]) ∧ w' = w := by
  have hd := hM.cell
  have HM : Hid (Mem w p g n f) := hM
  clear hM
  go_enter Try.func26, Try.ntmps26
  go_wp2_with (go_at_call 36; refine (rthere_any HM.out (by omega) hn).mono ?_; rintro e w' ⟨rfl, rfl⟩)
  go_ret2
  exact ⟨rfl, rfl⟩
theorem rByte_nil (w : World) (pa : Int) :
    Calls Try.prog 26 #[.pointer none, .int .u64 pa] w fun e w' => e = .returned (.tuple #[.int .u8 0, .int .i64 1]) ∧ w' = w := by
  go_enter Try.func26, Try.ntmps26
  go_wp2_with (go_at_call 36; refine (rthere_nil w).mono ?_; rintro e w' ⟨rfl, rfl⟩)
  go_ret2
  exact ⟨rfl, rfl⟩
theorem rSetByte_ok {w : World} {p g n : Nat} {f : Nat → Int} (hM : Mem w p g n f) (hn : n ≤ 4096) (pa : Nat) (hl : pa < n * 256) (b : Int) (h0 : 0 ≤ b) (h1 : b < 256) :
    Calls Try.prog 27 #[.pointer (some ⟨p, 0, none⟩), .int .u64 pa, .int .u8 b] w fun e w' => e = .returned (.int .i64 0) ∧ Mem w' p g n (upd f pa b) ∧ w.grownBy w' (some g) := by
  obtain ⟨hc, hf⟩ := hM.by'.2 pa hl
  have hd := hM.cell
  have HM : Hid (Mem w p g n f) := hM
  clear hM
  go_enter Try.func27, Try.ntmps27
  go_wp2_with fail
  refine (rByte_ok HM.out hn pa hl).mono ?_
  rintro e w' ⟨rfl, rfl⟩
  go_wp2
  go_ret
  exact ⟨rfl, HM.out.turn (grown_setCell' _ _ _ _) (HM.out.by'.set pa b) (HM.out.ok.upd pa b h0 h1), grown_setCell' _ _ _ _⟩
theorem rSetByte_no {w : World} {p g n : Nat} {f : Nat → Int} (hM : Mem w p g n f) (h1 : 1 ≤ n) (hn : n ≤ 4096) (pa : Int) (hl : n * 256 ≤ pa) (h2 : pa < 18446744073709551616) (b : Int) :
    Calls Try.prog 27 #[.pointer (some ⟨p, 0, none⟩), .int .u64 pa, .int .u8 b] w fun e w' => e = .returned (.int .i64 10) ∧ w' = w := by
  go_enter Try.func27, Try.ntmps27
  go_wp2_with fail
  refine (rByte_no hM h1 hn pa hl h2).mono ?_
  rintro e w' ⟨rfl, rfl⟩
  go_wp2
  go_ret
  exact ⟨rfl, rfl⟩
theorem rSetByte_nil (w : World) (pa b : Int) :
    Calls Try.prog 27 #[.pointer none, .int .u64 pa, .int .u8 b] w fun e w' => e = .returned (.int .i64 1) ∧ w' = w := by
  go_enter Try.func27, Try.ntmps27
  go_wp2_with fail
  refine (rByte_nil w pa).mono ?_
  rintro e w' ⟨rfl, rfl⟩
  go_wp2
  go_ret
  exact ⟨rfl, rfl⟩
theorem rrun_nil (w : World) (pa size : Int) :
    Calls Try.prog 37 #[.pointer none, .int .u64 pa, .int .i64 size] w fun e w' => e = .returned (.int .i64 1) ∧ w' = w := by
  go_enter Try.func37, Try.ntmps37
  go_wp2_with fail
  refine (rByte_nil w pa).mono ?_
  rintro e w' ⟨rfl, rfl⟩
  go_wp2
  go_ret
  exact ⟨rfl, rfl⟩
set_option maxRecDepth 100000 in
theorem rrun_any {w : World} {p g n : Nat} {f : Nat → Int} (hM : Mem w p g n f) (h1 : 1 ≤ n) (hn : n ≤ 4096) (pa size : Int) (h0 : 0 ≤ pa) (h2 : pa < 18446744073709551616) (hs0 : -9223372036854775808 ≤ size) (hs1 : size < 9223372036854775808) :
    Calls Try.prog 37 #[.pointer (some ⟨p, 0, none⟩), .int .u64 pa, .int .i64 size] w fun e w' => e = .returned (.int .i64 (runE n pa size)) ∧ w' = w := by
  have hd := hM.cell
  have HM : Hid (Mem w p g n f) := hM
  clear hM
  unfold runE
  by_cases a1 : pa < n * 256
  · obtain ⟨pa, rfl⟩ := Int.eq_ofNat_of_zero_le h0
    by_cases a2 : size < 1 ∨ 8 < size
    · rw [if_neg (by simpa using a1), if_pos a2]
      have hb := inB_f a2
      clear a2
      go_enter Try.func37, Try.ntmps37
      go_wp2_with fail
      refine (rByte_ok HM.out hn pa (by omega)).mono ?_
      rintro e w' ⟨rfl, rfl⟩
      go_wp2_with fail
      refine (Within_any _ _ _ _).mono ?_
      rintro e w' ⟨rfl, rfl⟩
      rw [hb]
      go_wp2
      go_ret
      exact ⟨rfl, rfl⟩
    · rw [if_neg (by simpa using a1), if_neg a2]
      obtain ⟨b1, b2⟩ : 1 ≤ size ∧ size ≤ 8 := by omega
      have hb := inB_t b1 b2
      clear a2 h0 h2 hs0 hs1
      obtain ⟨s, rfl⟩ := Int.eq_ofNat_of_zero_le (show 0 ≤ size by omega)
      have a5 : pa < n * 256 := by omega
      have a6 : 1 ≤ s ∧ s ≤ 8 := by omega
      clear a1 b1 b2
      by_cases a3 : (n : Int) * 256 < pa + s
      · rw [if_pos a3]
        have a4 : (n : Int) * 256 - pa < s := by omega
        clear a3
        go_enter Try.func37, Try.ntmps37
        go_wp2_with fail
        refine (rByte_ok HM.out hn pa (by omega)).mono ?_
        rintro e w' ⟨rfl, rfl⟩
        go_wp2_with fail
        refine (Within_any _ _ _ _).mono ?_
        rintro e w' ⟨rfl, rfl⟩
        rw [hb]
        go_wp2
        go_ret
        exact ⟨rfl, rfl⟩
      · rw [if_neg a3]
        have a4 : (s : Int) ≤ (n : Int) * 256 - pa := by omega
        clear a3
        go_enter Try.func37, Try.ntmps37
        go_wp2_with fail
        refine (rByte_ok HM.out hn pa (by omega)).mono ?_
        rintro e w' ⟨rfl, rfl⟩
        go_wp2_with fail
        refine (Within_any _ _ _ _).mono ?_
        rintro e w' ⟨rfl, rfl⟩
        rw [hb]
        go_wp2
        go_ret
        exact ⟨rfl, rfl⟩
  · rw [if_pos a1]
    go_enter Try.func37, Try.ntmps37
    go_wp2_with fail
    refine (rByte_no HM.out h1 hn pa (by omega) h2).mono ?_
    rintro e w' ⟨rfl, rfl⟩
    go_wp2
    go_ret
    exact ⟨rfl, rfl⟩
end Go.Proofs.Ytbfagelmijimeaa
