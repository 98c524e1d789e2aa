/- What the reference's integer functions give back, each for every integer that it may be handed; no condition but the range that each theorem names. -/
import Derived.Test.YthmcempfiimkkaaInts
namespace Go.Proofs.Ythmcempfiimkkaa
open Go.ChangeShapes Go.WideShapes Go.ChangeAt Go.RowKit
set_option linter.unusedVariables false

theorem Within_any (n a b : Int) (w : World) :
    Calls Try.prog 34 #[.int .i64 n, .int .i64 a, .int .i64 b] w fun e w' => e = .returned (.bool (inB n a b)) ∧ w' = w := by
  go_enter Try.func34, Try.ntmps34
  go_wp2
  all_goals (go_ret; exact ⟨ret_bool (by rw [Bool.eq_iff_iff]; simp [inB]; omega), rfl⟩)
def ov (p : Int) : Nat → Int
  | 0 => p
  | k + 1 => ov p k / 32
theorem ov_bd (p : Int) (h0 : 0 ≤ p) (h1 : p ≤ 1048576) : ∀ k, 0 ≤ ov p k ∧ ov p k ≤ 1048576
  | 0 => ⟨h0, h1⟩
  | k + 1 => by have := ov_bd p h0 h1 k; simp only [ov]; omega
theorem ov_1 (p : Int) : ov p 1 = p / 32 := rfl
theorem ov_2 (p : Int) : ov p 2 = p / 1024 := by simp only [ov]; omega
theorem ov_3 (p : Int) : ov p 3 = p / 32768 := by simp only [ov]; omega
theorem ov_4 (p : Int) : ov p 4 = p / 1048576 := by simp only [ov]; omega
theorem over_any (p : Int) (k : Nat) (h0 : 0 ≤ p) (h1 : p ≤ 1048576) (hk : k ≤ 4) (w : World) :
    Calls Try.prog 36 #[.int .i64 p, .int .i64 k] w fun e w' => e = .returned (.int .i64 (ov p k)) ∧ w' = w := by
  go_enter Try.func36, Try.ntmps36
  go_wp2
  go_loop [0, 5] (fun q i => ∃ j : Nat, j ≤ k ∧ i = .int .i64 j ∧ q = .int .i64 (ov p j)) (fun _ i => k - (intOf i).toNat)
  case atStart => exact ⟨0, Nat.zero_le _, rfl, rfl⟩
  case round =>
    obtain ⟨j, hj, rfl, rfl⟩ := hrel
    have hb := ov_bd p h0 h1 j
    obtain ⟨hb0, hb1⟩ := hb
    by_cases hlt : j < k
    · go_wp2
      go_round
      case rel => exact ⟨j + 1, by omega, by go_num, by simp only [ov]⟩
      case measure => simp [intOf]; omega
    · obtain rfl : j = k := by omega
      go_wp2
      go_ret
      exact ⟨rfl, rfl⟩
theorem rSplit_ok (a : Int) (h0 : 0 ≤ a) (h1 : a < 268435456) (w : World) :
    Calls Try.prog 10 #[.int .u64 a] w fun e w' => e = .returned (.tuple #[.int .i64 (a / 256), .int .i64 (a % 256), .int .i64 0]) ∧ w' = w := by
  go_enter Try.func10, Try.ntmps10
  go_wp2
  go_ret3
  exact ⟨rfl, rfl⟩
theorem rSplit_no (a : Int) (h0 : 268435456 ≤ a) (h1 : a < 18446744073709551616) (w : World) :
    Calls Try.prog 10 #[.int .u64 a] w fun e w' => e = .returned (.tuple #[.int .i64 0, .int .i64 0, .int .i64 10]) ∧ w' = w := by
  go_enter Try.func10, Try.ntmps10
  go_wp2
  go_ret3
  exact ⟨rfl, rfl⟩
theorem rFrame_ok (a : Int) (h0 : 0 ≤ a) (h1 : a < 1048576) (w : World) :
    Calls Try.prog 25 #[.int .u64 a] w fun e w' => e = .returned (.tuple #[.int .i64 (a / 256), .int .i64 (a % 256), .int .i64 0]) ∧ w' = w := by
  go_enter Try.func25, Try.ntmps25
  go_wp2
  go_ret3
  exact ⟨rfl, rfl⟩
theorem rFrame_no (a : Int) (h0 : 1048576 ≤ a) (h1 : a < 18446744073709551616) (w : World) :
    Calls Try.prog 25 #[.int .u64 a] w fun e w' => e = .returned (.tuple #[.int .i64 0, .int .i64 0, .int .i64 10]) ∧ w' = w := by
  go_enter Try.func25, Try.ntmps25
  go_wp2
  go_ret3
  exact ⟨rfl, rfl⟩
theorem rLine_ok (a : Int) (h0 : 0 ≤ a) (h1 : a < 1048576) (w : World) :
    Calls Try.prog 27 #[.int .u64 a] w fun e w' => e = .returned (.tuple #[.int .i64 (a / 16), .int .i64 0]) ∧ w' = w := by
  go_enter Try.func27, Try.ntmps27
  go_wp2
  go_ret2
  exact ⟨rfl, rfl⟩
theorem rLine_no (a : Int) (h0 : 1048576 ≤ a) (h1 : a < 18446744073709551616) (w : World) :
    Calls Try.prog 27 #[.int .u64 a] w fun e w' => e = .returned (.tuple #[.int .i64 0, .int .i64 10]) ∧ w' = w := by
  go_enter Try.func27, Try.ntmps27
  go_wp2
  go_ret2
  exact ⟨rfl, rfl⟩
theorem rJoin_ok (a b : Int) (h0 : 0 ≤ a) (h1 : a < 1048576) (h2 : 0 ≤ b) (h3 : b < 256) (w : World) :
    Calls Try.prog 12 #[.int .i64 a, .int .i64 b] w fun e w' => e = .returned (.tuple #[.int .u64 (a * 256 + b), .int .i64 0]) ∧ w' = w := by
  have ha := inB_t h0 (show a ≤ 1048575 by omega)
  have hb := inB_t h2 (show b ≤ 255 by omega)
  go_enter Try.func12, Try.ntmps12
  go_wp2_with (go_at_call 34; refine (Within_any _ _ _ _).mono ?_; rintro e w' ⟨rfl, rfl⟩)
  go_ret2
  exact ⟨rfl, rfl⟩
theorem rJoin_no (a b : Int) (h : ¬ (0 ≤ a ∧ a < 1048576 ∧ 0 ≤ b ∧ b < 256)) (w : World) :
    Calls Try.prog 12 #[.int .i64 a, .int .i64 b] w fun e w' => e = .returned (.tuple #[.int .u64 0, .int .i64 2]) ∧ w' = w := by
  by_cases hp : 0 ≤ a ∧ a < 1048576
  · have ha := inB_t hp.1 (show a ≤ 1048575 by omega)
    have hb := inB_f (show b < 0 ∨ 255 < b by omega)
    clear h hp
    go_enter Try.func12, Try.ntmps12
    go_wp2_with (go_at_call 34; refine (Within_any _ _ _ _).mono ?_; rintro e w' ⟨rfl, rfl⟩)
    go_ret2
    exact ⟨rfl, rfl⟩
  · have ha := inB_f (show a < 0 ∨ 1048575 < a by omega)
    clear h hp
    go_enter Try.func12, Try.ntmps12
    go_wp2_with (go_at_call 34; refine (Within_any _ _ _ _).mono ?_; rintro e w' ⟨rfl, rfl⟩)
    go_ret2
    exact ⟨rfl, rfl⟩
theorem rPlace_ok (a b : Int) (h0 : 0 ≤ a) (h1 : a < 4096) (h2 : 0 ≤ b) (h3 : b < 256) (w : World) :
    Calls Try.prog 23 #[.int .i64 a, .int .i64 b] w fun e w' => e = .returned (.tuple #[.int .u64 (a * 256 + b), .int .i64 0]) ∧ w' = w := by
  have ha := inB_t h0 (show a ≤ 4095 by omega)
  have hb := inB_t h2 (show b ≤ 255 by omega)
  go_enter Try.func23, Try.ntmps23
  go_wp2_with (go_at_call 34; refine (Within_any _ _ _ _).mono ?_; rintro e w' ⟨rfl, rfl⟩)
  go_ret2
  exact ⟨rfl, rfl⟩
theorem rPlace_no (a b : Int) (h : ¬ (0 ≤ a ∧ a < 4096 ∧ 0 ≤ b ∧ b < 256)) (w : World) :
    Calls Try.prog 23 #[.int .i64 a, .int .i64 b] w fun e w' => e = .returned (.tuple #[.int .u64 0, .int .i64 2]) ∧ w' = w := by
  by_cases hp : 0 ≤ a ∧ a < 4096
  · have ha := inB_t hp.1 (show a ≤ 4095 by omega)
    have hb := inB_f (show b < 0 ∨ 255 < b by omega)
    clear h hp
    go_enter Try.func23, Try.ntmps23
    go_wp2_with (go_at_call 34; refine (Within_any _ _ _ _).mono ?_; rintro e w' ⟨rfl, rfl⟩)
    go_ret2
    exact ⟨rfl, rfl⟩
  · have ha := inB_f (show a < 0 ∨ 4095 < a by omega)
    clear h hp
    go_enter Try.func23, Try.ntmps23
    go_wp2_with (go_at_call 34; refine (Within_any _ _ _ _).mono ?_; rintro e w' ⟨rfl, rfl⟩)
    go_ret2
    exact ⟨rfl, rfl⟩
theorem rIndex_0 (a : Int) (h0 : 0 ≤ a) (h1 : a < 1048576) (w : World) :
    Calls Try.prog 15 #[.int .i64 a, .int .i64 0] w fun e w' => e = .returned (.tuple #[.int .i64 (a % 32), .int .i64 0]) ∧ w' = w := by
  have ha := inB_t h0 (show a ≤ 1048575 by omega)
  have hb : inB 0 0 3 = true := rfl
  have ho := fun w => over_any a 0 h0 (by omega) (by omega) w
  rw [show ov a 0 = a from rfl] at ho
  have Ho : Hid _ := ho
  clear ho
  go_enter Try.func15, Try.ntmps15
  go_wp2_with (first | (go_at_call 34; refine (Within_any _ _ _ _).mono ?_; rintro e w' ⟨rfl, rfl⟩) | (go_at_call 36; refine (Ho.out _).mono ?_; rintro e w' ⟨rfl, rfl⟩))
  go_ret2
  exact ⟨rfl, rfl⟩
theorem rTable_0 (a : Int) (h0 : 0 ≤ a) (h1 : a < 1048576) (w : World) :
    Calls Try.prog 17 #[.int .i64 a, .int .i64 0] w fun e w' => e = .returned (.tuple #[.int .i64 (a / 32), .int .i64 0]) ∧ w' = w := by
  have ha := inB_t h0 (show a ≤ 1048575 by omega)
  have hb : inB 0 0 3 = true := rfl
  have ho := fun w => over_any a 1 h0 (by omega) (by omega) w
  rw [ov_1] at ho
  have Ho : Hid _ := ho
  clear ho
  go_enter Try.func17, Try.ntmps17
  go_wp2_with (first | (go_at_call 34; refine (Within_any _ _ _ _).mono ?_; rintro e w' ⟨rfl, rfl⟩) | (go_at_call 36; refine (Ho.out _).mono ?_; rintro e w' ⟨rfl, rfl⟩))
  go_ret2
  exact ⟨rfl, rfl⟩
theorem rIndex_1 (a : Int) (h0 : 0 ≤ a) (h1 : a < 1048576) (w : World) :
    Calls Try.prog 15 #[.int .i64 a, .int .i64 1] w fun e w' => e = .returned (.tuple #[.int .i64 ((a / 32) % 32), .int .i64 0]) ∧ w' = w := by
  have ha := inB_t h0 (show a ≤ 1048575 by omega)
  have hb : inB 1 0 3 = true := rfl
  have ho := fun w => over_any a 1 h0 (by omega) (by omega) w
  rw [show ov a 1 = a / 32 from ov_1 a] at ho
  have Ho : Hid _ := ho
  clear ho
  go_enter Try.func15, Try.ntmps15
  go_wp2_with (first | (go_at_call 34; refine (Within_any _ _ _ _).mono ?_; rintro e w' ⟨rfl, rfl⟩) | (go_at_call 36; refine (Ho.out _).mono ?_; rintro e w' ⟨rfl, rfl⟩))
  go_ret2
  exact ⟨rfl, rfl⟩
theorem rTable_1 (a : Int) (h0 : 0 ≤ a) (h1 : a < 1048576) (w : World) :
    Calls Try.prog 17 #[.int .i64 a, .int .i64 1] w fun e w' => e = .returned (.tuple #[.int .i64 (a / 1024), .int .i64 0]) ∧ w' = w := by
  have ha := inB_t h0 (show a ≤ 1048575 by omega)
  have hb : inB 1 0 3 = true := rfl
  have ho := fun w => over_any a 2 h0 (by omega) (by omega) w
  rw [ov_2] at ho
  have Ho : Hid _ := ho
  clear ho
  go_enter Try.func17, Try.ntmps17
  go_wp2_with (first | (go_at_call 34; refine (Within_any _ _ _ _).mono ?_; rintro e w' ⟨rfl, rfl⟩) | (go_at_call 36; refine (Ho.out _).mono ?_; rintro e w' ⟨rfl, rfl⟩))
  go_ret2
  exact ⟨rfl, rfl⟩
theorem rIndex_2 (a : Int) (h0 : 0 ≤ a) (h1 : a < 1048576) (w : World) :
    Calls Try.prog 15 #[.int .i64 a, .int .i64 2] w fun e w' => e = .returned (.tuple #[.int .i64 ((a / 1024) % 32), .int .i64 0]) ∧ w' = w := by
  have ha := inB_t h0 (show a ≤ 1048575 by omega)
  have hb : inB 2 0 3 = true := rfl
  have ho := fun w => over_any a 2 h0 (by omega) (by omega) w
  rw [show ov a 2 = a / 1024 from ov_2 a] at ho
  have Ho : Hid _ := ho
  clear ho
  go_enter Try.func15, Try.ntmps15
  go_wp2_with (first | (go_at_call 34; refine (Within_any _ _ _ _).mono ?_; rintro e w' ⟨rfl, rfl⟩) | (go_at_call 36; refine (Ho.out _).mono ?_; rintro e w' ⟨rfl, rfl⟩))
  go_ret2
  exact ⟨rfl, rfl⟩
theorem rTable_2 (a : Int) (h0 : 0 ≤ a) (h1 : a < 1048576) (w : World) :
    Calls Try.prog 17 #[.int .i64 a, .int .i64 2] w fun e w' => e = .returned (.tuple #[.int .i64 (a / 32768), .int .i64 0]) ∧ w' = w := by
  have ha := inB_t h0 (show a ≤ 1048575 by omega)
  have hb : inB 2 0 3 = true := rfl
  have ho := fun w => over_any a 3 h0 (by omega) (by omega) w
  rw [ov_3] at ho
  have Ho : Hid _ := ho
  clear ho
  go_enter Try.func17, Try.ntmps17
  go_wp2_with (first | (go_at_call 34; refine (Within_any _ _ _ _).mono ?_; rintro e w' ⟨rfl, rfl⟩) | (go_at_call 36; refine (Ho.out _).mono ?_; rintro e w' ⟨rfl, rfl⟩))
  go_ret2
  exact ⟨rfl, rfl⟩
theorem rIndex_3 (a : Int) (h0 : 0 ≤ a) (h1 : a < 1048576) (w : World) :
    Calls Try.prog 15 #[.int .i64 a, .int .i64 3] w fun e w' => e = .returned (.tuple #[.int .i64 ((a / 32768) % 32), .int .i64 0]) ∧ w' = w := by
  have ha := inB_t h0 (show a ≤ 1048575 by omega)
  have hb : inB 3 0 3 = true := rfl
  have ho := fun w => over_any a 3 h0 (by omega) (by omega) w
  rw [show ov a 3 = a / 32768 from ov_3 a] at ho
  have Ho : Hid _ := ho
  clear ho
  go_enter Try.func15, Try.ntmps15
  go_wp2_with (first | (go_at_call 34; refine (Within_any _ _ _ _).mono ?_; rintro e w' ⟨rfl, rfl⟩) | (go_at_call 36; refine (Ho.out _).mono ?_; rintro e w' ⟨rfl, rfl⟩))
  go_ret2
  exact ⟨rfl, rfl⟩
theorem rTable_3 (a : Int) (h0 : 0 ≤ a) (h1 : a < 1048576) (w : World) :
    Calls Try.prog 17 #[.int .i64 a, .int .i64 3] w fun e w' => e = .returned (.tuple #[.int .i64 (a / 1048576), .int .i64 0]) ∧ w' = w := by
  have ha := inB_t h0 (show a ≤ 1048575 by omega)
  have hb : inB 3 0 3 = true := rfl
  have ho := fun w => over_any a 4 h0 (by omega) (by omega) w
  rw [ov_4] at ho
  have Ho : Hid _ := ho
  clear ho
  go_enter Try.func17, Try.ntmps17
  go_wp2_with (first | (go_at_call 34; refine (Within_any _ _ _ _).mono ?_; rintro e w' ⟨rfl, rfl⟩) | (go_at_call 36; refine (Ho.out _).mono ?_; rintro e w' ⟨rfl, rfl⟩))
  go_ret2
  exact ⟨rfl, rfl⟩
theorem rIndex_no (a b : Int) (h : ¬ (0 ≤ a ∧ a < 1048576 ∧ 0 ≤ b ∧ b ≤ 3)) (w : World) :
    Calls Try.prog 15 #[.int .i64 a, .int .i64 b] w fun e w' => e = .returned (.tuple #[.int .i64 0, .int .i64 2]) ∧ w' = w := by
  by_cases hp : 0 ≤ a ∧ a < 1048576
  · have ha := inB_t hp.1 (show a ≤ 1048575 by omega)
    have hb := inB_f (show b < 0 ∨ 3 < b by omega)
    clear h hp
    go_enter Try.func15, Try.ntmps15
    go_wp2_with (go_at_call 34; refine (Within_any _ _ _ _).mono ?_; rintro e w' ⟨rfl, rfl⟩)
    go_ret2
    exact ⟨rfl, rfl⟩
  · have ha := inB_f (show a < 0 ∨ 1048575 < a by omega)
    clear h hp
    go_enter Try.func15, Try.ntmps15
    go_wp2_with (go_at_call 34; refine (Within_any _ _ _ _).mono ?_; rintro e w' ⟨rfl, rfl⟩)
    go_ret2
    exact ⟨rfl, rfl⟩
theorem rTable_no (a b : Int) (h : ¬ (0 ≤ a ∧ a < 1048576 ∧ 0 ≤ b ∧ b ≤ 3)) (w : World) :
    Calls Try.prog 17 #[.int .i64 a, .int .i64 b] w fun e w' => e = .returned (.tuple #[.int .i64 0, .int .i64 2]) ∧ w' = w := by
  by_cases hp : 0 ≤ a ∧ a < 1048576
  · have ha := inB_t hp.1 (show a ≤ 1048575 by omega)
    have hb := inB_f (show b < 0 ∨ 3 < b by omega)
    clear h hp
    go_enter Try.func17, Try.ntmps17
    go_wp2_with (go_at_call 34; refine (Within_any _ _ _ _).mono ?_; rintro e w' ⟨rfl, rfl⟩)
    go_ret2
    exact ⟨rfl, rfl⟩
  · have ha := inB_f (show a < 0 ∨ 1048575 < a by omega)
    clear h hp
    go_enter Try.func17, Try.ntmps17
    go_wp2_with (go_at_call 34; refine (Within_any _ _ _ _).mono ?_; rintro e w' ⟨rfl, rfl⟩)
    go_ret2
    exact ⟨rfl, rfl⟩
theorem rRun_ok (a s : Int) (h0 : 0 ≤ a) (h1 : a < 268435456) (h2 : 1 ≤ s) (h3 : s ≤ 8) (h4 : a % 256 + s ≤ 256) (w : World) :
    Calls Try.prog 29 #[.int .u64 a, .int .i64 s] w fun e w' => e = .returned (.tuple #[.int .i64 (a / 256), .int .i64 (a % 256), .int .i64 0]) ∧ w' = w := by
  have hs := inB_t h2 h3
  have hf : ¬ 256 - s < a % 256 := by omega
  go_enter Try.func29, Try.ntmps29
  go_wp2_with (first | (go_at_call 34; refine (Within_any _ _ _ _).mono ?_; rintro e w' ⟨rfl, rfl⟩) | (go_at_call 10; refine (rSplit_ok _ h0 h1 _).mono ?_; rintro e w' ⟨rfl, rfl⟩))
  go_ret3
  exact ⟨rfl, rfl⟩
theorem rRun_far (a s : Int) (h0 : 268435456 ≤ a) (h1 : a < 18446744073709551616) (w : World) :
    Calls Try.prog 29 #[.int .u64 a, .int .i64 s] w fun e w' => e = .returned (.tuple #[.int .i64 0, .int .i64 0, .int .i64 10]) ∧ w' = w := by
  go_enter Try.func29, Try.ntmps29
  go_wp2_with (go_at_call 10; refine (rSplit_no _ h0 h1 _).mono ?_; rintro e w' ⟨rfl, rfl⟩)
  go_ret3
  exact ⟨rfl, rfl⟩
theorem rRun_no (a s : Int) (h0 : 0 ≤ a) (h1 : a < 268435456) (h : ¬ (1 ≤ s ∧ s ≤ 8 ∧ a % 256 + s ≤ 256)) (w : World) :
    Calls Try.prog 29 #[.int .u64 a, .int .i64 s] w fun e w' => e = .returned (.tuple #[.int .i64 0, .int .i64 0, .int .i64 2]) ∧ w' = w := by
  by_cases c : 1 ≤ s ∧ s ≤ 8
  · have hs := inB_t c.1 c.2
    have c3 : 256 - s < a % 256 := by omega
    have c4 : 1 ≤ s := by omega
    have c5 : s ≤ 8 := by omega
    clear h c
    go_enter Try.func29, Try.ntmps29
    go_wp2_with (first | (go_at_call 34; refine (Within_any _ _ _ _).mono ?_; rintro e w' ⟨rfl, rfl⟩) | (go_at_call 10; refine (rSplit_ok _ h0 h1 _).mono ?_; rintro e w' ⟨rfl, rfl⟩))
    go_ret3
    exact ⟨rfl, rfl⟩
  · have hs := inB_f (show s < 1 ∨ 8 < s by omega)
    clear h c
    go_enter Try.func29, Try.ntmps29
    go_wp2_with (first | (go_at_call 34; refine (Within_any _ _ _ _).mono ?_; rintro e w' ⟨rfl, rfl⟩) | (go_at_call 10; refine (rSplit_ok _ h0 h1 _).mono ?_; rintro e w' ⟨rfl, rfl⟩))
    go_ret3
    exact ⟨rfl, rfl⟩
end Go.Proofs.Ythmcempfiimkkaa
