/- What the small integer functions of package addr and of the reference give back, each for every integer that it may be handed; no condition but the range that each theorem names. -/
import Derived.Test.YthmcempfiimkkabRows
import Derived.WalkKit
import Derived.ProofKit
import Derived.OpenShut
import Derived.WalkSpells
import Derived.WalkLawsBesides
import Derived.Laws.BitsAllLaws
namespace Go.Proofs.Ythmcempfiimkkab
open Go.ChangeShapes Go.WideShapes Go.ChangeAt Go.RowKit
set_option linter.unusedVariables false

theorem own : ownKnob Try.prog.godebug = none := by kernel_rfl

theorem low8_u64 (a : Int) (h0 : 0 ≤ a) (h1 : a < 18446744073709551616) : bits .and .u64 a 255 = a % 256 := by
  rw [u64_and a 255 h0 h1 (by decide) (by decide)]
  have e : (255 : Int).toNat = 255 := rfl
  rw [e, nat_mask8]; omega
theorem low5_i64 (a : Int) (h0 : 0 ≤ a) (h1 : a < 1048576) : bits .and .i64 a 31 = a % 32 := by
  obtain ⟨n, rfl⟩ := Int.eq_ofNat_of_zero_le h0
  show IntKind.i64.wrap ((BitVec.ofInt 64 (n : Int) &&& BitVec.ofInt 64 ((31 : Nat) : Int)).toNat : Int) = _
  rw [BitVec.toNat_and, ofInt_u64 n (by omega), ofInt_u64 31 (by omega), nat_mask5, IntKind.wrap_i64]
  omega
theorem join_u64 (a b : Int) (h0 : 0 ≤ a) (h1 : a < 1048576) (h2 : 0 ≤ b) (h3 : b < 256) : bits .or .u64 (a * 256) b = a * 256 + b := by
  rw [u64_or (a * 256) b (by omega) (by omega) h2 (by omega), nat_join 8 _ _ (by omega) (by omega)]; omega
theorem ret_tuple2 {k k' : IntKind} {a b c d : Int} (h : a = b) (h' : c = d) : Ending.returned (.tuple #[.int k a, .int k' c]) = .returned (.tuple #[.int k b, .int k' d]) := by rw [h, h']
theorem ret_int {k : IntKind} {a b : Int} (h : a = b) : Ending.returned (.int k a) = .returned (.int k b) := by rw [h]
theorem ret_bool {a b : Bool} (h : a = b) : Ending.returned (.bool a) = .returned (.bool b) := by rw [h]

theorem cut_any (a : Int) (h0 : 0 ≤ a) (h1 : a < 18446744073709551616) (w : World) :
    Calls Try.prog 20 #[.int .u64 a] w fun e w' => e = .returned (.tuple #[.int .i64 (a / 256), .int .i64 (a % 256)]) ∧ w' = w := by
  have hl := low8_u64 a h0 h1
  go_enter Try.func20, Try.ntmps20
  go_wp2
  go_ret2
  exact ⟨rfl, rfl⟩
def inB (n a b : Int) : Bool := decide (a ≤ n) && decide (n ≤ b)
theorem inB_t {n a b : Int} (h : a ≤ n) (h' : n ≤ b) : inB n a b = true := by simp [inB, h, h']
theorem inB_f {n a b : Int} (h : n < a ∨ b < n) : inB n a b = false := by simp [inB]; omega
theorem pageMayBe_any (a : Int) (w : World) :
    Calls Try.prog 21 #[.int .i64 a] w fun e w' => e = .returned (.bool (inB a 0 1048575)) ∧ w' = w := by
  go_enter Try.func21, Try.ntmps21
  go_wp2
  all_goals (go_ret; exact ⟨ret_bool (by rw [Bool.eq_iff_iff]; simp [inB]; omega), rfl⟩)
theorem offMayBe_any (a : Int) (w : World) :
    Calls Try.prog 22 #[.int .i64 a] w fun e w' => e = .returned (.bool (inB a 0 255)) ∧ w' = w := by
  go_enter Try.func22, Try.ntmps22
  go_wp2
  all_goals (go_ret; exact ⟨ret_bool (by rw [Bool.eq_iff_iff]; simp [inB]; omega), rfl⟩)
theorem levelMayBe_any (a : Int) (w : World) :
    Calls Try.prog 24 #[.int .i64 a] w fun e w' => e = .returned (.bool (inB a 0 3)) ∧ w' = w := by
  go_enter Try.func24, Try.ntmps24
  go_wp2
  all_goals (go_ret; exact ⟨ret_bool (by rw [Bool.eq_iff_iff]; simp [inB]; omega), rfl⟩)
theorem frameMayBe_any (a : Int) (w : World) :
    Calls Try.prog 26 #[.int .i64 a] w fun e w' => e = .returned (.bool (inB a 0 4095)) ∧ w' = w := by
  go_enter Try.func26, Try.ntmps26
  go_wp2
  all_goals (go_ret; exact ⟨ret_bool (by rw [Bool.eq_iff_iff]; simp [inB]; omega), rfl⟩)
theorem put_any (a b : Int) (h0 : 0 ≤ a) (h1 : a < 1048576) (h2 : 0 ≤ b) (h3 : b < 256) (w : World) :
    Calls Try.prog 23 #[.int .i64 a, .int .i64 b] w fun e w' => e = .returned (.int .u64 (a * 256 + b)) ∧ w' = w := by
  have hj := join_u64 a b h0 h1 h2 h3
  go_enter Try.func23, Try.ntmps23
  go_wp2
  go_ret
  exact ⟨rfl, rfl⟩
theorem tableOf_0 (a : Int) (h0 : 0 ≤ a) (h1 : a ≤ 1048576) (w : World) :
    Calls Try.prog 25 #[.int .i64 a, .int .i64 0] w fun e w' => e = .returned (.int .i64 (a / 32)) ∧ w' = w := by
  go_enter Try.func25, Try.ntmps25
  go_wp2
  go_ret
  exact ⟨rfl, rfl⟩
theorem tableOf_1 (a : Int) (h0 : 0 ≤ a) (h1 : a ≤ 1048576) (w : World) :
    Calls Try.prog 25 #[.int .i64 a, .int .i64 1] w fun e w' => e = .returned (.int .i64 (a / 1024)) ∧ w' = w := by
  go_enter Try.func25, Try.ntmps25
  go_wp2
  go_ret
  exact ⟨rfl, rfl⟩
theorem tableOf_2 (a : Int) (h0 : 0 ≤ a) (h1 : a ≤ 1048576) (w : World) :
    Calls Try.prog 25 #[.int .i64 a, .int .i64 2] w fun e w' => e = .returned (.int .i64 (a / 32768)) ∧ w' = w := by
  go_enter Try.func25, Try.ntmps25
  go_wp2
  go_ret
  exact ⟨rfl, rfl⟩
theorem tableOf_3 (a : Int) (h0 : 0 ≤ a) (h1 : a ≤ 1048576) (w : World) :
    Calls Try.prog 25 #[.int .i64 a, .int .i64 3] w fun e w' => e = .returned (.int .i64 (a / 1048576)) ∧ w' = w := by
  go_enter Try.func25, Try.ntmps25
  go_wp2
  go_ret
  exact ⟨rfl, rfl⟩

theorem Split_ok (a : Int) (h0 : 0 ≤ a) (h1 : a < 268435456) (w : World) :
    Calls Try.prog 7 #[.int .u64 a] w fun e w' => e = .returned (.tuple #[.int .i64 (a / 256), .int .i64 (a % 256), .int .i64 0]) ∧ w' = w := by
  have hz : (a / 268435456 != 0) = false := by simp; omega
  go_enter Try.func7, Try.ntmps7
  go_wp2_with (go_at_call 20; refine (cut_any _ h0 (by omega) _).mono ?_; rintro e w' ⟨rfl, rfl⟩)
  go_ret3
  exact ⟨rfl, rfl⟩
theorem Split_no (a : Int) (h0 : 268435456 ≤ a) (h1 : a < 18446744073709551616) (w : World) :
    Calls Try.prog 7 #[.int .u64 a] w fun e w' => e = .returned (.tuple #[.int .i64 0, .int .i64 0, .int .i64 10]) ∧ w' = w := by
  have hz : (a / 268435456 != 0) = true := by rw [bne_iff_ne]; omega
  go_enter Try.func7, Try.ntmps7
  go_wp2_with fail
  go_ret3
  exact ⟨rfl, rfl⟩
theorem Frame_ok (a : Int) (h0 : 0 ≤ a) (h1 : a < 1048576) (w : World) :
    Calls Try.prog 11 #[.int .u64 a] w fun e w' => e = .returned (.tuple #[.int .i64 (a / 256), .int .i64 (a % 256), .int .i64 0]) ∧ w' = w := by
  have hz : (a / 1048576 != 0) = false := by simp; omega
  go_enter Try.func11, Try.ntmps11
  go_wp2_with (go_at_call 20; refine (cut_any _ h0 (by omega) _).mono ?_; rintro e w' ⟨rfl, rfl⟩)
  go_ret3
  exact ⟨rfl, rfl⟩
theorem Frame_no (a : Int) (h0 : 1048576 ≤ a) (h1 : a < 18446744073709551616) (w : World) :
    Calls Try.prog 11 #[.int .u64 a] w fun e w' => e = .returned (.tuple #[.int .i64 0, .int .i64 0, .int .i64 10]) ∧ w' = w := by
  have hz : (a / 1048576 != 0) = true := by rw [bne_iff_ne]; omega
  go_enter Try.func11, Try.ntmps11
  go_wp2_with fail
  go_ret3
  exact ⟨rfl, rfl⟩
theorem Line_ok (a : Int) (h0 : 0 ≤ a) (h1 : a < 1048576) (w : World) :
    Calls Try.prog 12 #[.int .u64 a] w fun e w' => e = .returned (.tuple #[.int .i64 (a / 16), .int .i64 0]) ∧ w' = w := by
  have hz : (a / 1048576 != 0) = false := by simp; omega
  go_enter Try.func12, Try.ntmps12
  go_wp2
  go_ret2
  exact ⟨rfl, rfl⟩
theorem Line_no (a : Int) (h0 : 1048576 ≤ a) (h1 : a < 18446744073709551616) (w : World) :
    Calls Try.prog 12 #[.int .u64 a] w fun e w' => e = .returned (.tuple #[.int .i64 0, .int .i64 10]) ∧ w' = w := by
  have hz : (a / 1048576 != 0) = true := by rw [bne_iff_ne]; omega
  go_enter Try.func12, Try.ntmps12
  go_wp2
  go_ret2
  exact ⟨rfl, rfl⟩
theorem Join_ok (a b : Int) (h0 : 0 ≤ a) (h1 : a < 1048576) (h2 : 0 ≤ b) (h3 : b < 256) (w : World) :
    Calls Try.prog 8 #[.int .i64 a, .int .i64 b] w fun e w' => e = .returned (.tuple #[.int .u64 (a * 256 + b), .int .i64 0]) ∧ w' = w := by
  have ha := inB_t h0 (show a ≤ 1048575 by omega)
  have hb := inB_t h2 (show b ≤ 255 by omega)
  go_enter Try.func8, Try.ntmps8
  go_wp2_with (first | (go_at_call 21; refine (pageMayBe_any _ _).mono ?_; rintro e w' ⟨rfl, rfl⟩) | (go_at_call 22; refine (offMayBe_any _ _).mono ?_; rintro e w' ⟨rfl, rfl⟩) | (go_at_call 23; refine (put_any _ _ h0 h1 h2 h3 _).mono ?_; rintro e w' ⟨rfl, rfl⟩))
  go_ret2
  exact ⟨rfl, rfl⟩
theorem Join_no (a b : Int) (h : ¬ (0 ≤ a ∧ a < 1048576 ∧ 0 ≤ b ∧ b < 256)) (w : World) :
    Calls Try.prog 8 #[.int .i64 a, .int .i64 b] w fun e w' => e = .returned (.tuple #[.int .u64 0, .int .i64 2]) ∧ w' = w := by
  by_cases hp : 0 ≤ a ∧ a < 1048576
  · have ha := inB_t hp.1 (show a ≤ 1048575 by omega)
    have hb := inB_f (show b < 0 ∨ 255 < b by omega)
    clear h hp
    go_enter Try.func8, Try.ntmps8
    go_wp2_with (first | (go_at_call 21; refine (pageMayBe_any _ _).mono ?_; rintro e w' ⟨rfl, rfl⟩) | (go_at_call 22; refine (offMayBe_any _ _).mono ?_; rintro e w' ⟨rfl, rfl⟩))
    go_ret2
    exact ⟨rfl, rfl⟩
  · have ha := inB_f (show a < 0 ∨ 1048575 < a by omega)
    clear h hp
    go_enter Try.func8, Try.ntmps8
    go_wp2_with (first | (go_at_call 21; refine (pageMayBe_any _ _).mono ?_; rintro e w' ⟨rfl, rfl⟩) | (go_at_call 22; refine (offMayBe_any _ _).mono ?_; rintro e w' ⟨rfl, rfl⟩))
    go_ret2
    exact ⟨rfl, rfl⟩
theorem Place_ok (a b : Int) (h0 : 0 ≤ a) (h1 : a < 4096) (h2 : 0 ≤ b) (h3 : b < 256) (w : World) :
    Calls Try.prog 14 #[.int .i64 a, .int .i64 b] w fun e w' => e = .returned (.tuple #[.int .u64 (a * 256 + b), .int .i64 0]) ∧ w' = w := by
  have ha := inB_t h0 (show a ≤ 4095 by omega)
  have hb := inB_t h2 (show b ≤ 255 by omega)
  go_enter Try.func14, Try.ntmps14
  go_wp2_with (first | (go_at_call 26; refine (frameMayBe_any _ _).mono ?_; rintro e w' ⟨rfl, rfl⟩) | (go_at_call 22; refine (offMayBe_any _ _).mono ?_; rintro e w' ⟨rfl, rfl⟩) | (go_at_call 23; refine (put_any _ _ h0 (by omega) h2 h3 _).mono ?_; rintro e w' ⟨rfl, rfl⟩))
  go_ret2
  exact ⟨rfl, rfl⟩
theorem Place_no (a b : Int) (h : ¬ (0 ≤ a ∧ a < 4096 ∧ 0 ≤ b ∧ b < 256)) (w : World) :
    Calls Try.prog 14 #[.int .i64 a, .int .i64 b] w fun e w' => e = .returned (.tuple #[.int .u64 0, .int .i64 2]) ∧ w' = w := by
  by_cases hp : 0 ≤ a ∧ a < 4096
  · have ha := inB_t hp.1 (show a ≤ 4095 by omega)
    have hb := inB_f (show b < 0 ∨ 255 < b by omega)
    clear h hp
    go_enter Try.func14, Try.ntmps14
    go_wp2_with (first | (go_at_call 26; refine (frameMayBe_any _ _).mono ?_; rintro e w' ⟨rfl, rfl⟩) | (go_at_call 22; refine (offMayBe_any _ _).mono ?_; rintro e w' ⟨rfl, rfl⟩))
    go_ret2
    exact ⟨rfl, rfl⟩
  · have ha := inB_f (show a < 0 ∨ 4095 < a by omega)
    clear h hp
    go_enter Try.func14, Try.ntmps14
    go_wp2_with (first | (go_at_call 26; refine (frameMayBe_any _ _).mono ?_; rintro e w' ⟨rfl, rfl⟩) | (go_at_call 22; refine (offMayBe_any _ _).mono ?_; rintro e w' ⟨rfl, rfl⟩))
    go_ret2
    exact ⟨rfl, rfl⟩
theorem Index_0 (a : Int) (h0 : 0 ≤ a) (h1 : a < 1048576) (w : World) :
    Calls Try.prog 9 #[.int .i64 a, .int .i64 0] w fun e w' => e = .returned (.tuple #[.int .i64 (a % 32), .int .i64 0]) ∧ w' = w := by
  have ha := inB_t h0 (show a ≤ 1048575 by omega)
  have hb : inB 0 0 3 = true := rfl
  have hl := low5_i64 a (by omega) (by omega)
  go_enter Try.func9, Try.ntmps9
  go_wp2_with (first | (go_at_call 21; refine (pageMayBe_any _ _).mono ?_; rintro e w' ⟨rfl, rfl⟩) | (go_at_call 24; refine (levelMayBe_any _ _).mono ?_; rintro e w' ⟨rfl, rfl⟩))
  go_ret2
  exact ⟨rfl, rfl⟩
theorem Table_0 (a : Int) (h0 : 0 ≤ a) (h1 : a < 1048576) (w : World) :
    Calls Try.prog 10 #[.int .i64 a, .int .i64 0] w fun e w' => e = .returned (.tuple #[.int .i64 (a / 32), .int .i64 0]) ∧ w' = w := by
  have ha := inB_t h0 (show a ≤ 1048575 by omega)
  have hb : inB 0 0 3 = true := rfl
  go_enter Try.func10, Try.ntmps10
  go_wp2_with (first | (go_at_call 21; refine (pageMayBe_any _ _).mono ?_; rintro e w' ⟨rfl, rfl⟩) | (go_at_call 24; refine (levelMayBe_any _ _).mono ?_; rintro e w' ⟨rfl, rfl⟩) | (go_at_call 25; refine (tableOf_0 _ h0 (by omega) _).mono ?_; rintro e w' ⟨rfl, rfl⟩))
  go_ret2
  exact ⟨rfl, rfl⟩
theorem Index_1 (a : Int) (h0 : 0 ≤ a) (h1 : a < 1048576) (w : World) :
    Calls Try.prog 9 #[.int .i64 a, .int .i64 1] w fun e w' => e = .returned (.tuple #[.int .i64 ((a / 32) % 32), .int .i64 0]) ∧ w' = w := by
  have ha := inB_t h0 (show a ≤ 1048575 by omega)
  have hb : inB 1 0 3 = true := rfl
  have hl := low5_i64 (a / 32) (by omega) (by omega)
  go_enter Try.func9, Try.ntmps9
  go_wp2_with (first | (go_at_call 21; refine (pageMayBe_any _ _).mono ?_; rintro e w' ⟨rfl, rfl⟩) | (go_at_call 24; refine (levelMayBe_any _ _).mono ?_; rintro e w' ⟨rfl, rfl⟩))
  go_ret2
  exact ⟨rfl, rfl⟩
theorem Table_1 (a : Int) (h0 : 0 ≤ a) (h1 : a < 1048576) (w : World) :
    Calls Try.prog 10 #[.int .i64 a, .int .i64 1] w fun e w' => e = .returned (.tuple #[.int .i64 (a / 1024), .int .i64 0]) ∧ w' = w := by
  have ha := inB_t h0 (show a ≤ 1048575 by omega)
  have hb : inB 1 0 3 = true := rfl
  go_enter Try.func10, Try.ntmps10
  go_wp2_with (first | (go_at_call 21; refine (pageMayBe_any _ _).mono ?_; rintro e w' ⟨rfl, rfl⟩) | (go_at_call 24; refine (levelMayBe_any _ _).mono ?_; rintro e w' ⟨rfl, rfl⟩) | (go_at_call 25; refine (tableOf_1 _ h0 (by omega) _).mono ?_; rintro e w' ⟨rfl, rfl⟩))
  go_ret2
  exact ⟨rfl, rfl⟩
theorem Index_2 (a : Int) (h0 : 0 ≤ a) (h1 : a < 1048576) (w : World) :
    Calls Try.prog 9 #[.int .i64 a, .int .i64 2] w fun e w' => e = .returned (.tuple #[.int .i64 ((a / 1024) % 32), .int .i64 0]) ∧ w' = w := by
  have ha := inB_t h0 (show a ≤ 1048575 by omega)
  have hb : inB 2 0 3 = true := rfl
  have hl := low5_i64 (a / 1024) (by omega) (by omega)
  go_enter Try.func9, Try.ntmps9
  go_wp2_with (first | (go_at_call 21; refine (pageMayBe_any _ _).mono ?_; rintro e w' ⟨rfl, rfl⟩) | (go_at_call 24; refine (levelMayBe_any _ _).mono ?_; rintro e w' ⟨rfl, rfl⟩))
  go_ret2
  exact ⟨rfl, rfl⟩
theorem Table_2 (a : Int) (h0 : 0 ≤ a) (h1 : a < 1048576) (w : World) :
    Calls Try.prog 10 #[.int .i64 a, .int .i64 2] w fun e w' => e = .returned (.tuple #[.int .i64 (a / 32768), .int .i64 0]) ∧ w' = w := by
  have ha := inB_t h0 (show a ≤ 1048575 by omega)
  have hb : inB 2 0 3 = true := rfl
  go_enter Try.func10, Try.ntmps10
  go_wp2_with (first | (go_at_call 21; refine (pageMayBe_any _ _).mono ?_; rintro e w' ⟨rfl, rfl⟩) | (go_at_call 24; refine (levelMayBe_any _ _).mono ?_; rintro e w' ⟨rfl, rfl⟩) | (go_at_call 25; refine (tableOf_2 _ h0 (by omega) _).mono ?_; rintro e w' ⟨rfl, rfl⟩))
  go_ret2
  exact ⟨rfl, rfl⟩
theorem Index_3 (a : Int) (h0 : 0 ≤ a) (h1 : a < 1048576) (w : World) :
    Calls Try.prog 9 #[.int .i64 a, .int .i64 3] w fun e w' => e = .returned (.tuple #[.int .i64 ((a / 32768) % 32), .int .i64 0]) ∧ w' = w := by
  have ha := inB_t h0 (show a ≤ 1048575 by omega)
  have hb : inB 3 0 3 = true := rfl
  have hl := low5_i64 (a / 32768) (by omega) (by omega)
  go_enter Try.func9, Try.ntmps9
  go_wp2_with (first | (go_at_call 21; refine (pageMayBe_any _ _).mono ?_; rintro e w' ⟨rfl, rfl⟩) | (go_at_call 24; refine (levelMayBe_any _ _).mono ?_; rintro e w' ⟨rfl, rfl⟩))
  go_ret2
  exact ⟨rfl, rfl⟩
theorem Table_3 (a : Int) (h0 : 0 ≤ a) (h1 : a < 1048576) (w : World) :
    Calls Try.prog 10 #[.int .i64 a, .int .i64 3] w fun e w' => e = .returned (.tuple #[.int .i64 (a / 1048576), .int .i64 0]) ∧ w' = w := by
  have ha := inB_t h0 (show a ≤ 1048575 by omega)
  have hb : inB 3 0 3 = true := rfl
  go_enter Try.func10, Try.ntmps10
  go_wp2_with (first | (go_at_call 21; refine (pageMayBe_any _ _).mono ?_; rintro e w' ⟨rfl, rfl⟩) | (go_at_call 24; refine (levelMayBe_any _ _).mono ?_; rintro e w' ⟨rfl, rfl⟩) | (go_at_call 25; refine (tableOf_3 _ h0 (by omega) _).mono ?_; rintro e w' ⟨rfl, rfl⟩))
  go_ret2
  exact ⟨rfl, rfl⟩
theorem Index_no (a b : Int) (h : ¬ (0 ≤ a ∧ a < 1048576 ∧ 0 ≤ b ∧ b ≤ 3)) (w : World) :
    Calls Try.prog 9 #[.int .i64 a, .int .i64 b] w fun e w' => e = .returned (.tuple #[.int .i64 0, .int .i64 2]) ∧ w' = w := by
  by_cases hp : 0 ≤ a ∧ a < 1048576
  · have ha := inB_t hp.1 (show a ≤ 1048575 by omega)
    have hb := inB_f (show b < 0 ∨ 3 < b by omega)
    clear h hp
    go_enter Try.func9, Try.ntmps9
    go_wp2_with (first | (go_at_call 21; refine (pageMayBe_any _ _).mono ?_; rintro e w' ⟨rfl, rfl⟩) | (go_at_call 24; refine (levelMayBe_any _ _).mono ?_; rintro e w' ⟨rfl, rfl⟩))
    go_ret2
    exact ⟨rfl, rfl⟩
  · have ha := inB_f (show a < 0 ∨ 1048575 < a by omega)
    clear h hp
    go_enter Try.func9, Try.ntmps9
    go_wp2_with (first | (go_at_call 21; refine (pageMayBe_any _ _).mono ?_; rintro e w' ⟨rfl, rfl⟩) | (go_at_call 24; refine (levelMayBe_any _ _).mono ?_; rintro e w' ⟨rfl, rfl⟩))
    go_ret2
    exact ⟨rfl, rfl⟩
theorem Table_no (a b : Int) (h : ¬ (0 ≤ a ∧ a < 1048576 ∧ 0 ≤ b ∧ b ≤ 3)) (w : World) :
    Calls Try.prog 10 #[.int .i64 a, .int .i64 b] w fun e w' => e = .returned (.tuple #[.int .i64 0, .int .i64 2]) ∧ w' = w := by
  by_cases hp : 0 ≤ a ∧ a < 1048576
  · have ha := inB_t hp.1 (show a ≤ 1048575 by omega)
    have hb := inB_f (show b < 0 ∨ 3 < b by omega)
    clear h hp
    go_enter Try.func10, Try.ntmps10
    go_wp2_with (first | (go_at_call 21; refine (pageMayBe_any _ _).mono ?_; rintro e w' ⟨rfl, rfl⟩) | (go_at_call 24; refine (levelMayBe_any _ _).mono ?_; rintro e w' ⟨rfl, rfl⟩))
    go_ret2
    exact ⟨rfl, rfl⟩
  · have ha := inB_f (show a < 0 ∨ 1048575 < a by omega)
    clear h hp
    go_enter Try.func10, Try.ntmps10
    go_wp2_with (first | (go_at_call 21; refine (pageMayBe_any _ _).mono ?_; rintro e w' ⟨rfl, rfl⟩) | (go_at_call 24; refine (levelMayBe_any _ _).mono ?_; rintro e w' ⟨rfl, rfl⟩))
    go_ret2
    exact ⟨rfl, rfl⟩
theorem Run_ok (a s : Int) (h0 : 0 ≤ a) (h1 : a < 268435456) (h2 : 1 ≤ s) (h3 : s ≤ 8) (h4 : a % 256 + s ≤ 256) (w : World) :
    Calls Try.prog 13 #[.int .u64 a, .int .i64 s] w fun e w' => e = .returned (.tuple #[.int .i64 (a / 256), .int .i64 (a % 256), .int .i64 0]) ∧ w' = w := by
  go_enter Try.func13, Try.ntmps13
  go_wp2_with (go_at_call 7; refine (Split_ok _ h0 h1 _).mono ?_; rintro e w' ⟨rfl, rfl⟩)
  go_ret3
  exact ⟨rfl, rfl⟩
theorem Run_far (a s : Int) (h0 : 268435456 ≤ a) (h1 : a < 18446744073709551616) (w : World) :
    Calls Try.prog 13 #[.int .u64 a, .int .i64 s] w fun e w' => e = .returned (.tuple #[.int .i64 0, .int .i64 0, .int .i64 10]) ∧ w' = w := by
  go_enter Try.func13, Try.ntmps13
  go_wp2_with (go_at_call 7; refine (Split_no _ h0 h1 _).mono ?_; rintro e w' ⟨rfl, rfl⟩)
  go_ret3
  exact ⟨rfl, rfl⟩
theorem Run_no (a s : Int) (h0 : 0 ≤ a) (h1 : a < 268435456) (h : ¬ (1 ≤ s ∧ s ≤ 8 ∧ a % 256 + s ≤ 256)) (w : World) :
    Calls Try.prog 13 #[.int .u64 a, .int .i64 s] w fun e w' => e = .returned (.tuple #[.int .i64 0, .int .i64 0, .int .i64 2]) ∧ w' = w := by
  by_cases c1 : s < 1
  · clear h
    go_enter Try.func13, Try.ntmps13
    go_wp2_with (go_at_call 7; refine (Split_ok _ h0 h1 _).mono ?_; rintro e w' ⟨rfl, rfl⟩)
    go_ret3
    exact ⟨rfl, rfl⟩
  · by_cases c2 : 8 < s
    · clear h
      go_enter Try.func13, Try.ntmps13
      go_wp2_with (go_at_call 7; refine (Split_ok _ h0 h1 _).mono ?_; rintro e w' ⟨rfl, rfl⟩)
      go_ret3
      exact ⟨rfl, rfl⟩
    · have c3 : 256 < a % 256 + s := by omega
      have c4 : 1 ≤ s := by omega
      have c5 : s ≤ 8 := by omega
      clear h c1 c2
      go_enter Try.func13, Try.ntmps13
      go_wp2_with (go_at_call 7; refine (Split_ok _ h0 h1 _).mono ?_; rintro e w' ⟨rfl, rfl⟩)
      go_ret3
      exact ⟨rfl, rfl⟩
end Go.Proofs.Ythmcempfiimkkab
