/- What colour's functions of numbers and the reference's give back, each for every number that it may be handed; no condition but the ranges that each theorem names. -/
import Derived.Test.YtoondpgdodmngaaRows
import Derived.WalkKit
import Derived.ProofKit
import Derived.OpenShut
import Derived.WalkSpells
import Derived.WalkLawsBesides
import Derived.Laws.BitsAllLaws
import Derived.Deep.QuietTactic
import Derived.BigQuiet
namespace Go.Proofs.Ytoondpgdodmngaa
open Go.ChangeShapes Go.WideShapes Go.ChangeAt Go.RowKit
set_option linter.unusedVariables false

theorem own : ownKnob Try.prog.godebug = none := by kernel_rfl
theorem ret_tuple2 {k k' : IntKind} {a b c d : Int} (h : a = b) (h' : c = d) : Ending.returned (.tuple #[.int k a, .int k' c]) = .returned (.tuple #[.int k b, .int k' d]) := by rw [h, h']
theorem ret_bool {a b : Bool} (h : a = b) : Ending.returned (.bool a) = .returned (.bool b) := by rw [h]
def inB (n a b : Int) : Bool := decide (a ≤ n) && decide (n ≤ b)
theorem inB_t {n a b : Int} (h : a ≤ n) (h' : n ≤ b) : inB n a b = true := by simp [inB, h, h']
theorem inB_f {n a b : Int} (h : n < a ∨ b < n) : inB n a b = false := by simp [inB]; omega
theorem inB_iff {n a b : Int} : inB n a b = true ↔ a ≤ n ∧ n ≤ b := by simp [inB]
theorem inB_not {n a b : Int} (h : inB n a b = false) : n < a ∨ b < n := by simp [inB] at h; omega
/-- A pair of an int and an errno that is given back, nothing else done. -/
def Two (a e : Int) (w : World) (x : Ending) (w' : World) : Prop := x = .returned (.tuple #[.int .i64 a, .int .i64 e]) ∧ w' = w

theorem frameMayBe_any (a : Int) (w : World) : Calls Try.prog 25 #[.int .i64 a] w fun e w' => e = .returned (.bool (inB a 0 4095)) ∧ w' = w := by
  go_enter Try.func25, Try.ntmps25
  go_wp2
  all_goals (go_ret; exact ⟨ret_bool (by rw [Bool.eq_iff_iff]; simp [inB]; omega), rfl⟩)
theorem framesMayBe_any (a : Int) (w : World) : Calls Try.prog 30 #[.int .i64 a] w fun e w' => e = .returned (.bool (inB a 1 4096)) ∧ w' = w := by
  go_enter Try.func30, Try.ntmps30
  go_wp2
  all_goals (go_ret; exact ⟨ret_bool (by rw [Bool.eq_iff_iff]; simp [inB]; omega), rfl⟩)
theorem coloursMayBe_any (a : Int) (w : World) : Calls Try.prog 26 #[.int .i64 a] w fun e w' => e = .returned (.bool (inB a 1 16)) ∧ w' = w := by
  go_enter Try.func26, Try.ntmps26
  go_wp2
  all_goals (go_ret; exact ⟨ret_bool (by rw [Bool.eq_iff_iff]; simp [inB]; omega), rfl⟩)
theorem Within_any (n a b : Int) (w : World) : Calls Try.prog 27 #[.int .i64 n, .int .i64 a, .int .i64 b] w fun e w' => e = .returned (.bool (inB n a b)) ∧ w' = w := by
  go_enter Try.func27, Try.ntmps27
  go_wp2
  all_goals (go_ret; exact ⟨ret_bool (by rw [Bool.eq_iff_iff]; simp [inB]; omega), rfl⟩)
theorem rcolours_any (n : Int) (w : World) : Calls Try.prog 28 #[.int .i64 n] w fun e w' => e = .returned (.bool (inB n 1 16)) ∧ w' = w := by
  go_enter Try.func28, Try.ntmps28
  go_wp2_with (go_at_call 27; refine (Within_any _ _ _ _).mono ?_; rintro e w' ⟨rfl, rfl⟩)
  go_ret
  exact ⟨rfl, rfl⟩
/-- Whether a colour of so many may be. -/
def cm (c n : Int) : Bool := inB n 1 16 && inB c 0 (n - 1)
theorem colourMayBe_any (c n : Int) (w : World) : Calls Try.prog 29 #[.int .i64 c, .int .i64 n] w fun e w' => e = .returned (.bool (cm c n)) ∧ w' = w := by
  cases h : inB n 1 16
  · go_enter Try.func29, Try.ntmps29
    go_wp2_with (go_at_call 26; refine (coloursMayBe_any _ _).mono ?_; rintro e w' ⟨rfl, rfl⟩)
    all_goals (go_ret; exact ⟨ret_bool (by simp [cm, h]), rfl⟩)
  · go_enter Try.func29, Try.ntmps29
    go_wp2_with (go_at_call 26; refine (coloursMayBe_any _ _).mono ?_; rintro e w' ⟨rfl, rfl⟩)
    all_goals (go_ret; exact ⟨ret_bool (by rw [Bool.eq_iff_iff]; simp [cm, h]; simp [inB]; omega), rfl⟩)
theorem Of_ok (x n : Int) (h0 : 0 ≤ x) (h1 : x ≤ 4095) (h2 : 1 ≤ n) (h3 : n ≤ 16) (w : World) : Calls Try.prog 9 #[.int .i64 x, .int .i64 n] w (Two (x % n) 0 w) := by
  have ha := inB_t h0 h1
  have hb := inB_t h2 h3
  have hm : x.tmod n = x % n := Int.tmod_eq_emod_of_nonneg h0
  have k0 := Int.emod_nonneg x (show n ≠ 0 by omega)
  have k1 := Int.emod_lt_of_pos x (show 0 < n by omega)
  have hn : ¬ n = 0 := by omega
  go_enter Try.func9, Try.ntmps9
  go_wp2_with (first | (go_at_call 25; refine (frameMayBe_any _ _).mono ?_; rintro e w' ⟨rfl, rfl⟩) | (go_at_call 26; refine (coloursMayBe_any _ _).mono ?_; rintro e w' ⟨rfl, rfl⟩))
  go_ret2
  exact ⟨rfl, rfl⟩
theorem Of_no (x n : Int) (h : ¬ (0 ≤ x ∧ x ≤ 4095 ∧ 1 ≤ n ∧ n ≤ 16)) (w : World) : Calls Try.prog 9 #[.int .i64 x, .int .i64 n] w (Two 0 2 w) := by
  cases ha : inB x 0 4095
  · go_enter Try.func9, Try.ntmps9
    go_wp2_with (first | (go_at_call 25; refine (frameMayBe_any _ _).mono ?_; rintro e w' ⟨rfl, rfl⟩) | (go_at_call 26; refine (coloursMayBe_any _ _).mono ?_; rintro e w' ⟨rfl, rfl⟩))
    go_ret2
    exact ⟨rfl, rfl⟩
  · have hb : inB n 1 16 = false := inB_f (by have := inB_iff.1 ha; omega)
    go_enter Try.func9, Try.ntmps9
    go_wp2_with (first | (go_at_call 25; refine (frameMayBe_any _ _).mono ?_; rintro e w' ⟨rfl, rfl⟩) | (go_at_call 26; refine (coloursMayBe_any _ _).mono ?_; rintro e w' ⟨rfl, rfl⟩))
    go_ret2
    exact ⟨rfl, rfl⟩
theorem Index_ok (x n : Int) (h0 : 0 ≤ x) (h1 : x ≤ 4095) (h2 : 1 ≤ n) (h3 : n ≤ 16) (w : World) : Calls Try.prog 11 #[.int .i64 x, .int .i64 n] w (Two (x / n) 0 w) := by
  have ha := inB_t h0 h1
  have hb := inB_t h2 h3
  have hm : x.tdiv n = x / n := Int.tdiv_eq_ediv_of_nonneg h0
  have k0 : 0 ≤ x / n := Int.ediv_nonneg h0 (by omega)
  have k1 : x / n ≤ x := Int.ediv_le_self n h0
  have hn : ¬ n = 0 := by omega
  go_enter Try.func11, Try.ntmps11
  go_wp2_with (first | (go_at_call 25; refine (frameMayBe_any _ _).mono ?_; rintro e w' ⟨rfl, rfl⟩) | (go_at_call 26; refine (coloursMayBe_any _ _).mono ?_; rintro e w' ⟨rfl, rfl⟩))
  go_ret2
  exact ⟨rfl, rfl⟩
theorem Index_no (x n : Int) (h : ¬ (0 ≤ x ∧ x ≤ 4095 ∧ 1 ≤ n ∧ n ≤ 16)) (w : World) : Calls Try.prog 11 #[.int .i64 x, .int .i64 n] w (Two 0 2 w) := by
  cases ha : inB x 0 4095
  · go_enter Try.func11, Try.ntmps11
    go_wp2_with (first | (go_at_call 25; refine (frameMayBe_any _ _).mono ?_; rintro e w' ⟨rfl, rfl⟩) | (go_at_call 26; refine (coloursMayBe_any _ _).mono ?_; rintro e w' ⟨rfl, rfl⟩))
    go_ret2
    exact ⟨rfl, rfl⟩
  · have hb : inB n 1 16 = false := inB_f (by have := inB_iff.1 ha; omega)
    go_enter Try.func11, Try.ntmps11
    go_wp2_with (first | (go_at_call 25; refine (frameMayBe_any _ _).mono ?_; rintro e w' ⟨rfl, rfl⟩) | (go_at_call 26; refine (coloursMayBe_any _ _).mono ?_; rintro e w' ⟨rfl, rfl⟩))
    go_ret2
    exact ⟨rfl, rfl⟩
theorem rOf_ok (x n : Int) (h0 : 0 ≤ x) (h1 : x ≤ 4095) (h2 : 1 ≤ n) (h3 : n ≤ 16) (w : World) : Calls Try.prog 10 #[.int .i64 x, .int .i64 n] w (Two (x % n) 0 w) := by
  have ha := inB_t h0 h1
  have hb := inB_t h2 h3
  have hm : x.tmod n = x % n := Int.tmod_eq_emod_of_nonneg h0
  have k0 := Int.emod_nonneg x (show n ≠ 0 by omega)
  have k1 := Int.emod_lt_of_pos x (show 0 < n by omega)
  have hn : ¬ n = 0 := by omega
  go_enter Try.func10, Try.ntmps10
  go_wp2_with (first | (go_at_call 27; refine (Within_any _ _ _ _).mono ?_; rintro e w' ⟨rfl, rfl⟩) | (go_at_call 28; refine (rcolours_any _ _).mono ?_; rintro e w' ⟨rfl, rfl⟩))
  go_ret2
  exact ⟨rfl, rfl⟩
theorem rOf_no (x n : Int) (h : ¬ (0 ≤ x ∧ x ≤ 4095 ∧ 1 ≤ n ∧ n ≤ 16)) (w : World) : Calls Try.prog 10 #[.int .i64 x, .int .i64 n] w (Two 0 2 w) := by
  cases ha : inB x 0 4095
  · go_enter Try.func10, Try.ntmps10
    go_wp2_with (first | (go_at_call 27; refine (Within_any _ _ _ _).mono ?_; rintro e w' ⟨rfl, rfl⟩) | (go_at_call 28; refine (rcolours_any _ _).mono ?_; rintro e w' ⟨rfl, rfl⟩))
    go_ret2
    exact ⟨rfl, rfl⟩
  · have hb : inB n 1 16 = false := inB_f (by have := inB_iff.1 ha; omega)
    go_enter Try.func10, Try.ntmps10
    go_wp2_with (first | (go_at_call 27; refine (Within_any _ _ _ _).mono ?_; rintro e w' ⟨rfl, rfl⟩) | (go_at_call 28; refine (rcolours_any _ _).mono ?_; rintro e w' ⟨rfl, rfl⟩))
    go_ret2
    exact ⟨rfl, rfl⟩
theorem rIndex_ok (x n : Int) (h0 : 0 ≤ x) (h1 : x ≤ 4095) (h2 : 1 ≤ n) (h3 : n ≤ 16) (w : World) : Calls Try.prog 12 #[.int .i64 x, .int .i64 n] w (Two (x / n) 0 w) := by
  have ha := inB_t h0 h1
  have hb := inB_t h2 h3
  have hm : x.tdiv n = x / n := Int.tdiv_eq_ediv_of_nonneg h0
  have k0 : 0 ≤ x / n := Int.ediv_nonneg h0 (by omega)
  have k1 : x / n ≤ x := Int.ediv_le_self n h0
  have hn : ¬ n = 0 := by omega
  go_enter Try.func12, Try.ntmps12
  go_wp2_with (first | (go_at_call 27; refine (Within_any _ _ _ _).mono ?_; rintro e w' ⟨rfl, rfl⟩) | (go_at_call 28; refine (rcolours_any _ _).mono ?_; rintro e w' ⟨rfl, rfl⟩))
  go_ret2
  exact ⟨rfl, rfl⟩
theorem rIndex_no (x n : Int) (h : ¬ (0 ≤ x ∧ x ≤ 4095 ∧ 1 ≤ n ∧ n ≤ 16)) (w : World) : Calls Try.prog 12 #[.int .i64 x, .int .i64 n] w (Two 0 2 w) := by
  cases ha : inB x 0 4095
  · go_enter Try.func12, Try.ntmps12
    go_wp2_with (first | (go_at_call 27; refine (Within_any _ _ _ _).mono ?_; rintro e w' ⟨rfl, rfl⟩) | (go_at_call 28; refine (rcolours_any _ _).mono ?_; rintro e w' ⟨rfl, rfl⟩))
    go_ret2
    exact ⟨rfl, rfl⟩
  · have hb : inB n 1 16 = false := inB_f (by have := inB_iff.1 ha; omega)
    go_enter Try.func12, Try.ntmps12
    go_wp2_with (first | (go_at_call 27; refine (Within_any _ _ _ _).mono ?_; rintro e w' ⟨rfl, rfl⟩) | (go_at_call 28; refine (rcolours_any _ _).mono ?_; rintro e w' ⟨rfl, rfl⟩))
    go_ret2
    exact ⟨rfl, rfl⟩
/-- The frame of a colour and an index, where there is one. -/
def fo (c i n : Int) : Prop := (1 ≤ n ∧ n ≤ 16) ∧ (0 ≤ c ∧ c < n) ∧ 0 ≤ i ∧ i * n + c ≤ 4095
theorem prod_le (i n : Int) (h0 : 0 ≤ i) (h1 : i ≤ 4095) (h2 : 1 ≤ n) (h3 : n ≤ 16) : 0 ≤ i * n ∧ i * n ≤ 65520 ∧ i ≤ i * n := by
  refine ⟨Int.mul_nonneg h0 (by omega), ?_, ?_⟩
  · have := Int.mul_le_mul h1 h3 (by omega) (by omega)
    omega
  · have := Int.mul_le_mul_of_nonneg_left h2 h0
    omega
theorem fo_i {c i n : Int} (h : fo c i n) : i ≤ 4095 := by
  obtain ⟨⟨a, b⟩, ⟨c0, c1⟩, i0, l⟩ := h
  have := Int.mul_le_mul_of_nonneg_left a i0
  omega
theorem Frame_ok (c i n : Int) (h : fo c i n) (w : World) : Calls Try.prog 13 #[.int .i64 c, .int .i64 i, .int .i64 n] w (Two (i * n + c) 0 w) := by
  have hi := fo_i h
  obtain ⟨⟨a, b⟩, ⟨c0, c1⟩, i0, l⟩ := h
  obtain ⟨p0, p1, p2⟩ := prod_le i n i0 hi a b
  have h1 : cm c n = true := by simp [cm, inB_t a b, inB_t c0 (show c ≤ n - 1 by omega)]
  have h2 := inB_t i0 hi
  have h3 := inB_t (show 0 ≤ i * n + c by omega) l
  go_enter Try.func13, Try.ntmps13
  go_wp2_with (first | (go_at_call 29; refine (colourMayBe_any _ _ _).mono ?_; rintro e w' ⟨rfl, rfl⟩) | (go_at_call 25; refine (frameMayBe_any _ _).mono ?_; rintro e w' ⟨rfl, rfl⟩))
  go_ret2
  exact ⟨rfl, rfl⟩
theorem Frame_no (c i n : Int) (h : ¬ fo c i n) (w : World) : Calls Try.prog 13 #[.int .i64 c, .int .i64 i, .int .i64 n] w (Two 0 2 w) := by
  cases h1 : cm c n
  · go_enter Try.func13, Try.ntmps13
    go_wp2_with (first | (go_at_call 29; refine (colourMayBe_any _ _ _).mono ?_; rintro e w' ⟨rfl, rfl⟩) | (go_at_call 25; refine (frameMayBe_any _ _).mono ?_; rintro e w' ⟨rfl, rfl⟩))
    go_ret2
    exact ⟨rfl, rfl⟩
  · cases h2 : inB i 0 4095
    · go_enter Try.func13, Try.ntmps13
      go_wp2_with (first | (go_at_call 29; refine (colourMayBe_any _ _ _).mono ?_; rintro e w' ⟨rfl, rfl⟩) | (go_at_call 25; refine (frameMayBe_any _ _).mono ?_; rintro e w' ⟨rfl, rfl⟩))
      go_ret2
      exact ⟨rfl, rfl⟩
    · have k1 : inB n 1 16 = true ∧ inB c 0 (n - 1) = true := by simpa [cm] using h1
      have k2 := inB_iff.1 k1.1
      have k3 := inB_iff.1 k1.2
      have k4 := inB_iff.1 h2
      obtain ⟨p0, p1, p2⟩ := prod_le i n k4.1 k4.2 k2.1 k2.2
      have h3 : inB (i * n + c) 0 4095 = false := inB_f (Or.inr (Classical.byContradiction fun q => h ⟨k2, ⟨k3.1, by omega⟩, k4.1, by omega⟩))
      clear h k1
      go_enter Try.func13, Try.ntmps13
      go_wp2_with (first | (go_at_call 29; refine (colourMayBe_any _ _ _).mono ?_; rintro e w' ⟨rfl, rfl⟩) | (go_at_call 25; refine (frameMayBe_any _ _).mono ?_; rintro e w' ⟨rfl, rfl⟩))
      go_ret2
      exact ⟨rfl, rfl⟩
/-- How many of the first F frames have the colour c of n. -/
def ct (F n c : Int) : Int := (F - c + n - 1) / n
theorem ct_le {F n c : Int} (hF : 1 ≤ F) (hF1 : F ≤ 4096) (h0 : 0 ≤ c) (h1 : c < n) (hn : n ≤ 16) : 0 ≤ F - c + n - 1 ∧ 0 ≤ ct F n c ∧ ct F n c ≤ F - c + n - 1 ∧ F - c + n - 1 ≤ 4111 := by
  have hs : 0 ≤ F - c + n - 1 := by omega
  exact ⟨hs, Int.ediv_nonneg hs (by omega), Int.ediv_le_self n hs, by omega⟩
theorem Count_ok (F n c : Int) (hF : 1 ≤ F) (hF1 : F ≤ 4096) (h2 : 1 ≤ n) (h3 : n ≤ 16) (h0 : 0 ≤ c) (h1 : c < n) (w : World) : Calls Try.prog 19 #[.int .i64 F, .int .i64 n, .int .i64 c] w (Two (ct F n c) 0 w) := by
  have ha := inB_t hF hF1
  have hb : cm c n = true := by simp [cm, inB_t h2 h3, inB_t h0 (show c ≤ n - 1 by omega)]
  obtain ⟨k0, k1, k2, k3⟩ := ct_le hF hF1 h0 h1 h3
  have hm : (F - c + n - 1).tdiv n = ct F n c := Int.tdiv_eq_ediv_of_nonneg k0
  have hn : ¬ n = 0 := by omega
  generalize ct F n c = q at *
  go_enter Try.func19, Try.ntmps19
  go_wp2_with (first | (go_at_call 30; refine (framesMayBe_any _ _).mono ?_; rintro e w' ⟨rfl, rfl⟩) | (go_at_call 29; refine (colourMayBe_any _ _ _).mono ?_; rintro e w' ⟨rfl, rfl⟩))
  go_ret2
  exact ⟨rfl, rfl⟩
theorem Count_no (F n c : Int) (h : ¬ ((1 ≤ F ∧ F ≤ 4096) ∧ (1 ≤ n ∧ n ≤ 16) ∧ 0 ≤ c ∧ c < n)) (w : World) : Calls Try.prog 19 #[.int .i64 F, .int .i64 n, .int .i64 c] w (Two 0 2 w) := by
  cases ha : inB F 1 4096
  · go_enter Try.func19, Try.ntmps19
    go_wp2_with (first | (go_at_call 30; refine (framesMayBe_any _ _).mono ?_; rintro e w' ⟨rfl, rfl⟩) | (go_at_call 29; refine (colourMayBe_any _ _ _).mono ?_; rintro e w' ⟨rfl, rfl⟩))
    go_ret2
    exact ⟨rfl, rfl⟩
  · have hb : cm c n = false := by
      cases hb : cm c n
      · rfl
      · exfalso
        have k1 : inB n 1 16 = true ∧ inB c 0 (n - 1) = true := by simpa [cm] using hb
        have k2 := inB_iff.1 k1.1
        have k3 := inB_iff.1 k1.2
        have k4 := inB_iff.1 ha
        exact h ⟨k4, k2, k3.1, by omega⟩
    go_enter Try.func19, Try.ntmps19
    go_wp2_with (first | (go_at_call 30; refine (framesMayBe_any _ _).mono ?_; rintro e w' ⟨rfl, rfl⟩) | (go_at_call 29; refine (colourMayBe_any _ _ _).mono ?_; rintro e w' ⟨rfl, rfl⟩))
    go_ret2
    exact ⟨rfl, rfl⟩
/-- The set of an address. -/
def st (a n : Int) : Int := a / 256 % n * 16 + a % 256 / 16
theorem Set_ok (a n : Int) (h0 : 0 ≤ a) (h1 : a < 1048576) (h2 : 1 ≤ n) (h3 : n ≤ 16) (w : World) : Calls Try.prog 21 #[.int .u64 a, .int .i64 n] w (Two (st a n) 0 w) := by
  have C : Hid (∀ w, Calls Try.prog 9 #[.int .i64 (a / 256), .int .i64 n] w (Two (a / 256 % n) 0 w)) := fun w => Of_ok (a / 256) n (by omega) (by omega) h2 h3 w
  have k0 := Int.emod_nonneg (a / 256) (show n ≠ 0 by omega)
  have k1 := Int.emod_lt_of_pos (a / 256) (show 0 < n by omega)
  unfold st
  generalize a / 256 % n = c at *
  go_enter Try.func21, Try.ntmps21
  go_wp2_with (go_at_call 9; refine (C.out _).mono ?_; rintro e w' ⟨rfl, rfl⟩)
  go_ret2
  exact ⟨rfl, rfl⟩
theorem Set_addr (a n : Int) (h1 : 1048576 ≤ a) (w : World) : Calls Try.prog 21 #[.int .u64 a, .int .i64 n] w (Two 0 10 w) := by
  go_enter Try.func21, Try.ntmps21
  go_wp2
  go_ret2
  exact ⟨rfl, rfl⟩
theorem Set_arg (a n : Int) (h0 : 0 ≤ a) (h1 : a < 1048576) (h : ¬ (1 ≤ n ∧ n ≤ 16)) (w : World) : Calls Try.prog 21 #[.int .u64 a, .int .i64 n] w (Two 0 2 w) := by
  have C : Hid (∀ w, Calls Try.prog 9 #[.int .i64 (a / 256), .int .i64 n] w (Two 0 2 w)) := fun w => Of_no (a / 256) n (by omega) w
  go_enter Try.func21, Try.ntmps21
  go_wp2_with (go_at_call 9; refine (C.out _).mono ?_; rintro e w' ⟨rfl, rfl⟩)
  go_ret2
  exact ⟨rfl, rfl⟩
theorem rSet_ok (a n : Int) (h0 : 0 ≤ a) (h1 : a < 1048576) (h2 : 1 ≤ n) (h3 : n ≤ 16) (w : World) : Calls Try.prog 22 #[.int .u64 a, .int .i64 n] w (Two (st a n) 0 w) := by
  have hb := inB_t h2 h3
  have k0 := Int.emod_nonneg (a / 256) (show n ≠ 0 by omega)
  have k1 := Int.emod_lt_of_pos (a / 256) (show 0 < n by omega)
  have hm : (a / 256).tmod n = a / 256 % n := Int.tmod_eq_emod_of_nonneg (by omega)
  have hn : ¬ n = 0 := by omega
  unfold st
  generalize a / 256 % n = c at *
  go_enter Try.func22, Try.ntmps22
  go_wp2_with (go_at_call 28; refine (rcolours_any _ _).mono ?_; rintro e w' ⟨rfl, rfl⟩)
  go_ret2
  exact ⟨rfl, rfl⟩
theorem rSet_addr (a n : Int) (h1 : 1048576 ≤ a) (w : World) : Calls Try.prog 22 #[.int .u64 a, .int .i64 n] w (Two 0 10 w) := by
  go_enter Try.func22, Try.ntmps22
  go_wp2
  go_ret2
  exact ⟨rfl, rfl⟩
theorem rSet_arg (a n : Int) (h0 : 0 ≤ a) (h1 : a < 1048576) (h : ¬ (1 ≤ n ∧ n ≤ 16)) (w : World) : Calls Try.prog 22 #[.int .u64 a, .int .i64 n] w (Two 0 2 w) := by
  have hb : inB n 1 16 = false := inB_f (by omega)
  go_enter Try.func22, Try.ntmps22
  go_wp2_with (go_at_call 28; refine (rcolours_any _ _).mono ?_; rintro e w' ⟨rfl, rfl⟩)
  go_ret2
  exact ⟨rfl, rfl⟩
theorem Owner_ok (s n : Int) (h2 : 1 ≤ n) (h3 : n ≤ 16) (h0 : 0 ≤ s) (h1 : s < n * 16) (w : World) : Calls Try.prog 23 #[.int .i64 s, .int .i64 n] w (Two (s / 16) 0 w) := by
  have hb := inB_t h2 h3
  go_enter Try.func23, Try.ntmps23
  go_wp2_with (go_at_call 26; refine (coloursMayBe_any _ _).mono ?_; rintro e w' ⟨rfl, rfl⟩)
  go_ret2
  exact ⟨rfl, rfl⟩
theorem Owner_no (s n : Int) (h : ¬ (1 ≤ n ∧ n ≤ 16 ∧ 0 ≤ s ∧ s < n * 16)) (w : World) : Calls Try.prog 23 #[.int .i64 s, .int .i64 n] w (Two 0 2 w) := by
  cases hb : inB n 1 16
  · go_enter Try.func23, Try.ntmps23
    go_wp2_with (go_at_call 26; refine (coloursMayBe_any _ _).mono ?_; rintro e w' ⟨rfl, rfl⟩)
    go_ret2
    exact ⟨rfl, rfl⟩
  · have k2 := inB_iff.1 hb
    by_cases hs : s < 0
    · go_enter Try.func23, Try.ntmps23
      go_wp2_with (go_at_call 26; refine (coloursMayBe_any _ _).mono ?_; rintro e w' ⟨rfl, rfl⟩)
      go_ret2
      exact ⟨rfl, rfl⟩
    · have hs' : n * 16 ≤ s := by omega
      go_enter Try.func23, Try.ntmps23
      go_wp2_with (go_at_call 26; refine (coloursMayBe_any _ _).mono ?_; rintro e w' ⟨rfl, rfl⟩)
      go_ret2
      exact ⟨rfl, rfl⟩
theorem rOwner_ok (s n : Int) (h2 : 1 ≤ n) (h3 : n ≤ 16) (h0 : 0 ≤ s) (h1 : s < n * 16) (w : World) : Calls Try.prog 24 #[.int .i64 s, .int .i64 n] w (Two (s / 16) 0 w) := by
  have hb := inB_t h2 h3
  have hc : inB s 0 (16 * n - 1) = true := inB_t h0 (by omega)
  go_enter Try.func24, Try.ntmps24
  go_wp2_with (first | (go_at_call 27; refine (Within_any _ _ _ _).mono ?_; rintro e w' ⟨rfl, rfl⟩) | (go_at_call 28; refine (rcolours_any _ _).mono ?_; rintro e w' ⟨rfl, rfl⟩))
  go_ret2
  exact ⟨rfl, rfl⟩
theorem rOwner_no (s n : Int) (h : ¬ (1 ≤ n ∧ n ≤ 16 ∧ 0 ≤ s ∧ s < n * 16)) (w : World) : Calls Try.prog 24 #[.int .i64 s, .int .i64 n] w (Two 0 2 w) := by
  cases hb : inB n 1 16
  · go_enter Try.func24, Try.ntmps24
    go_wp2_with (first | (go_at_call 27; refine (Within_any _ _ _ _).mono ?_; rintro e w' ⟨rfl, rfl⟩) | (go_at_call 28; refine (rcolours_any _ _).mono ?_; rintro e w' ⟨rfl, rfl⟩))
    go_ret2
    exact ⟨rfl, rfl⟩
  · have k2 := inB_iff.1 hb
    have hc : inB s 0 (16 * n - 1) = false := inB_f (by omega)
    go_enter Try.func24, Try.ntmps24
    go_wp2_with (first | (go_at_call 27; refine (Within_any _ _ _ _).mono ?_; rintro e w' ⟨rfl, rfl⟩) | (go_at_call 28; refine (rcolours_any _ _).mono ?_; rintro e w' ⟨rfl, rfl⟩))
    go_ret2
    exact ⟨rfl, rfl⟩
theorem rFrame_out (c i n : Int) (h : ¬ (1 ≤ n ∧ n ≤ 16)) (w : World) : Calls Try.prog 14 #[.int .i64 c, .int .i64 i, .int .i64 n] w (Two 0 2 w) := by
  have hb : inB n 1 16 = false := inB_f (by omega)
  go_enter Try.func14, Try.ntmps14
  go_wp2_with (go_at_call 28; refine (rcolours_any _ _).mono ?_; rintro e w' ⟨rfl, rfl⟩)
  go_ret2
  exact ⟨rfl, rfl⟩
theorem fo_of {c i n f : Int} (h2 : 1 ≤ n) (h3 : n ≤ 16) (h0 : 0 ≤ f) (h1 : f ≤ 4095) (hc : f % n = c) (hi : f / n = i) : fo c i n ∧ i * n + c = f := by
  have e := Int.mul_ediv_add_emod f n
  rw [hc, hi, Int.mul_comm] at e
  refine ⟨⟨⟨h2, h3⟩, ⟨?_, ?_⟩, ?_, by omega⟩, e⟩
  · rw [← hc]; exact Int.emod_nonneg _ (by omega)
  · rw [← hc]; exact Int.emod_lt_of_pos _ (by omega)
  · rw [← hi]; exact Int.ediv_nonneg h0 (by omega)
theorem of_fo {c i n : Int} (h : fo c i n) : (i * n + c) % n = c ∧ (i * n + c) / n = i := by
  obtain ⟨⟨a, b⟩, ⟨c0, c1⟩, i0, l⟩ := h
  constructor
  · rw [Int.add_comm, Int.add_mul_emod_self_right]; exact Int.emod_eq_of_lt c0 c1
  · rw [Int.add_comm, Int.add_mul_ediv_right _ _ (by omega), Int.ediv_eq_zero_of_lt c0 c1]; omega
set_option maxRecDepth 20000 in
theorem rFrame_in (c i n : Int) (h2 : 1 ≤ n) (h3 : n ≤ 16) (v e : Int) (hv : (fo c i n ∧ v = i * n + c ∧ e = 0) ∨ (¬ fo c i n ∧ v = 0 ∧ e = 2)) (w : World) : Calls Try.prog 14 #[.int .i64 c, .int .i64 i, .int .i64 n] w (Two v e w) := by
  have hb := inB_t h2 h3
  have HV : Hid ((fo c i n ∧ v = i * n + c ∧ e = 0) ∨ (¬ fo c i n ∧ v = 0 ∧ e = 2)) := hv
  clear hv
  have hn : ¬ n = 0 := by omega
  go_enter Try.func14, Try.ntmps14
  go_wp2_with (go_at_call 28; refine (rcolours_any _ _).mono ?_; rintro e w' ⟨rfl, rfl⟩)
  go_loop [8] (fun x => ∃ k : Nat, k ≤ 4096 ∧ x = .int .i64 k ∧ ∀ j : Nat, j < k → ¬ ((j : Int) % n = c ∧ (j : Int) / n = i)) (fun x => 4096 - (intOf x).toNat)
  case atStart => exact ⟨0, by omega, rfl, fun j hj => by omega⟩
  case round =>
    obtain ⟨k, hk, rfl, hg⟩ := hrel
    have HG : Hid (∀ j : Nat, j < k → ¬ ((j : Int) % n = c ∧ (j : Int) / n = i)) := hg
    clear hg
    by_cases hlt : k < 4096
    · have hm : (k : Int).tmod n = (k : Int) % n := Int.tmod_eq_emod_of_nonneg (by omega)
      have hd : (k : Int).tdiv n = (k : Int) / n := Int.tdiv_eq_ediv_of_nonneg (by omega)
      have HN : Hid (¬ ((k : Int) % n = c ∧ (k : Int) / n = i) → ∀ j : Nat, j < k + 1 → ¬ ((j : Int) % n = c ∧ (j : Int) / n = i)) := fun hx j hj => by
        by_cases q : j < k
        · exact HG.out j q
        · obtain rfl : j = k := by omega
          exact hx
      have HF : Hid ((k : Int) % n = c → (k : Int) / n = i → v = k ∧ e = 0) := fun x1 x2 => by
        obtain ⟨q1, q2⟩ := fo_of h2 h3 (show 0 ≤ (k : Int) by omega) (by omega) x1 x2
        rcases HV.out with ⟨_, a, b⟩ | ⟨a, _⟩
        · exact ⟨by omega, b⟩
        · exact absurd q1 a
      have y0 : 0 ≤ (k : Int) / n := Int.ediv_nonneg (by omega) (by omega)
      have y1 : (k : Int) / n ≤ 4096 := by have := Int.ediv_le_self n (show 0 ≤ (k : Int) by omega); omega
      generalize hx : (k : Int) % n = x at *
      generalize hy : (k : Int) / n = y at *
      clear hx hy HV HG
      by_cases e1 : x = c
      · by_cases e2 : y = i
        · obtain ⟨rfl, rfl⟩ := HF.out e1 e2
          subst e1 e2
          clear HN HF
          have t1 : (x == x) = true := by simp
          have t2 : (y == y) = true := by simp
          go_wp2
          go_ret2
          exact ⟨rfl, rfl⟩
        · have t1 : (x == c) = true := by simpa using e1
          have t2 : (y == i) = false := by simpa using e2
          have HM : Hid _ := HN.out (fun q => e2 q.2)
          clear e1 e2 HN HF
          go_wp2
          go_round
          case rel => exact ⟨k + 1, by omega, by go_num, HM.out⟩
          case measure => simp [intOf]; omega
      · have t1 : (x == c) = false := by simpa using e1
        have HM : Hid _ := HN.out (fun q => e1 q.1)
        clear e1 HN HF
        go_wp2
        go_round
        case rel => exact ⟨k + 1, by omega, by go_num, HM.out⟩
        case measure => simp [intOf]; omega
    · obtain ⟨rfl, rfl⟩ : v = 0 ∧ e = 2 := by
        rcases HV.out with ⟨a, _⟩ | ⟨_, a⟩
        · exfalso
          obtain ⟨q1, q2⟩ := of_fo a
          obtain ⟨⟨a1, b1⟩, ⟨c0, c1⟩, i0, l⟩ := a
          have p0 : 0 ≤ i * n := Int.mul_nonneg i0 (by omega)
          have := HG.out (i * n + c).toNat (by omega)
          rw [Int.toNat_of_nonneg (by omega)] at this
          exact this ⟨q1, q2⟩
        · exact a
      clear HG HV
      go_wp2
      go_ret2
      exact ⟨rfl, rfl⟩
end Go.Proofs.Ytoondpgdodmngaa
