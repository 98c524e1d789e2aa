/- What the small functions of both sides give back: of numbers, of powers of two; no condition but the ranges named. -/
import Derived.Test.YtcmgjinjfaialaaGreatMe
namespace Go.Proofs.YtcmgjinjfaialaaGreat
open Go.ChangeShapes Go.WideShapes Go.ChangeAt Go.RowKit
set_option linter.unusedVariables false

theorem from_any (a n b : Int) (w : World) : Calls Tryz.prog 36 #[.int .i64 a, .int .i64 n, .int .i64 b] w fun e w' => e = .returned (.bool (inB n a b)) ∧ w' = w := by
  go_enter Tryz.func36, Tryz.ntmps36
  go_wp2
  all_goals (go_ret; exact ⟨ret_bool (by rw [Bool.eq_iff_iff]; simp [inB]; omega), rfl⟩)
theorem within_any (n a b : Int) (w : World) : Calls Tryz.prog 95 #[.int .i64 n, .int .i64 a, .int .i64 b] w fun e w' => e = .returned (.bool (inB n a b)) ∧ w' = w := by
  go_enter Tryz.func95, Tryz.ntmps95
  go_wp2
  all_goals (go_ret; exact ⟨ret_bool (by rw [Bool.eq_iff_iff]; simp [inB]; omega), rfl⟩)
theorem unless_any (b : Bool) (e : Int) (w : World) : Calls Tryz.prog 37 #[.bool b, .int .i64 e] w fun x w' => x = .returned (.int .i64 (bif b then 0 else e)) ∧ w' = w := by
  cases b
  · go_enter Tryz.func37, Tryz.ntmps37
    go_wp2
    go_ret
    exact ⟨rfl, rfl⟩
  · go_enter Tryz.func37, Tryz.ntmps37
    go_wp2
    go_ret
    exact ⟨rfl, rfl⟩
/-- What OnesCount64 does to a number. -/
def o1 (n : Int) : Int := IntKind.u64.wrap (bits BinOp.and IntKind.u64 (n / 2) 6148914691236517205 + bits BinOp.and IntKind.u64 n 6148914691236517205)
def o2 (n : Int) : Int := IntKind.u64.wrap (bits BinOp.and IntKind.u64 (n / 4) 3689348814741910323 + bits BinOp.and IntKind.u64 n 3689348814741910323)
def o3 (n : Int) : Int := bits BinOp.and IntKind.u64 (IntKind.u64.wrap (n / 16 + n)) 1085102592571150095
def o4 (n : Int) : Int := IntKind.u64.wrap (n + n / 256)
def o5 (n : Int) : Int := IntKind.u64.wrap (n + n / 65536)
def o6 (n : Int) : Int := IntKind.u64.wrap (n + n / 4294967296)
def o7 (n : Int) : Int := bits BinOp.and IntKind.i64 (wrap64 n) 127
def oc (n : Int) : Int := o7 (o6 (o5 (o4 (o3 (o2 (o1 n))))))
theorem oc_tab : ((List.range 4097).all fun n => (oc (n : Int) == 1) == pow2 (n : Int)) = true := by decide +kernel
theorem oc_pow {n : Nat} (hn : n ≤ 4096) : (oc (n : Int) == 1) = pow2 (n : Int) := by
  have := List.all_eq_true.1 oc_tab n (by simp; omega)
  simpa using this
theorem ones64 (n : Nat) (w : World) : Calls Tryz.prog 91 #[.int .u64 (n : Int)] w fun e w' => e = .returned (.int .i64 (oc n)) ∧ w' = w := by
  go_enter Tryz.func91, Tryz.ntmps91
  go_wp2
  go_ret
  exact ⟨rfl, rfl⟩
theorem ones (n : Nat) (w : World) : Calls Tryz.prog 63 #[.int .u64 (n : Int)] w fun e w' => e = .returned (.int .i64 (oc n)) ∧ w' = w := by
  go_enter Tryz.func63, Tryz.ntmps63
  go_wp2_with (go_at_call 91; refine (ones64 _ _).mono ?_; rintro e w' ⟨rfl, rfl⟩)
  go_ret
  exact ⟨rfl, rfl⟩
theorem powerOfTwo_any (n h : Int) (hh : h ≤ 4096) (w : World) : Calls Tryz.prog 35 #[.int .i64 n, .int .i64 h] w fun e w' => e = .returned (.bool (pwH n h)) ∧ w' = w := by
  cases hb : inB n 1 h
  · have hp : pwH n h = false := by
      cases hq : pwH n h
      · rfl
      · unfold pwH at hq
        simp only [Bool.and_eq_true, decide_eq_true_eq, pow2_iff] at hq
        have := inB_not hb
        omega
    rw [hp]
    go_enter Tryz.func35, Tryz.ntmps35
    go_wp2_with (go_at_call 36; refine (from_any _ _ _ _).mono ?_; rintro e w' ⟨rfl, rfl⟩)
    go_ret
    exact ⟨rfl, rfl⟩
  · obtain ⟨k1, k2⟩ := inB_iff.1 hb
    obtain ⟨m, rfl⟩ := Int.eq_ofNat_of_zero_le (show 0 ≤ n by omega)
    have hp : pwH m h = (oc m == 1) := by rw [oc_pow (by omega)]; simp [pwH, k2]
    rw [hp]
    have C : Hid (∀ w, Calls Tryz.prog 63 #[.int .u64 (m : Int)] w fun e w' => e = .returned (.int .i64 (oc m)) ∧ w' = w) := fun w => ones m w
    clear hp
    generalize oc m = q at *
    go_enter Tryz.func35, Tryz.ntmps35
    go_wp2_with (first | (go_at_call 36; refine (from_any _ _ _ _).mono ?_; rintro e w' ⟨rfl, rfl⟩) | (go_at_call 63; refine (C.out _).mono ?_; rintro e w' ⟨rfl, rfl⟩))
    all_goals (go_ret; exact ⟨ret_bool (by first | rfl | simp [*]), rfl⟩)
def pwr (n : Int) : Bool := decide (0 < n) && (bits BinOp.and IntKind.i64 n (n - 1) == 0)
theorem pwr_tab : ((List.range 4097).all fun n => pwr (n : Int) == pow2 (n : Int)) = true := by decide +kernel
theorem pwr_pow {n h : Int} (hh : h ≤ 4096) : (pwr n && decide (n ≤ h)) = pwH n h := by
  unfold pwH
  by_cases h0 : n ≤ h
  · by_cases h1 : 0 < n
    · obtain ⟨m, rfl⟩ := Int.eq_ofNat_of_zero_le (show 0 ≤ n by omega)
      have := List.all_eq_true.1 pwr_tab m (by simp; omega)
      have : pwr m = pow2 m := by simpa using this
      rw [this]
    · have e1 : pwr n = false := by simp [pwr, h1]
      have e2 : pow2 n = false := by
        cases hq : pow2 n
        · rfl
        · rw [pow2_iff] at hq; omega
      rw [e1, e2]
  · simp [h0]
theorem Power_any (n : Int) (h0 : -9223372036854775808 ≤ n) (h1 : n ≤ 9223372036854775807) (w : World) : Calls Tryz.prog 69 #[.int .i64 n] w fun e w' => e = .returned (.bool (pwr n)) ∧ w' = w := by
  by_cases hp : 0 < n
  · have hq : pwr n = (bits BinOp.and IntKind.i64 n (n - 1) == 0) := by simp [pwr, hp]
    rw [hq]
    go_enter Tryz.func69, Tryz.ntmps69
    go_wp2
    all_goals (go_ret; exact ⟨ret_bool (by first | rfl | simp_all), rfl⟩)
  · have hq : pwr n = false := by simp [pwr, hp]
    rw [hq]
    go_enter Tryz.func69, Tryz.ntmps69
    go_wp2
    all_goals (go_ret; exact ⟨rfl, rfl⟩)
end Go.Proofs.YtcmgjinjfaialaaGreat
