/- What entry's functions and the reference's small ones give back, each for every entry and word that they may be handed; no condition but the ranges that each theorem names. -/
import Derived.Test.YtinegjobjpmkcaaBt
import Derived.Deep.QuietTactic
import Derived.BigQuiet
namespace Go.Proofs.Ytinegjobjpmkcaa
open Go.ChangeShapes Go.WideShapes Go.ChangeAt Go.RowKit
set_option linter.unusedVariables false

theorem ret_bool {a b : Bool} (h : a = b) : Ending.returned (.bool a) = .returned (.bool b) := by rw [h]
theorem below_new (w : World) (o : Obj) : Below w.heap.size w (w.alloc o) := (Below.refl _ _).alloc (Nat.le_refl _) _
theorem below_drewN {B : Nat} {w w' : World} (h : Below B w w') (n : Nat) : Below B w (w'.drewN n) := ⟨h.os, h.tape, h.output, h.size, h.block⟩
theorem bitIf_any (b : Bool) (k : Int) (w : World) : Calls Try.prog 16 #[.bool b, .int .u64 k] w fun e w' => e = .returned (.int .u64 (bi b k)) ∧ w' = w := by
  cases b
  · go_enter Try.func16, Try.ntmps16
    go_wp2
    go_ret
    exact ⟨rfl, rfl⟩
  · go_enter Try.func16, Try.ntmps16
    go_wp2
    go_ret
    exact ⟨rfl, rfl⟩
theorem wordMayBe_any (a : Int) (h0 : 0 ≤ a) (h1 : a < 18446744073709551616) (w : World) : Calls Try.prog 17 #[.int .u64 a] w fun e w' => e = .returned (.bool (mayW a)) ∧ w' = w := by
  cases k1 : fb a 1
  · cases k2 : fb a 2
    · rw [← word_n a h0 h1 k1 k2]
      unfold fb at k1 k2
      cases k3 : (bits .andNot .u64 a 0 == 0)
      · go_enter Try.func17, Try.ntmps17
        go_wp2
        go_ret
        exact ⟨rfl, rfl⟩
      · go_enter Try.func17, Try.ntmps17
        go_wp2
        go_ret
        exact ⟨rfl, rfl⟩
    · rw [← word_s a h0 h1 k1 k2]
      unfold fb at k1 k2
      cases k3 : (bits .andNot .u64 a 261902 == 0)
      · go_enter Try.func17, Try.ntmps17
        go_wp2
        go_ret
        exact ⟨rfl, rfl⟩
      · go_enter Try.func17, Try.ntmps17
        go_wp2
        go_ret
        exact ⟨rfl, rfl⟩
  · rw [← word_p a h0 h1 k1]
    unfold fb at k1
    cases k3 : (bits .andNot .u64 a 1048381 == 0)
    · go_enter Try.func17, Try.ntmps17
      go_wp2
      go_ret
      exact ⟨rfl, rfl⟩
    · go_enter Try.func17, Try.ntmps17
      go_wp2
      go_ret
      exact ⟨rfl, rfl⟩
theorem or_1 (p s : Bool) : bits .or .u64 (bi p 1) (bi s 2) = bi p 1 + bi s 2 := by revert p s; decide
theorem or_2 (p s r : Bool) : bits .or .u64 (bi p 1 + bi s 2) (bi r 4) = bi p 1 + bi s 2 + bi r 4 := by revert p s r; decide
theorem or_3 (p s r u : Bool) : bits .or .u64 (bi p 1 + bi s 2 + bi r 4) (bi u 8) = bi p 1 + bi s 2 + bi r 4 + bi u 8 := by revert p s r u; decide
theorem or_4 (p s r u a : Bool) : bits .or .u64 (bi p 1 + bi s 2 + bi r 4 + bi u 8) (bi a 16) = bi p 1 + bi s 2 + bi r 4 + bi u 8 + bi a 16 := by revert p s r u a; decide
theorem or_5 (p s r u a d : Bool) : bits .or .u64 (bi p 1 + bi s 2 + bi r 4 + bi u 8 + bi a 16) (bi d 32) = lo p s r u a d := by revert p s r u a d; decide
theorem or_6 (c t : Int) (h0 : 0 ≤ c) (h1 : c < 64) (h2 : 0 ≤ t) (h3 : t ≤ 4095) : bits .or .u64 c (t * 256) = c + t * 256 := by
  rw [u64_or c (t * 256) h0 (by omega) (by omega) (by omega), Nat.or_comm, nat_join 8 _ _ (by omega) (by omega)]
  omega
theorem Make_out (p s r u a d : Bool) (t : Int) (h : t < 0 ∨ 4095 < t) (w : World) : Calls Try.prog 7 #[.agg #[.bool p, .bool s, .bool r, .bool u, .bool a, .bool d, .int .i64 t]] w fun e w' => e = .returned (.tuple #[.int .u64 0, .int .i64 70]) ∧ Below w.heap.size w w' := by
  have hb := below_new w (.cells #[.bool p, .bool s, .bool r, .bool u, .bool a, .bool d, .int .i64 t] 23)
  by_cases h0 : t < 0
  · have h1 : decide (t < 0) = true := by simpa using h0
    clear h h0
    go_enter Try.func7, Try.ntmps7
    go_wp2
    go_ret2
    exact ⟨rfl, hb⟩
  · have h1 : decide (t < 0) = false := by simpa using h0
    have h2 : decide (4096 ≤ t) = true := by simp; omega
    clear h h0
    go_enter Try.func7, Try.ntmps7
    go_wp2
    go_ret2
    exact ⟨rfl, hb⟩
theorem Make_in (p s r u a d : Bool) (t : Int) (h0 : 0 ≤ t) (h1 : t ≤ 4095) (hm : may p s r u a d t = true) (w : World) : Calls Try.prog 7 #[.agg #[.bool p, .bool s, .bool r, .bool u, .bool a, .bool d, .int .i64 t]] w fun e w' => e = .returned (.tuple #[.int .u64 (lo p s r u a d + t * 256), .int .i64 0]) ∧ Below w.heap.size w w' := by
  have hb := below_new w (.cells #[.bool p, .bool s, .bool r, .bool u, .bool a, .bool d, .int .i64 t] 23)
  have hl := lo_range p s r u a d
  have hw := (mayW_word p s r u a d t h0 h1).trans hm
  have k1 := or_1 p s
  have k2 := or_2 p s r
  have k3 := or_3 p s r u
  have k4 := or_4 p s r u a
  have k5 := or_5 p s r u a d
  have k6 := or_6 (lo p s r u a d) t hl.1 hl.2 h0 h1
  have j1 : decide (t < 0) = false := by simp; omega
  have j2 : decide (4096 ≤ t) = false := by simp; omega
  clear hm
  go_enter Try.func7, Try.ntmps7
  go_wp2_with fail
  go_quiet ((go_at_call 16; exact Calls.quiet_of_same (bitIf_any _ _ _)))
  go_wp2_with fail
  refine (wordMayBe_any _ (by omega) (by omega) _).mono ?_
  rintro e w1 ⟨rfl, rfl⟩
  rw [hw]
  go_wp2
  go_ret2
  exact ⟨rfl, below_drewN hb _⟩
theorem Make_not (p s r u a d : Bool) (t : Int) (h0 : 0 ≤ t) (h1 : t ≤ 4095) (hm : may p s r u a d t = false) (w : World) : Calls Try.prog 7 #[.agg #[.bool p, .bool s, .bool r, .bool u, .bool a, .bool d, .int .i64 t]] w fun e w' => e = .returned (.tuple #[.int .u64 0, .int .i64 70]) ∧ Below w.heap.size w w' := by
  have hb := below_new w (.cells #[.bool p, .bool s, .bool r, .bool u, .bool a, .bool d, .int .i64 t] 23)
  have hl := lo_range p s r u a d
  have hw := (mayW_word p s r u a d t h0 h1).trans hm
  have k1 := or_1 p s
  have k2 := or_2 p s r
  have k3 := or_3 p s r u
  have k4 := or_4 p s r u a
  have k5 := or_5 p s r u a d
  have k6 := or_6 (lo p s r u a d) t hl.1 hl.2 h0 h1
  have j1 : decide (t < 0) = false := by simp; omega
  have j2 : decide (4096 ≤ t) = false := by simp; omega
  clear hm
  go_enter Try.func7, Try.ntmps7
  go_wp2_with fail
  go_quiet ((go_at_call 16; exact Calls.quiet_of_same (bitIf_any _ _ _)))
  go_wp2_with fail
  refine (wordMayBe_any _ (by omega) (by omega) _).mono ?_
  rintro e w1 ⟨rfl, rfl⟩
  rw [hw]
  go_wp2
  go_ret2
  exact ⟨rfl, below_drewN hb _⟩
theorem Make_ok (p s r u a d : Bool) (t : Int) (hm : may p s r u a d t = true) (w : World) : Calls Try.prog 7 #[.agg #[.bool p, .bool s, .bool r, .bool u, .bool a, .bool d, .int .i64 t]] w fun e w' => e = .returned (.tuple #[.int .u64 (lo p s r u a d + t * 256), .int .i64 0]) ∧ Below w.heap.size w w' :=
  Make_in p s r u a d t (may_range hm).1 (may_range hm).2 hm w
theorem Make_no (p s r u a d : Bool) (t : Int) (hm : may p s r u a d t = false) (w : World) : Calls Try.prog 7 #[.agg #[.bool p, .bool s, .bool r, .bool u, .bool a, .bool d, .int .i64 t]] w fun e w' => e = .returned (.tuple #[.int .u64 0, .int .i64 70]) ∧ Below w.heap.size w w' := by
  by_cases h : t < 0 ∨ 4095 < t
  · exact Make_out p s r u a d t h w
  · exact Make_not p s r u a d t (by omega) (by omega) hm w
/-- The errno of an entry. -/
def er (b : Bool) : Int := if b then 0 else 70
theorem Check_any (p s r u a d : Bool) (t : Int) (w : World) : Calls Try.prog 9 #[.agg #[.bool p, .bool s, .bool r, .bool u, .bool a, .bool d, .int .i64 t]] w fun e w' => e = .returned (.int .i64 (er (may p s r u a d t))) ∧ Below w.heap.size w w' := by
  have hb := below_new w (.cells #[.bool p, .bool s, .bool r, .bool u, .bool a, .bool d, .int .i64 t] 23)
  cases hm : may p s r u a d t
  · have C := Make_no p s r u a d t hm (w.alloc (.cells #[.bool p, .bool s, .bool r, .bool u, .bool a, .bool d, .int .i64 t] 23))
    go_enter Try.func9, Try.ntmps9
    go_wp2_with fail
    refine C.mono ?_
    rintro e w1 ⟨rfl, k⟩
    clear C
    go_wp2
    go_ret
    exact ⟨rfl, hb.trans (k.mono (by simp))⟩
  · have C := Make_ok p s r u a d t hm (w.alloc (.cells #[.bool p, .bool s, .bool r, .bool u, .bool a, .bool d, .int .i64 t] 23))
    go_enter Try.func9, Try.ntmps9
    go_wp2_with fail
    refine C.mono ?_
    rintro e w1 ⟨rfl, k⟩
    clear C
    go_wp2
    go_ret
    exact ⟨rfl, hb.trans (k.mono (by simp))⟩
theorem Read_no (n : Int) (h0 : 0 ≤ n) (h1 : n < 18446744073709551616) (hm : mayW n = false) (w : World) : Calls Try.prog 14 #[.int .u64 n] w fun e w' => e = .returned (.tuple #[.agg #[.bool false, .bool false, .bool false, .bool false, .bool false, .bool false, .int .i64 0], .int .i64 70]) ∧ Below w.heap.size w w' := by
  have hb := below_new w (.cells #[.bool false, .bool false, .bool false, .bool false, .bool false, .bool false, .int .i64 0] 23)
  go_enter Try.func14, Try.ntmps14
  go_wp2_with fail
  refine (wordMayBe_any _ h0 h1 _).mono ?_
  rintro e w1 ⟨rfl, rfl⟩
  rw [hm]
  go_wp2
  refine bodyPost_ret (v := .tuple #[.agg #[.bool false, .bool false, .bool false, .bool false, .bool false, .bool false, .int .i64 0], .int .i64 70]) (by simp [results, Try.results14, go_sem, *]) rfl ⟨rfl, ?_⟩
  exact below_new _ _
theorem Read_ok (n : Int) (h0 : 0 ≤ n) (h1 : n < 18446744073709551616) (hm : mayW n = true) (w : World) : Calls Try.prog 14 #[.int .u64 n] w fun e w' => e = .returned (.tuple #[.agg #[.bool (fb n 1), .bool (fb n 2), .bool (fb n 4), .bool (fb n 8), .bool (fb n 16), .bool (fb n 32), .int .i64 (n / 256)], .int .i64 0]) ∧ Below w.heap.size w w' := by
  have hb := below_new w (.cells #[.bool false, .bool false, .bool false, .bool false, .bool false, .bool false, .int .i64 0] 23)
  go_enter Try.func14, Try.ntmps14
  go_wp2_with fail
  refine (wordMayBe_any _ h0 h1 _).mono ?_
  rintro e w1 ⟨rfl, rfl⟩
  rw [hm]
  go_wp2
  refine bodyPost_ret (v := .tuple #[.agg #[.bool (fb n 1), .bool (fb n 2), .bool (fb n 4), .bool (fb n 8), .bool (fb n 16), .bool (fb n 32), .int .i64 (n / 256)], .int .i64 0]) (by simp [results, Try.results14, go_sem, fb, *]) rfl ⟨rfl, ?_⟩
  exact below_new _ _
end Go.Proofs.Ytinegjobjpmkcaa
