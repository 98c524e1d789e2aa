/- The statements' awake, and EntryReads: of every word the program's Read and the reference's answer alike. -/
import Derived.Test.YtinegjobjpmkcaaRf
namespace Go.Proofs.Ytinegjobjpmkcaa
open Go.ChangeShapes Go.WideShapes Go.ChangeAt Go.RowKit
set_option linter.unusedVariables false

theorem awake_any (w : World) : Calls Try.prog 13 #[] w fun e w' => e = .returned (.bool true) ∧ Below w.heap.size w w' := by
  have CM : ∀ w, Hid (Calls Try.prog 7 #[.agg #[.bool true, .bool false, .bool true, .bool false, .bool false, .bool false, .int .i64 5]] w fun e w' => e = .returned (.tuple #[.int .u64 1285, .int .i64 0]) ∧ Below w.heap.size w w') := fun w => Make_ok true false true false false false 5 (by decide) w
  have CR : ∀ w, Hid (Calls Try.prog 14 #[.int .u64 1285] w fun e w' => e = .returned (.tuple #[.agg #[.bool true, .bool false, .bool true, .bool false, .bool false, .bool false, .int .i64 5], .int .i64 0]) ∧ Below w.heap.size w w') := fun w => by
    have h := Read_ok 1285 (by decide) (by decide) (by decide +kernel) w
    rw [show fb 1285 1 = true by decide +kernel, show fb 1285 2 = false by decide +kernel, show fb 1285 4 = true by decide +kernel, show fb 1285 8 = false by decide +kernel, show fb 1285 16 = false by decide +kernel, show fb 1285 32 = false by decide +kernel, show (1285 : Int) / 256 = 5 by decide] at h
    exact h
  have CA : ∀ w, Hid (Calls Try.prog 11 #[.agg #[.bool true, .bool false, .bool true, .bool false, .bool false, .bool false, .int .i64 5], .bool true] w fun e w' => e = .returned (.tuple #[.int .u8 3, .int .i64 0]) ∧ Below w.heap.size w w') := fun w => Allows_ok true false true false false false 5 true (by decide) w
  have hq := eq_run true false true false false false 5 true false true false false false 5
  rw [eqE_self] at hq
  go_enter Try.func13, Try.ntmps13
  go_wp2_with fail
  refine (CM _).out.mono ?_
  rintro e w1 ⟨rfl, k1⟩
  have K1 : Hid (Below w.heap.size w w1) := k1
  clear k1 CM
  go_wp2_with fail
  refine (CR _).out.mono ?_
  rintro e w2 ⟨rfl, k2⟩
  have K2 : Hid (Below w.heap.size w w2) := K1.out.trans (k2.mono K1.out.size)
  clear k2 K1 CR
  go_wp2_with fail
  have S3 : Hid (Sev (w2.alloc (.cells #[.bool true, .bool false, .bool true, .bool false, .bool false, .bool false, .int .i64 5] 23)) w2.heap.size true false true false false false 5) := sev_new w2 true false true false false false 5
  have K3 : Hid (Below w.heap.size w (w2.alloc (.cells #[.bool true, .bool false, .bool true, .bool false, .bool false, .bool false, .int .i64 5] 23))) := K2.out.alloc K2.out.size _
  generalize (w2.alloc (.cells #[.bool true, .bool false, .bool true, .bool false, .bool false, .bool false, .int .i64 5] 23)) = w3 at *
  generalize w2.heap.size = b2 at *
  refine (CA _).out.mono ?_
  rintro e w4 ⟨rfl, k4⟩
  have K4 : Hid (Below w.heap.size w w4) := K3.out.trans (k4.mono K3.out.size)
  obtain ⟨_, c0, c1, c2, c3, c4, c5, c6⟩ := S3.out.below k4
  clear k4 K3 K2 S3 CA
  go_wp2
  go_ret
  exact ⟨rfl, K4.out⟩
theorem reads_any (n : Int) (h0 : 0 ≤ n) (h1 : n < 18446744073709551616) (w : World) : Calls Try.prog 4 #[.int .u64 n] w fun e w' => e = .returned (.bool true) ∧ Below w.heap.size w w' := by
  obtain ⟨p, s, r, u, a, d, t, er, C1, C2⟩ : ∃ p s r u a d t er, (∀ w, Hid (Calls Try.prog 14 #[.int .u64 n] w fun e w' => e = .returned (.tuple #[.agg #[.bool p, .bool s, .bool r, .bool u, .bool a, .bool d, .int .i64 t], .int .i64 er]) ∧ Below w.heap.size w w')) ∧ (∀ w, Hid (Calls Try.prog 15 #[.int .u64 n] w fun e w' => e = .returned (.tuple #[.agg #[.bool p, .bool s, .bool r, .bool u, .bool a, .bool d, .int .i64 t], .int .i64 er]) ∧ Below w.heap.size w w')) := by
    cases hm : mayW n
    · exact ⟨_, _, _, _, _, _, _, _, fun w => Read_no n h0 h1 hm w, fun w => rRead_no n h0 h1 hm w⟩
    · exact ⟨_, _, _, _, _, _, _, _, fun w => Read_ok n h0 h1 hm w, fun w => rRead_ok n h0 h1 hm w⟩
  have hq := eq_run p s r u a d t p s r u a d t
  rw [eqE_self] at hq
  go_enter Try.func4, Try.ntmps4
  go_wp2_with fail
  refine (C1 _).out.mono ?_
  rintro e w1 ⟨rfl, k1⟩
  have K1 : Hid (Below w.heap.size w w1) := k1
  clear k1 C1
  go_wp2_with fail
  have S2 : Hid (Sev (w1.alloc (.cells #[.bool p, .bool s, .bool r, .bool u, .bool a, .bool d, .int .i64 t] 23)) w1.heap.size p s r u a d t) := sev_new w1 p s r u a d t
  have K2 : Hid (Below w.heap.size w (w1.alloc (.cells #[.bool p, .bool s, .bool r, .bool u, .bool a, .bool d, .int .i64 t] 23))) := K1.out.alloc K1.out.size _
  generalize (w1.alloc (.cells #[.bool p, .bool s, .bool r, .bool u, .bool a, .bool d, .int .i64 t] 23)) = w2 at *
  generalize w1.heap.size = b1 at *
  refine (C2 _).out.mono ?_
  rintro e w3 ⟨rfl, k3⟩
  have K3 : Hid (Below w.heap.size w w3) := K2.out.trans (k3.mono K2.out.size)
  have S3 : Hid (Sev w3 b1 p s r u a d t) := S2.out.below k3
  clear k3 K2 K1 S2 C2
  have S4 : Hid (Sev (w3.alloc (.cells #[.bool p, .bool s, .bool r, .bool u, .bool a, .bool d, .int .i64 t] 23)) w3.heap.size p s r u a d t) := sev_new w3 p s r u a d t
  have S5 : Hid (Sev (w3.alloc (.cells #[.bool p, .bool s, .bool r, .bool u, .bool a, .bool d, .int .i64 t] 23)) b1 p s r u a d t) := S3.out.below (below_new _ _)
  have K4 : Hid (Below w.heap.size w (w3.alloc (.cells #[.bool p, .bool s, .bool r, .bool u, .bool a, .bool d, .int .i64 t] 23))) := K3.out.alloc K3.out.size _
  obtain ⟨_, c0, c1, c2, c3, c4, c5, c6⟩ := S5.out
  obtain ⟨_, d0, d1, d2, d3, d4, d5, d6⟩ := S4.out
  clear S3 S4 S5 K3
  go_wp2_with fail
  refine (awake_any _).mono ?_
  rintro e w5 ⟨rfl, k5⟩
  have K5 : Hid (Below w.heap.size w w5) := K4.out.trans (k5.mono K4.out.size)
  go_wp2
  go_ret
  exact ⟨rfl, K5.out⟩
end Go.Proofs.Ytinegjobjpmkcaa
