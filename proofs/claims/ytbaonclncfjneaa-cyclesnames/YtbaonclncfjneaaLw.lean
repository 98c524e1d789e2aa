/- The statements' own small functions: a number's remainder, and their trial 'awake'; no condition but the ranges. -/
import Derived.Test.YtbaonclncfjneaaRf
namespace Go.Proofs.Ytbaonclncfjneaa
open Go.ChangeShapes Go.WideShapes Go.ChangeAt Go.RowKit
set_option linter.unusedVariables false

theorem Within_any (k n : Int) (h0 : 0 < n) (h1 : n < 4611686018427387904) (hk0 : -9223372036854775808 ≤ k) (hk1 : k < 9223372036854775808) (w : World) :
    Calls Try.prog 15 #[.int .i64 k, .int .i64 n] w fun e w' => e = .returned (.int .i64 (k % n)) ∧ w' = w := by
  have h2 : -n < k.tmod n := Int.lt_tmod_of_pos k h0
  have h3 : k.tmod n < n := Int.tmod_lt_of_pos k h0
  have HE : Hid (k % n = if k.tmod n < 0 then k.tmod n + n else k.tmod n) := by
    unfold Hid
    have e : k % n = (k.tmod n) % n := by
      rw [Int.tmod_eq_emod]
      split
      · simp
      · rw [Int.natAbs_of_nonneg (by omega), Int.sub_emod_right, Int.emod_emod]
    rw [e]
    split
    · rw [← Int.add_emod_right]
      exact Int.emod_eq_of_lt (by omega) (by omega)
    · exact Int.emod_eq_of_lt (by omega) (by omega)
  rw [HE.out]
  clear HE
  by_cases hn : k.tmod n < 0
  · rw [if_pos hn]
    go_enter Try.func15, Try.ntmps15
    go_wp2
    go_ret
    exact ⟨rfl, rfl⟩
  · rw [if_neg hn]
    go_enter Try.func15, Try.ntmps15
    go_wp2
    go_ret
    exact ⟨rfl, rfl⟩
theorem okA (q : Int) (h : 0 ≤ q) (h2 : q ≤ 100) : Ok 100 10 2 q := ⟨by omega, by omega, by omega, by omega, by omega, by omega, by omega, by omega, by omega⟩
theorem Calls.ends {f : FuncId} {args : Array Value} {w : World} {Q R : Ending → World → Prop} (h : Calls Try.prog f args w Q) (i : ∀ e w', Q e w' → R e w') : Calls Try.prog f args w R := h.mono i
set_option maxRecDepth 100000 in
set_option maxHeartbeats 1000000 in
theorem awake_any (w : World) : Calls Try.prog 9 #[] w fun e w' => e = .returned (.bool true) ∧ Below w.heap.size w w' := by
  go_enter Try.func9, Try.ntmps9
  go_wp2_with fail
  refine (New_ok 100 10 2 (by decide) w).mono ?_
  rintro e w1 ⟨p, rfl, hC, hG, hp⟩
  have C1 : Hid (Ctr 58 w1 p 100 10 2 0) := hC
  have G1 : Hid (w.grownBy w1 none) := hG
  clear hC hG
  go_wp2_with fail
  refine (Spend_ok C1.out (okA 0 (by omega) (by omega)) 60 (by omega) (by decide)).mono ?_
  rintro e w2 ⟨rfl, hC, hG⟩
  have C2 : Hid (Ctr 58 w2 p 100 10 2 60) := hC
  have B2 : Hid (Below w.heap.size w w2) := ((Below.refl _ _).grown G1.out (Nat.le_refl _) (by simp)).grown hG G1.out.size (fun t ht => by injection ht; omega)
  clear hC hG C1 G1
  go_wp2_with fail
  refine (Spend_no C2.out (okA 60 (by omega) (by omega)) 41 (by decide)).mono ?_
  rintro e w3 ⟨rfl, hC, hG⟩
  have C3 : Hid (Ctr 58 w3 p 100 10 2 60) := hC
  have B3 : Hid (Below w.heap.size w w3) := B2.out.grown hG B2.out.size (fun t ht => by injection ht; omega)
  clear hC hG C2 B2
  go_wp2_with fail
  refine (Left_any C3.out (okA 60 (by omega) (by omega))).mono ?_
  rintro e w4 ⟨he, m, hw⟩
  rw [show lf 100 2 60 = 40 by decide] at he
  subst he
  have C4 : Hid (Ctr 58 w4 p 100 10 2 60) := by rw [hw]; exact C3.out.drew m
  have B4 : Hid (Below w.heap.size w w4) := by rw [hw]; exact below_drewN B3.out m
  clear C3 B3 hw
  go_wp2_with fail
  refine (Switch_ok C4.out (okA 60 (by omega) (by omega)) 10 (by decide) (by decide)).mono ?_
  rintro e w5 ⟨rfl, hC, hG⟩
  have C5 : Hid (Ctr 58 w5 p 100 10 3 0) := hC
  have B5 : Hid (Below w.heap.size w w5) := B4.out.grown hG B4.out.size (fun t ht => by injection ht; omega)
  have O5 : Hid (Ok 100 10 3 0) := ⟨by omega, by omega, by omega, by omega, by omega, by omega, by omega, by omega, by omega⟩
  clear hC hG C4 B4
  have N5 : Hid (∀ m, Calls Try.prog 10 #[.pointer (some ⟨p, 0, none⟩)] (w5.drewN m) fun e w' => e = .returned (.int .u64 330) ∧ ∃ m', w' = (w5.drewN m).drewN m') := fun m => Now_any (C5.out.drew m) O5.out
  have L5 : Hid (∀ m, Calls Try.prog 13 #[.pointer (some ⟨p, 0, none⟩)] (w5.drewN m) fun e w' => e = .returned (.int .u64 100) ∧ ∃ m', w' = (w5.drewN m).drewN m') := fun m => Left_any (C5.out.drew m) O5.out
  go_wp2_with fail
  refine (N5.out 0).mono ?_
  rintro e w6 ⟨rfl, m, rfl⟩
  go_wp2_with fail
  refine (L5.out _).mono ?_
  rintro e w7 ⟨rfl, m', rfl⟩
  go_wp2_with fail
  refine (Number_any (C5.out.drew _) (by omega)).mono ?_
  rintro e w' ⟨rfl, rfl⟩
  go_wp2
  go_ret
  exact ⟨rfl, below_drewN B5.out _⟩
end Go.Proofs.Ytbaonclncfjneaa
