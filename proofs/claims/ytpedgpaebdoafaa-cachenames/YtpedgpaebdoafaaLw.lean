/- The statements' own small functions: a number's remainder, a small cache, and their trial 'awake'. -/
import Derived.Test.YtpedgpaebdoafaaLi
import Derived.Deep.QuietTactic
import Derived.BigQuiet
namespace Go.Proofs.Ytpedgpaebdoafaa
open Go.ChangeShapes Go.WideShapes Go.ChangeAt Go.RowKit
set_option linter.unusedVariables false

theorem Within_any (k n : Int) (h0 : 0 < n) (h1 : n < 4611686018427387904) (hk0 : -9223372036854775808 ≤ k) (hk1 : k < 9223372036854775808) (w : World) :
    Calls Try.prog 13 #[.int .i64 k, .int .i64 n] w fun e w' => e = .returned (.int .i64 (k % n)) ∧ w' = w := by
  have h2 : -n < k.tmod n := Int.lt_tmod_of_pos k h0
  have h3 : k.tmod n < n := Int.tmod_lt_of_pos k h0
  have HE : Hid (k % n = if k.tmod n < 0 then k.tmod n + n else k.tmod n) := by
    unfold Hid
    have e : k % n = (k.tmod n) % n := by
      rw [Int.tmod_eq_emod]
      split
      · simp
      · rw [Int.natAbs_of_nonneg (by omega), Int.sub_emod_right, Int.emod_emod]
    rw [e]
    split
    · rw [← Int.add_emod_right]
      exact Int.emod_eq_of_lt (by omega) (by omega)
    · exact Int.emod_eq_of_lt (by omega) (by omega)
  rw [HE.out]
  clear HE
  by_cases hn : k.tmod n < 0
  · rw [if_pos hn]
    go_enter Try.func13, Try.ntmps13
    go_wp2
    go_ret
    exact ⟨rfl, rfl⟩
  · rw [if_neg hn]
    go_enter Try.func13, Try.ntmps13
    go_wp2
    go_ret
    exact ⟨rfl, rfl⟩
theorem aw1 : decide ((7 : Int) ∈ (fun _ => [] : Nat → List Int) 1) = false := by decide
theorem aw2 : decide ((8 : Int) ∈ put (fun _ => []) 1 (tch 2 7 []) 1) = false := by decide
theorem aw3 : decide ((7 : Int) ∈ put (put (fun _ => []) 1 (tch 2 7 [])) 1 (tch 2 8 (put (fun _ => []) 1 (tch 2 7 []) 1)) 1) = true := by decide
/-- A touch, of a cache whose set is known. -/
theorem Touch_at {w : World} {F : Nat → Prop} {p n ways : Nat} {f : Nat → List Int} (h : Ca w F p n ways f) (i : Nat) (hi : i < n) (t : Int) (h0 : 0 ≤ t) (h1 : t < 18446744073709551616) (l l' : List Int) (b : Bool) (hf : f i = l) (hl : tch ways t l = l') (hb : decide (t ∈ l) = b) :
    Calls Try.prog 14 #[.pointer (some ⟨p, 0, none⟩), .int .i64 i, .int .u64 t] w fun e w' => e = .returned (.tuple #[.bool b, .int .i64 0]) ∧ ∃ F', Ca w' F' p n ways (put f i l') ∧ Kp F F' w w' := by
  have := Touch_ok h i hi t h0 h1
  unfold Tch at this
  rw [hf, hl, hb] at this
  exact this
set_option maxRecDepth 100000 in
set_option maxHeartbeats 1000000 in
theorem awake_any (w : World) : Calls Try.prog 10 #[] w fun e w' => e = .returned (.bool true) ∧ Below w.heap.size w w' := by
  go_enter Try.func10, Try.ntmps10
  go_wp2_with fail
  refine (New_ok 2 2 (by omega) (by omega) (by omega) (by omega) (by decide) w).mono ?_
  rintro e w1 ⟨p, F1, rfl, hC, hK⟩
  have C1 : Hid (Ca w1 F1 p 2 2 _) := hC
  have K1 : Hid (Kp (fun _ => False) F1 w w1) := hK
  clear hC hK
  go_wp2_with fail
  refine (Touch_at C1.out 1 (by omega) 7 (by omega) (by omega) [] [7] false rfl (by decide) (by decide)).mono ?_
  rintro e w2 ⟨rfl, F2, hC, hK⟩
  have C2 : Hid (Ca w2 F2 p 2 2 _) := hC
  have K2 : Hid (Kp (fun _ => False) F2 w w2) := K1.out.trans hK
  clear hC hK C1 K1
  go_wp2_with fail
  refine (Touch_at C2.out 1 (by omega) 8 (by omega) (by omega) [7] [8, 7] false rfl (by decide) (by decide)).mono ?_
  rintro e w3 ⟨rfl, F3, hC, hK⟩
  have C3 : Hid (Ca w3 F3 p 2 2 _) := hC
  have K3 : Hid (Kp (fun _ => False) F3 w w3) := K2.out.trans hK
  clear hC hK C2 K2
  go_wp2_with fail
  refine (Touch_at C3.out 1 (by omega) 7 (by omega) (by omega) [8, 7] [7, 8] true rfl (by decide) (by decide)).mono ?_
  rintro e w4 ⟨rfl, F4, hC, hK⟩
  have C4 : Hid (Ca w4 F4 p 2 2 _) := hC
  have K4 : Hid (Kp (fun _ => False) F4 w w4) := K3.out.trans hK
  clear hC hK C3 K3
  go_wp2_with fail
  refine (Touch_at C4.out 1 (by omega) 9 (by omega) (by omega) [7, 8] [9, 7] false rfl (by decide) (by decide)).mono ?_
  rintro e w5 ⟨rfl, F5, hC, hK⟩
  have C5 : Hid (Ca w5 F5 p 2 2 _) := hC
  have K5 : Hid (Kp (fun _ => False) F5 w w5) := K4.out.trans hK
  clear hC hK C4 K4
  have H8 : Hid (Calls _ _ _ _ _) := Has_ok C5.out 1 (by omega) 8
  rw [put_same, show decide ((8 : Int) ∈ [9, 7]) = false by decide] at H8
  have H7 : Hid (Calls _ _ _ _ _) := Has_ok C5.out 1 (by omega) 7
  rw [put_same, show decide ((7 : Int) ∈ [9, 7]) = true by decide] at H7
  have HN : Hid (Calls _ _ _ _ _) := Count_ok C5.out
  rw [show cnt (put (put (put (put (fun _ => []) 1 [7]) 1 [8, 7]) 1 [7, 8]) 1 [9, 7]) 2 = 2 by decide] at HN
  go_wp2_with fail
  refine H8.out.mono ?_
  rintro e w' ⟨rfl, rfl⟩
  go_wp2_with fail
  refine H7.out.mono ?_
  rintro e w' ⟨rfl, rfl⟩
  go_wp2_with fail
  refine HN.out.mono ?_
  rintro e w' ⟨rfl, rfl⟩
  go_wp2
  go_ret
  exact ⟨rfl, K5.out.below _ (Nat.le_refl _) (fun k h => h.elim)⟩
/-- What made gives: a small cache. -/
def Mad (w : World) (n ways : Nat) (e : Ending) (w' : World) : Prop := ∃ p F, e = .returned (.tuple #[.pointer (some ⟨p, 0, none⟩), .int .i64 n, .int .i64 ways]) ∧ Ca w' F p n ways (fun _ => []) ∧ Kp (fun _ => False) F w w'
theorem made_of (k ways : Int) (r s : Nat) (hr : r < 5) (hs : s < 8) (hk0 : -9223372036854775808 ≤ k) (hk1 : k < 9223372036854775808) (hw0 : -9223372036854775808 ≤ ways) (hw1 : ways < 9223372036854775808) (er : k % 5 = r) (es : ways % 8 = s) (w : World) :
    Calls Try.prog 12 #[.int .i64 k, .int .i64 ways] w (Mad w (2 ^ r) (1 + s)) := by
  have C1 : Hid (Calls _ _ _ _ _) := Within_any k 5 (by omega) (by omega) hk0 hk1 w
  have C2 : Hid (Calls _ _ _ _ _) := Within_any ways 8 (by omega) (by omega) hw0 hw1 w
  rw [er] at C1
  rw [es] at C2
  have p1 : 1 ≤ 2 ^ r := Nat.one_le_two_pow
  have p2 : 2 ^ r ≤ 16 := by
    have : r = 0 ∨ r = 1 ∨ r = 2 ∨ r = 3 ∨ r = 4 := by omega
    rcases this with rfl | rfl | rfl | rfl | rfl <;> decide
  have C3 : Hid (Calls _ _ _ _ _) := New_ok (2 ^ r) (1 + s) p1 (by omega) (by omega) (by omega) (by
    have : r = 0 ∨ r = 1 ∨ r = 2 ∨ r = 3 ∨ r = 4 := by omega
    rcases this with rfl | rfl | rfl | rfl | rfl <;> decide) w
  have e1 : ((1 + s : Nat) : Int) = 1 + (s : Int) := by omega
  have HQ : Hid (∀ (e : Ending) (w' : World), Mad w (2 ^ r) (1 + s) e w' → Mad w (2 ^ r) (1 + s) e w') := fun _ _ h => h
  clear er es
  have : r = 0 ∨ r = 1 ∨ r = 2 ∨ r = 3 ∨ r = 4 := by omega
  rcases this with rfl | rfl | rfl | rfl | rfl <;>
  ( go_enter Try.func12, Try.ntmps12
    go_wp2_with fail
    refine C1.out.mono ?_
    rintro e w' ⟨rfl, rfl⟩
    go_wp2_with fail
    refine C2.out.mono ?_
    rintro e w' ⟨rfl, rfl⟩
    go_wp2_with fail
    rw [e1] at C3
    refine C3.out.mono ?_
    rintro e w1 ⟨p, F, rfl, hC, hK⟩
    go_wp2
    go_ret3
    refine ⟨p, F, ?_, hC, hK⟩
    rw [e1]
    rfl )
end Go.Proofs.Ytpedgpaebdoafaa
