/- There and back: for every page, frame and offset Split undoes Join, Frame undoes Place, a page's entries are its digits to the base 32 and the tables hang on one another; no condition. -/
import Derived.Test.YthmcempfiimkkaaWorks
namespace Go.Proofs.Ythmcempfiimkkaa
open Go.ChangeShapes Go.WideShapes Go.ChangeAt Go.RowKit
set_option linter.unusedVariables false

theorem Split_join (p o : Int) (h0 : 0 ≤ p) (h1 : p < 1048576) (h2 : 0 ≤ o) (h3 : o < 256) (w : World) :
    Calls Try.prog 9 #[.int .u64 (p * 256 + o)] w fun e w' => e = .returned (.tuple #[.int .i64 p, .int .i64 o, .int .i64 0]) ∧ w' = w := by
  have h := Split_ok (p * 256 + o) (by omega) (by omega) w
  rw [show (p * 256 + o) / 256 = p by omega, show (p * 256 + o) % 256 = o by omega] at h
  exact h
theorem Frame_place (f o : Int) (h0 : 0 ≤ f) (h1 : f < 4096) (h2 : 0 ≤ o) (h3 : o < 256) (w : World) :
    Calls Try.prog 24 #[.int .u64 (f * 256 + o)] w fun e w' => e = .returned (.tuple #[.int .i64 f, .int .i64 o, .int .i64 0]) ∧ w' = w := by
  have h := Frame_ok (f * 256 + o) (by omega) (by omega) w
  rw [show (f * 256 + o) / 256 = f by omega, show (f * 256 + o) % 256 = o by omega] at h
  exact h
theorem Line_of (a r : Int) (h0 : 0 ≤ a) (h1 : a < 1048576) (hr : a / 16 = r) (w : World) :
    Calls Try.prog 26 #[.int .u64 a] w fun e w' => e = .returned (.tuple #[.int .i64 r, .int .i64 0]) ∧ w' = w := by
  have h := Line_ok a h0 h1 w
  rw [hr] at h
  exact h
def dig (p : Int) : Nat → Int
  | 0 => 0
  | 1 => p / 32768
  | 2 => p / 1024
  | 3 => p / 32
  | _ => p

set_option maxHeartbeats 1000000 in
theorem back_no (p f o : Int) (hn : Hid (¬ (0 ≤ p ∧ p < 1048576 ∧ 0 ≤ o ∧ o < 256))) (hm : Hid (¬ (0 ≤ f ∧ f < 4096 ∧ 0 ≤ o ∧ o < 256))) (w : World) :
    Calls Try.prog 8 #[.int .i64 p, .int .i64 f, .int .i64 o] w fun e w' => e = .returned (.bool true) ∧ Below w.heap.size w w' := by
  go_enter Try.func8, Try.ntmps8
  go_wp2_with (first
    | (go_at_call 13; refine (works_any _).mono ?_; rintro e w' ⟨rfl, hb⟩)
    | (go_at_call 11; refine (Join_no _ _ hn _).mono ?_; rintro e w' ⟨rfl, rfl⟩)
    | (go_at_call 22; refine (Place_no _ _ hm _).mono ?_; rintro e w' ⟨rfl, rfl⟩))
  go_ret
  exact ⟨rfl, by assumption⟩
set_option maxHeartbeats 1000000 in
theorem back_nf (p f o : Int) (hn : Hid (¬ (0 ≤ p ∧ p < 1048576 ∧ 0 ≤ o ∧ o < 256))) (h0 : 0 ≤ f) (h1 : f < 4096) (h2 : 0 ≤ o) (h3 : o < 256) (w : World) :
    Calls Try.prog 8 #[.int .i64 p, .int .i64 f, .int .i64 o] w fun e w' => e = .returned (.bool true) ∧ Below w.heap.size w w' := by
  go_enter Try.func8, Try.ntmps8
  go_wp2_with (first
    | (go_at_call 13; refine (works_any _).mono ?_; rintro e w' ⟨rfl, hb⟩)
    | (go_at_call 11; refine (Join_no _ _ hn _).mono ?_; rintro e w' ⟨rfl, rfl⟩)
    | (go_at_call 22; refine (Place_ok _ _ h0 h1 h2 h3 _).mono ?_; rintro e w' ⟨rfl, rfl⟩)
    | (go_at_call 24; refine (Frame_place _ _ h0 h1 h2 h3 _).mono ?_; rintro e w' ⟨rfl, rfl⟩)
    | (go_at_call 26; refine (Line_of _ (16 * f + o / 16) (by omega) (by omega) (by omega) _).mono ?_; rintro e w' ⟨rfl, rfl⟩))
  go_ret
  exact ⟨rfl, by assumption⟩
set_option maxRecDepth 100000 in
set_option maxHeartbeats 2000000 in
theorem back_pf (p f o : Int) (h0 : 0 ≤ p) (h1 : p < 1048576) (h2 : 0 ≤ o) (h3 : o < 256) (g0 : 0 ≤ f) (g1 : f < 4096) (w : World) :
    Calls Try.prog 8 #[.int .i64 p, .int .i64 f, .int .i64 o] w fun e w' => e = .returned (.bool true) ∧ Below w.heap.size w w' := by
  go_enter Try.func8, Try.ntmps8
  go_wp2_with (first
    | (go_at_call 13; refine (works_any _).mono ?_; rintro e w' ⟨rfl, hb⟩)
    | (go_at_call 11; refine (Join_ok _ _ h0 h1 h2 h3 _).mono ?_; rintro e w' ⟨rfl, rfl⟩)
    | (go_at_call 9; refine (Split_join _ _ h0 h1 h2 h3 _).mono ?_; rintro e w' ⟨rfl, rfl⟩))
  go_loop [12, 13] (fun d l => ∃ j : Nat, j ≤ 4 ∧ l = .int .i64 (3 - (j : Int)) ∧ d = .int .i64 (dig p j)) (fun _ l => (intOf l + 1).toNat)
  case atStart => exact ⟨0, by omega, rfl, rfl⟩
  case round =>
    obtain ⟨j, hj, rfl, rfl⟩ := hrel
    rcases (show j = 0 ∨ j = 1 ∨ j = 2 ∨ j = 3 ∨ j = 4 by omega) with rfl | rfl | rfl | rfl | rfl
    · have hd : dig p 0 = 0 := rfl
      have t1 : ((p / 1048576 : Int) != 0) = false := by simp; omega
      go_wp2_with (first
        | (go_at_call 14; refine (Index_3 _ h0 h1 _).mono ?_; rintro e w' ⟨rfl, rfl⟩)
        | (go_at_call 16; refine (Table_3 _ h0 h1 _).mono ?_; rintro e w' ⟨rfl, rfl⟩))
      go_round
      case rel => exact ⟨1, by omega, by go_num, congrArg (Value.int .i64) (by simp only [dig]; omega)⟩
      case measure => simp [intOf]
    · have hd : dig p 1 = p / 32768 := rfl
      have t1 : ((p / 32768 : Int) != p / 32768) = false := by simp
      go_wp2_with (first
        | (go_at_call 14; refine (Index_2 _ h0 h1 _).mono ?_; rintro e w' ⟨rfl, rfl⟩)
        | (go_at_call 16; refine (Table_2 _ h0 h1 _).mono ?_; rintro e w' ⟨rfl, rfl⟩))
      go_round
      case rel => exact ⟨2, by omega, by go_num, congrArg (Value.int .i64) (by simp only [dig]; omega)⟩
      case measure => simp [intOf]
    · have hd : dig p 2 = p / 1024 := rfl
      have t1 : ((p / 1024 : Int) != p / 1024) = false := by simp
      go_wp2_with (first
        | (go_at_call 14; refine (Index_1 _ h0 h1 _).mono ?_; rintro e w' ⟨rfl, rfl⟩)
        | (go_at_call 16; refine (Table_1 _ h0 h1 _).mono ?_; rintro e w' ⟨rfl, rfl⟩))
      go_round
      case rel => exact ⟨3, by omega, by go_num, congrArg (Value.int .i64) (by simp only [dig]; omega)⟩
      case measure => simp [intOf]
    · have hd : dig p 3 = p / 32 := rfl
      have t1 : ((p / 32 : Int) != p / 32) = false := by simp
      go_wp2_with (first
        | (go_at_call 14; refine (Index_0 _ h0 h1 _).mono ?_; rintro e w' ⟨rfl, rfl⟩)
        | (go_at_call 16; refine (Table_0 _ h0 h1 _).mono ?_; rintro e w' ⟨rfl, rfl⟩))
      go_round
      case rel => exact ⟨4, by omega, by go_num, congrArg (Value.int .i64) (by simp only [dig]; omega)⟩
      case measure => simp [intOf]
    · have hd : dig p 4 = p := rfl
      go_wp2_with (first
        | (go_at_call 22; refine (Place_ok _ _ g0 g1 h2 h3 _).mono ?_; rintro e w' ⟨rfl, rfl⟩)
        | (go_at_call 24; refine (Frame_place _ _ g0 g1 h2 h3 _).mono ?_; rintro e w' ⟨rfl, rfl⟩)
        | (go_at_call 26; refine (Line_of _ (16 * f + o / 16) (by omega) (by omega) (by omega) _).mono ?_; rintro e w' ⟨rfl, rfl⟩))
      go_ret
      exact ⟨rfl, by assumption⟩
set_option maxRecDepth 100000 in
set_option maxHeartbeats 2000000 in
theorem back_po (p f o : Int) (h0 : 0 ≤ p) (h1 : p < 1048576) (h2 : 0 ≤ o) (h3 : o < 256) (hm : Hid (¬ (0 ≤ f ∧ f < 4096 ∧ 0 ≤ o ∧ o < 256))) (w : World) :
    Calls Try.prog 8 #[.int .i64 p, .int .i64 f, .int .i64 o] w fun e w' => e = .returned (.bool true) ∧ Below w.heap.size w w' := by
  go_enter Try.func8, Try.ntmps8
  go_wp2_with (first
    | (go_at_call 13; refine (works_any _).mono ?_; rintro e w' ⟨rfl, hb⟩)
    | (go_at_call 11; refine (Join_ok _ _ h0 h1 h2 h3 _).mono ?_; rintro e w' ⟨rfl, rfl⟩)
    | (go_at_call 9; refine (Split_join _ _ h0 h1 h2 h3 _).mono ?_; rintro e w' ⟨rfl, rfl⟩))
  go_loop [12, 13] (fun d l => ∃ j : Nat, j ≤ 4 ∧ l = .int .i64 (3 - (j : Int)) ∧ d = .int .i64 (dig p j)) (fun _ l => (intOf l + 1).toNat)
  case atStart => exact ⟨0, by omega, rfl, rfl⟩
  case round =>
    obtain ⟨j, hj, rfl, rfl⟩ := hrel
    rcases (show j = 0 ∨ j = 1 ∨ j = 2 ∨ j = 3 ∨ j = 4 by omega) with rfl | rfl | rfl | rfl | rfl
    · have hd : dig p 0 = 0 := rfl
      have t1 : ((p / 1048576 : Int) != 0) = false := by simp; omega
      go_wp2_with (first
        | (go_at_call 14; refine (Index_3 _ h0 h1 _).mono ?_; rintro e w' ⟨rfl, rfl⟩)
        | (go_at_call 16; refine (Table_3 _ h0 h1 _).mono ?_; rintro e w' ⟨rfl, rfl⟩))
      go_round
      case rel => exact ⟨1, by omega, by go_num, congrArg (Value.int .i64) (by simp only [dig]; omega)⟩
      case measure => simp [intOf]
    · have hd : dig p 1 = p / 32768 := rfl
      have t1 : ((p / 32768 : Int) != p / 32768) = false := by simp
      go_wp2_with (first
        | (go_at_call 14; refine (Index_2 _ h0 h1 _).mono ?_; rintro e w' ⟨rfl, rfl⟩)
        | (go_at_call 16; refine (Table_2 _ h0 h1 _).mono ?_; rintro e w' ⟨rfl, rfl⟩))
      go_round
      case rel => exact ⟨2, by omega, by go_num, congrArg (Value.int .i64) (by simp only [dig]; omega)⟩
      case measure => simp [intOf]
    · have hd : dig p 2 = p / 1024 := rfl
      have t1 : ((p / 1024 : Int) != p / 1024) = false := by simp
      go_wp2_with (first
        | (go_at_call 14; refine (Index_1 _ h0 h1 _).mono ?_; rintro e w' ⟨rfl, rfl⟩)
        | (go_at_call 16; refine (Table_1 _ h0 h1 _).mono ?_; rintro e w' ⟨rfl, rfl⟩))
      go_round
      case rel => exact ⟨3, by omega, by go_num, congrArg (Value.int .i64) (by simp only [dig]; omega)⟩
      case measure => simp [intOf]
    · have hd : dig p 3 = p / 32 := rfl
      have t1 : ((p / 32 : Int) != p / 32) = false := by simp
      go_wp2_with (first
        | (go_at_call 14; refine (Index_0 _ h0 h1 _).mono ?_; rintro e w' ⟨rfl, rfl⟩)
        | (go_at_call 16; refine (Table_0 _ h0 h1 _).mono ?_; rintro e w' ⟨rfl, rfl⟩))
      go_round
      case rel => exact ⟨4, by omega, by go_num, congrArg (Value.int .i64) (by simp only [dig]; omega)⟩
      case measure => simp [intOf]
    · have hd : dig p 4 = p := rfl
      go_wp2_with (first
        | (go_at_call 22; refine (Place_no _ _ hm _).mono ?_; rintro e w' ⟨rfl, rfl⟩))
      go_ret
      exact ⟨rfl, by assumption⟩

theorem walkBack (p f o : Int) (w0 : (Lit.int .i64 p).wf = true) (w1 : (Lit.int .i64 f).wf = true) (w2 : (Lit.int .i64 o).wf = true) (w : World) :
    Calls Try.prog 8 #[.int .i64 p, .int .i64 f, .int .i64 o] w fun e w' => e = .returned (.bool true) ∧ Below w.heap.size w w' := by
  have b0 := bounds_i64 w0
  have b1 := bounds_i64 w1
  have b2 := bounds_i64 w2
  by_cases c1 : 0 ≤ p ∧ p < 1048576 ∧ 0 ≤ o ∧ o < 256 <;> by_cases c2 : 0 ≤ f ∧ f < 4096 ∧ 0 ≤ o ∧ o < 256
  · exact back_pf p f o c1.1 c1.2.1 c1.2.2.1 c1.2.2.2 c2.1 c2.2.1 w
  · exact back_po p f o c1.1 c1.2.1 c1.2.2.1 c1.2.2.2 c2 w
  · exact back_nf p f o c1 c2.1 c2.2.1 c2.2.2.1 c2.2.2.2 w
  · exact back_no p f o c1 c2 w

set_option maxRecDepth 100000 in
theorem liftedBack (os : Os) (started : os.Started) (H : Type) (enc : TypeId × Value → H) :
    ReturnsInHanded {} Try.checked os 8 .any (Rows.addrBackSpec.pre6 enc Try.prog Try.f8 Rows.addrBackRow.domain false) (Rows.addrBackSpec.post enc Try.prog Try.f8 false true false false) := by
  refine returnsInHanded_of_change (C := Try.checked) own started (by kernel_rfl) Try.func8
    (ChangeSpec.witness6 (enc := enc) (C := Try.checked) false ⟨#[], #[.int .i64 0, .int .i64 0, .int .i64 0], []⟩ 8 (by kernel_rfl) (by kernel_rfl) (by kernel_rfl) (by kernel_rfl)) ?_
  intro W base args ds gs before hval0 hW hcnd _
  have hval : ∀ (j : Nat) t v, Try.f8.params[j]? = some t → args[j]? = some v → Value.okWide Try.prog W .any base t v := hval0
  have hW' := hW
  obtain ⟨p, q, hA0, hV, rfl, hfz, hnd⟩ := hW
  have hA : DataW.TrodAll enc Try.prog W 0 (fun _ => true) true Try.f8.params.toList args.toList ds p := hA0
  rw [Try.params8] at hA hval
  obtain ⟨v0, vs0, d0, ds0, p0, q0, hargs, rfl, rfl, h0, r0⟩ := trodAll_cons hA
  obtain ⟨v1, vs1, d1, ds1, p1, q1, rfl, rfl, rfl, h1, r1⟩ := trodAll_cons r0
  obtain ⟨v2, vs2, d2, ds2, p2, q2, rfl, rfl, rfl, h2, r2⟩ := trodAll_cons r1
  obtain ⟨rfl, rfl, rfl⟩ := trodAll_nil r2
  obtain rfl : args = #[v0, v1, v2] := by cases args; simp_all
  obtain ⟨rfl, rfl⟩ := trodVars_none hV
  obtain ⟨a0, rfl, rfl, rfl, w0⟩ := open_int Try.underlying3 (hval 0 3 v0 rfl rfl) h0
  obtain ⟨a1, rfl, rfl, rfl, w1⟩ := open_int Try.underlying3 (hval 1 3 v1 rfl rfl) h1
  obtain ⟨a2, rfl, rfl, rfl, w2⟩ := open_int Try.underlying3 (hval 2 3 v2 rfl rfl) h2
  clear hA0 hval0
  simp only [List.append_nil] at hW'
  refine (walkBack a0 a1 a2 w0 w1 w2 W).mono fun e W' ⟨he, bel⟩ => ?_
  subst he
  exact ⟨_, rfl, _, _, _, [], [], [], hW', trodAll_mk1 (shut_bool Try.underlying4 _), (trodAll_cons_mk (shut_int Try.underlying3 w0) (trodAll_cons_mk (shut_int Try.underlying3 w1) (trodAll_cons_mk (shut_int Try.underlying3 w2) trodAll_mk0))), rfl, bel.frame _, fun h => by cases h⟩

/-- The statement. -/
theorem addrBack_holds : Rows.AddrBackSaid :=
  OpenClaim.holds_of_wide 8 Try.f8 rfl rfl rfl rfl rfl rfl rfl ⟨rfl, rfl, rfl, rfl, rfl⟩ rfl rfl rfl rfl rfl (by kernel_rfl) Try.func8 (by kernel_rfl)
    (of_decide_eq_true (by kernel_rfl)) (by unfold Func.isWrapper; first | (rw [if_pos (by decide +kernel)]; kernel_rfl) | (rw [if_neg (by decide +kernel)]; exact ⟨rfl, rfl⟩))
    (fun os started H enc _ => liftedBack os started H enc)
end Go.Proofs.Ythmcempfiimkkaa
