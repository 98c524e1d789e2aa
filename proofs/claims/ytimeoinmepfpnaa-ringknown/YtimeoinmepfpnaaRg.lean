/- The library's slices.Index and Contains over numbers; numbers put behind a row; slices.Grow and Concat; no condition but those that each theorem names. -/
import Derived.Test.YtimeoinmepfpnaaRf
namespace Go.Proofs.Ytimeoinmepfpnaa.Ri
open Go.ChangeShapes Go.WideShapes Go.ChangeAt Go.RowKit
set_option linter.unusedVariables false
set_option maxRecDepth 8192

theorem Index_at {w : World} {g cap : Nat} {l : List Int} {x : Int} {i : Nat} (h : Own w (.slice (some ⟨g, 0, none⟩) l.length cap) l) (hb : l.length ≤ 5000) (hi : Plc l x i) :
    Calls Try.prog 35 #[.slice (some ⟨g, 0, none⟩) l.length cap, .int .i64 x] w fun e w' => e = .returned (.int .i64 i) ∧ w' = w := by
  have hlt := hi.lt
  have HC : Hid (∀ k, k < l.length → w.cell? ⟨g, k, none⟩ = some (.int .i64 (l.getD k 0))) := fun k hk => h.cells (by rw [List.getElem?_eq_getElem hk, List.getD_eq_getElem?_getD, List.getElem?_eq_getElem hk]; rfl)
  have HX : Hid (l.getD i 0 = x) := by unfold Hid; rw [List.getD_eq_getElem?_getD, hi.1]; rfl
  have HN : Hid (∀ k, k < i → l.getD k 0 ≠ x) := fun k hk e => hi.2 k hk (by
    rw [List.getD_eq_getElem?_getD, List.getElem?_eq_getElem (by omega)] at e
    rw [List.getElem?_eq_getElem (by omega)]
    exact congrArg some e)
  clear h hi
  generalize l.length = n at *
  go_enter Try.func35, Try.ntmps35
  go_wp2
  go_loop [8] (fun j => ∃ k : Nat, k ≤ i ∧ j = .int .i64 k) (fun j => n - (intOf j).toNat)
  case atStart => exact ⟨0, by omega, rfl⟩
  case round =>
    obtain ⟨k, hk, rfl⟩ := hrel
    have hkn : k < n := by omega
    have hc := HC.out k hkn
    by_cases e : k = i
    · subst e
      rw [HX.out] at hc
      go_wp2
      go_ret
      exact ⟨rfl, rfl⟩
    · have hne := HN.out k (by omega)
      generalize l.getD k 0 = y at *
      go_wp2
      go_round
      case rel => exact ⟨k + 1, by omega, by go_num⟩
      case measure => simp [intOf]; omega
theorem Index_no {w : World} {g cap : Nat} {l : List Int} {x : Int} (h : Own w (.slice (some ⟨g, 0, none⟩) l.length cap) l) (hb : l.length ≤ 5000) (hi : x ∉ l) :
    Calls Try.prog 35 #[.slice (some ⟨g, 0, none⟩) l.length cap, .int .i64 x] w fun e w' => e = .returned (.int .i64 (-1)) ∧ w' = w := by
  have HC : Hid (∀ k, k < l.length → w.cell? ⟨g, k, none⟩ = some (.int .i64 (l.getD k 0))) := fun k hk => h.cells (by rw [List.getElem?_eq_getElem hk, List.getD_eq_getElem?_getD, List.getElem?_eq_getElem hk]; rfl)
  have HN : Hid (∀ k, k < l.length → x ≠ l.getD k 0) := fun k hk e => hi (by
    rw [List.getD_eq_getElem?_getD, List.getElem?_eq_getElem (by omega)] at e
    rw [e]
    exact List.getElem_mem _)
  clear h hi
  generalize l.length = n at *
  go_enter Try.func35, Try.ntmps35
  go_wp2
  go_loop [8] (fun j => ∃ k : Nat, k ≤ n ∧ j = .int .i64 k) (fun j => n - (intOf j).toNat)
  case atStart => exact ⟨0, by omega, rfl⟩
  case round =>
    obtain ⟨k, hk, rfl⟩ := hrel
    by_cases hkn : k < n
    · have hc := HC.out k hkn
      have hne := HN.out k hkn
      generalize l.getD k 0 = y at *
      go_wp2
      go_round
      case rel => exact ⟨k + 1, by omega, by go_num⟩
      case measure => simp [intOf]; omega
    · obtain rfl : k = n := by omega
      go_wp2
      go_ret
      exact ⟨rfl, rfl⟩
theorem Contains_ok {w : World} {g cap : Nat} {l : List Int} {x : Int} (h : Own w (.slice (some ⟨g, 0, none⟩) l.length cap) l) (hb : l.length ≤ 5000) :
    Calls Try.prog 26 #[.slice (some ⟨g, 0, none⟩) l.length cap, .int .i64 x] w fun e w' => e = .returned (.bool (decide (x ∈ l))) ∧ w' = w := by
  rcases plc_or l x with ⟨i, hi⟩ | hi
  · have CI := Index_at h hb hi
    rw [decide_eq_true hi.mem]
    clear hi
    go_enter Try.func26, Try.ntmps26
    go_wp2_with (go_at_call 35; refine CI.mono ?_; rintro e w' ⟨rfl, hw⟩; obtain rfl := hw.symm)
    go_ret
    exact ⟨ret_bool (by simp), rfl⟩
  · have CI := Index_no h hb hi
    rw [decide_eq_false hi]
    clear hi
    go_enter Try.func26, Try.ntmps26
    go_wp2_with (go_at_call 35; refine CI.mono ?_; rintro e w' ⟨rfl, hw⟩; obtain rfl := hw.symm)
    go_ret
    exact ⟨rfl, rfl⟩
end Go.Proofs.Ytimeoinmepfpnaa.Ri
