/- How many frames have which colour, told by sums; what the reference's Count gives back; no condition but the ranges. -/
import Derived.Test.YtoondpgdodmngaaRf
namespace Go.Proofs.Ytoondpgdodmngaa
open Go.ChangeShapes Go.WideShapes Go.ChangeAt Go.RowKit
set_option linter.unusedVariables false

theorem sixteen {n : Int} (h0 : 1 ≤ n) (h1 : n ≤ 16) : n = 1 ∨ n = 2 ∨ n = 3 ∨ n = 4 ∨ n = 5 ∨ n = 6 ∨ n = 7 ∨ n = 8 ∨ n = 9 ∨ n = 10 ∨ n = 11 ∨ n = 12 ∨ n = 13 ∨ n = 14 ∨ n = 15 ∨ n = 16 := by omega
theorem ct_zero {n c : Int} (h0 : 1 ≤ n) (h1 : n ≤ 16) (c0 : 0 ≤ c) (c1 : c < n) : ct 0 n c = 0 := by
  unfold ct
  exact Int.ediv_eq_zero_of_lt (by omega) (by omega)
theorem ct_succ {F n c : Int} (h0 : 1 ≤ n) (h1 : n ≤ 16) (c0 : 0 ≤ c) (c1 : c < n) (hF : 0 ≤ F) : ct (F + 1) n c = ct F n c + (if F % n = c then 1 else 0) := by
  unfold ct
  rcases sixteen h0 h1 with rfl | rfl | rfl | rfl | rfl | rfl | rfl | rfl | rfl | rfl | rfl | rfl | rfl | rfl | rfl | rfl <;> split <;> omega
/-- The counts of the first l colours together. -/
def sm (F n : Int) (f : Nat → Int) : Nat → Int
  | 0 => 0
  | l + 1 => sm F n f l + ct F n (f l)
theorem sm_zero {n : Int} (h0 : 1 ≤ n) (h1 : n ≤ 16) (f : Nat → Int) : ∀ l, okP n l f → sm 0 n f l = 0 := by
  intro l
  induction l with
  | zero => intro _; rfl
  | succ l ih =>
    intro h
    have hc := h.1 l (by omega)
    rw [sm, ih (okP_less h (by omega)), ct_zero h0 h1 hc.1 hc.2]
    rfl
theorem sm_succ {F n : Int} (h0 : 1 ≤ n) (h1 : n ≤ 16) (hF : 0 ≤ F) (f : Nat → Int) : ∀ l, okP n l f → sm (F + 1) n f l = sm F n f l + (if has l f (F % n) then 1 else 0) := by
  intro l
  induction l with
  | zero => intro _; simp [sm, has_zero]
  | succ l ih =>
    intro h
    have hc := h.1 l (by omega)
    have hfr := okP_fresh h (show l < l + 1 by omega)
    rw [sm, sm, ih (okP_less h (by omega)), ct_succ h0 h1 hc.1 hc.2 hF, has_succ]
    by_cases e : F % n = f l
    · rw [e, hfr]
      simp
      omega
    · have e' : (f l == F % n) = false := by simpa using fun q => e q.symm
      rw [e', if_neg e]
      simp
      omega
theorem fr_count {n : Int} (h0 : 1 ≤ n) (h1 : n ≤ 16) {l : Nat} {f : Nat → Int} (h : okP n l f) : ∀ F : Nat, ((fr F n l f).length : Int) = sm F n f l := by
  intro F
  induction F with
  | zero => rw [fr_zero]; simp [sm_zero h0 h1 f l h]
  | succ F ih =>
    rw [fr_succ, List.length_append, Int.natCast_add, ih]
    have := sm_succ h0 h1 (show 0 ≤ (F : Int) by omega) f l h
    rw [show ((F + 1 : Nat) : Int) = (F : Int) + 1 by omega, this]
    cases has l f ((F : Int) % n) <;> simp
/-- All colours. -/
def idc (i : Nat) : Int := i
theorem okP_id (n : Nat) : okP n n idc := ⟨fun i hi => by unfold idc; omega, fun i hi => by unfold idc; omega⟩
theorem has_id (n : Nat) (k : Int) (h0 : 0 < n) : has n idc (k % n) = true := by
  have a := Int.emod_nonneg k (show (n : Int) ≠ 0 by omega)
  have b := Int.emod_lt_of_pos k (show 0 < (n : Int) by omega)
  exact has_iff.2 ⟨(k % n).toNat, by omega, by unfold idc; omega⟩
theorem fr_id (n : Nat) (h0 : 0 < n) : ∀ F : Nat, (fr F n n idc).length = F := by
  intro F
  induction F with
  | zero => rfl
  | succ F ih => rw [fr_succ, List.length_append, ih, has_id n _ h0]; rfl
theorem sm_id (n F : Nat) (h0 : 1 ≤ n) (h1 : n ≤ 16) : sm F n idc n = F := by
  rw [← fr_count (by omega) (by omega) (okP_id n) F, fr_id n (by omega) F]
theorem sm_le {F n : Int} (hF : 1 ≤ F) (hF1 : F ≤ 4096) (h0 : 1 ≤ n) (h1 : n ≤ 16) (f : Nat → Int) : ∀ l, okP n l f → 0 ≤ sm F n f l ∧ sm F n f l ≤ 4111 * l := by
  intro l
  induction l with
  | zero => intro _; simp [sm]
  | succ l ih =>
    intro h
    have hc := h.1 l (by omega)
    have h2 := ih (okP_less h (by omega))
    have h3 := ct_le hF hF1 hc.1 hc.2 h1
    rw [sm]
    omega
/-- One colour. -/
theorem okP_one {n c : Int} (h0 : 0 ≤ c) (h1 : c < n) : okP n 1 (fun _ => c) := ⟨fun i hi => ⟨h0, h1⟩, fun i hi => by omega⟩
theorem okP_one_iff {n c : Int} : okP n 1 (fun _ => c) ↔ 0 ≤ c ∧ c < n := ⟨fun h => h.1 0 (by omega), fun h => okP_one h.1 h.2⟩
theorem arg_one (w : World) (c : Int) : Arg (w.alloc (.cells #[.int .i64 c] 3)) (some ⟨w.heap.size, 0, none⟩) 1 (fun _ => c) := by
  refine Or.inr ⟨_, _, rfl, by simp, fun i hi => ?_⟩
  obtain rfl : i = 0 := by omega
  rw [cell_of_row _ _ (0 + 0) _ 3 (0, 0) (heap_alloc_last w _)]
  rfl
theorem rCount_ok (F : Nat) (n c : Int) (hF : 1 ≤ F ∧ F ≤ 4096) (h2 : 1 ≤ n) (h3 : n ≤ 16) (h0 : 0 ≤ c) (h1 : c < n) (w : World) :
    Calls Try.prog 20 #[.int .i64 F, .int .i64 n, .int .i64 c] w fun e w' => e = .returned (.tuple #[.int .i64 (ct F n c), .int .i64 0]) ∧ Below w.heap.size w w' := by
  have HC : Hid (Calls Try.prog 17 #[.int .i64 F, .int .i64 n, .slice (some ⟨w.heap.size, 0, none⟩) 1 1] (w.alloc (.cells #[.int .i64 c] 3)) (Frd (w.alloc (.cells #[.int .i64 c] 3)) F n 1 (fun _ => c))) := rFrames_ok (by unfold maxLen; omega) (arg_one w c) hF ⟨⟨h2, h3⟩, okP_one h0 h1⟩
  have HE : Hid (((fr F n 1 (fun _ => c)).length : Int) = ct F n c) := by
    unfold Hid
    rw [fr_count h2 h3 (okP_one h0 h1) F]
    simp [sm]
  have HB : Hid (Below w.heap.size w (w.alloc (.cells #[.int .i64 c] 3))) := below_new _ _
  go_enter Try.func20, Try.ntmps20
  go_wp2_with fail
  refine HC.out.mono ?_
  rintro e w1 ⟨v, rfl, hI, hb⟩
  have HL : Hid (Below w.heap.size w w1) := HB.out.trans (hb.mono HB.out.size)
  obtain ⟨ao, cp, rfl⟩ : ∃ ao cp, v = .slice ao (fr F n 1 (fun _ => c)).length cp := by
    rcases hI.2 with ⟨rfl, e0⟩ | ⟨g, cap, cur, rfl, _⟩
    · exact ⟨none, 0, by rw [e0]⟩
    · exact ⟨_, _, rfl⟩
  have hlen := fr_len F n 1 (fun _ => c)
  generalize (fr F n 1 (fun _ => c)).length = L at *
  clear hI hb HC HB
  go_wp2
  go_ret2
  exact ⟨ret_tuple2 HE.out rfl, HL.out⟩
theorem rCount_no (F n c : Int) (h : ¬ ((1 ≤ F ∧ F ≤ 4096) ∧ (1 ≤ n ∧ n ≤ 16) ∧ 0 ≤ c ∧ c < n)) (w : World) :
    Calls Try.prog 20 #[.int .i64 F, .int .i64 n, .int .i64 c] w fun e w' => e = .returned (.tuple #[.int .i64 0, .int .i64 2]) ∧ Below w.heap.size w w' := by
  have HC : Hid (Calls _ _ _ _ _) := rFrames_no (c := 1) (F := F) (n := n) (by unfold maxLen; omega) (arg_one w c) (fun q => h ⟨q.1, q.2.1, okP_one_iff.1 q.2.2⟩)
  have HB : Hid (Below w.heap.size w (w.alloc (.cells #[.int .i64 c] 3))) := below_new _ _
  go_enter Try.func20, Try.ntmps20
  go_wp2_with fail
  refine HC.out.mono ?_
  rintro e w1 ⟨rfl, hb⟩
  have HL : Hid (Below w.heap.size w w1) := HB.out.trans (hb.mono HB.out.size)
  clear hb HC HB
  go_wp2
  go_ret2
  exact ⟨rfl, HL.out⟩
end Go.Proofs.Ytoondpgdodmngaa
