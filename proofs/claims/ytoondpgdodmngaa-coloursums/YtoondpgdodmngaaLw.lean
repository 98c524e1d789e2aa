/- The statements' EqInts and works; no condition but the ranges. -/
import Derived.Test.YtoondpgdodmngaaSm
namespace Go.Proofs.Ytoondpgdodmngaa
open Go.ChangeShapes Go.WideShapes Go.ChangeAt Go.RowKit
set_option linter.unusedVariables false

/-- The i-th number of a list. -/
def nth (L : List Int) (i : Nat) : Int := L.getD i 0
theorem EqInts_any {w : World} {a1 a2 : Option Addr} {l c1 c2 : Nat} {f : Nat → Int} (hl : l ≤ maxLen) (h1 : Arg w a1 l f) (h2 : Arg w a2 l f) :
    Calls Try.prog 18 #[.slice a1 l c1, .slice a2 l c2] w fun e w' => e = .returned (.bool true) ∧ ∃ m, w' = w.drewN m := by
  have H1 : Hid (Arg w a1 l f) := h1
  have H2 : Hid (Arg w a2 l f) := h2
  clear h1 h2
  unfold maxLen at hl
  go_enter Try.func18, Try.ntmps18
  go_wp2
  go_loopw [5] (fun i wr => ∃ k : Nat, k ≤ l ∧ i = .int .i64 k ∧ ∃ m, wr = w.drewN m) (fun i _ => l - (intOf i).toNat)
  case atStart => exact ⟨0, by omega, rfl, 0, rfl⟩
  case round =>
    obtain ⟨k, hk, rfl, m, rfl⟩ := hrel
    by_cases hlt : k < l
    · obtain ⟨b, o, rfl, d1⟩ := H1.out.at' (Below.refl _ _) hlt
      obtain ⟨b', o', rfl, d2⟩ := H2.out.at' (Below.refl _ _) hlt
      have d1 : (w.drewN m).cell? ⟨b, o + k, none⟩ = some (.int .i64 (f k)) := d1
      have d2 : (w.drewN m).cell? ⟨b', o' + k, none⟩ = some (.int .i64 (f k)) := d2
      generalize f k = v at *
      go_wp2
      go_quiet (fail)
      go_wp2
      go_roundw
      case rel => exact ⟨k + 1, by omega, by go_num, m + nq, by first | rfl | simp [World.drewN_drewN]⟩
      case measure => simp [intOf]; omega
    · obtain rfl : k = l := by omega
      go_wp2
      go_ret
      exact ⟨rfl, m, rfl⟩
theorem Is.form {w : World} {base : Nat} {v : Value} {L : List Int} (h : Is w base v L) : ∃ ao c, v = .slice ao L.length c ∧ L.length ≤ c ∧ c ≤ maxLen ∧ (L = [] ∧ ao = none ∨ ∃ g, ao = some ⟨g, 0, none⟩ ∧ base ≤ g ∧ g < w.heap.size ∧ ∀ i, i < L.length → w.cell? ⟨g, i, none⟩ = some (.int .i64 (nth L i)) ∧ w.frozen? ⟨g, i, none⟩ = false) := by
  rcases h.2 with ⟨rfl, h0⟩ | ⟨g, c, cur, rfl, hbase, hb, h1, h2, h3, h4⟩
  · exact ⟨none, 0, by rw [h0], by omega, Nat.zero_le _, Or.inl ⟨List.eq_nil_of_length_eq_zero h0, rfl⟩⟩
  · refine ⟨_, c, rfl, h1, h2, Or.inr ⟨g, rfl, hbase, (Array.getElem?_eq_some_iff.1 hb).1, fun i hi => ?_⟩⟩
    have hcur : cur[i]? = some (.int .i64 (nth L i)) := by
      rw [← Array.getElem?_toList, ← List.getElem?_take_of_lt (show i < L.length * 1 by omega), h4]
      exact enI_get hi
    simp [World.cell?, World.frozen?, hb, hcur]
theorem Is.arg {w : World} {base : Nat} {v : Value} {L : List Int} (h : Is w base v L) : ∃ ao c, v = .slice ao L.length c ∧ Arg w ao L.length (nth L) := by
  obtain ⟨ao, c, rfl, _, _, q⟩ := h.form
  refine ⟨ao, c, rfl, ?_⟩
  rcases q with ⟨rfl, _⟩ | ⟨g, rfl, _, hg, hc⟩
  · exact Or.inl rfl
  · exact Or.inr ⟨g, 0, rfl, hg, fun i hi => by rw [Nat.zero_add]; exact (hc i hi).1⟩
/-- A list that was written out. -/
theorem arg_lit (w : World) (L : List Int) (C : Array Value) (hC : C = (enI L).toArray) : Arg (w.alloc (.cells C 3)) (some ⟨w.heap.size, 0, none⟩) L.length (nth L) := by
  subst hC
  refine Or.inr ⟨_, _, rfl, by simp, fun i hi => ?_⟩
  rw [Nat.zero_add, cell_of_row _ _ i _ 3 (0, 0) (heap_alloc_last w _), List.getElem?_toArray]
  exact enI_get hi
theorem Arg.congr {w : World} {ao : Option Addr} {l : Nat} {f f' : Nat → Int} (h : Arg w ao l f) (e : ∀ i, i < l → f i = f' i) : Arg w ao l f' := by
  rcases h with h | ⟨b, off, e', hl, hr⟩
  · exact Or.inl h
  · exact Or.inr ⟨b, off, e', hl, fun i hi => by rw [← e i hi]; exact hr i hi⟩
set_option maxRecDepth 20000 in
theorem works_any (w : World) : Calls Try.prog 15 #[] w fun e w' => e = .returned (.bool true) ∧ Below w.heap.size w w' := by
  have C1 : Hid (∀ w, Calls Try.prog 9 #[.int .i64 10, .int .i64 4] w (Two 2 0 w)) := fun w => Of_ok 10 4 (by decide) (by decide) (by decide) (by decide) w
  have C2 : Hid (∀ w, Calls Try.prog 13 #[.int .i64 2, .int .i64 2, .int .i64 4] w (Two 10 0 w)) := fun w => Frame_ok 2 2 4 (by unfold fo; decide) w
  have C4 : Hid (∀ w, Calls Try.prog 21 #[.int .u64 2613, .int .i64 4] w (Two 35 0 w)) := fun w => Set_ok 2613 4 (by decide) (by decide) (by decide) (by decide) w
  have C5 : Hid (∀ w, Calls Try.prog 23 #[.int .i64 35, .int .i64 4] w (Two 2 0 w)) := fun w => Owner_ok 35 4 (by decide) (by decide) (by decide) (by decide) w
  have hok : okL 4 2 (nth [1, 3]) := ⟨by decide, fun i hi => by
    obtain rfl | rfl : i = 0 ∨ i = 1 := by omega
    · decide
    · decide, fun i hi => by
    obtain rfl : i = 0 := by omega
    decide⟩
  have hfr : fr 10 4 2 (nth [1, 3]) = [1, 3, 5, 7, 9] := by decide +kernel
  have C3 : Hid (Calls Try.prog 16 #[.int .i64 10, .int .i64 4, .slice (some ⟨w.heap.size, 0, none⟩) 2 2] (w.alloc (.cells #[.int .i64 1, .int .i64 3] 3)) (Frd (w.alloc (.cells #[.int .i64 1, .int .i64 3] 3)) 10 4 2 (nth [1, 3]))) :=
    Frames_ok (F := 10) (by unfold maxLen; omega) (arg_lit w [1, 3] _ rfl) (by omega) hok
  have HB : Hid (Below w.heap.size w (w.alloc (.cells #[.int .i64 1, .int .i64 3] 3))) := below_new _ _
  clear hok
  go_enter Try.func15, Try.ntmps15
  go_wp2_with fail
  refine (C1.out _).mono ?_
  rintro e w1 ⟨rfl, h1⟩
  obtain rfl := h1.symm
  go_wp2_with fail
  refine (C2.out _).mono ?_
  rintro e w1 ⟨rfl, h1⟩
  obtain rfl := h1.symm
  go_wp2_with fail
  refine C3.out.mono ?_
  rintro e w1 ⟨v, rfl, hI, hb⟩
  have HL : Hid (Below w.heap.size w w1) := HB.out.trans (hb.mono HB.out.size)
  rw [hfr] at hI
  obtain ⟨ao, c, rfl, hA⟩ := hI.arg
  have HA : Hid (Arg w1 ao 5 (nth [1, 3, 5, 7, 9])) := hA
  clear hI hb HB C3 hA C1 C2 hfr
  go_wp2_with fail
  refine (C4.out _).mono ?_
  rintro e w2 ⟨rfl, h1⟩
  obtain rfl := h1.symm
  go_wp2_with fail
  refine (C5.out _).mono ?_
  rintro e w2 ⟨rfl, h1⟩
  obtain rfl := h1.symm
  clear C4 C5
  go_wp2_with fail
  have HA2 : Hid (Arg (w1.alloc (.cells #[.int .i64 1, .int .i64 3, .int .i64 5, .int .i64 7, .int .i64 9] 3)) ao 5 (nth [1, 3, 5, 7, 9])) := HA.out.below (below_new _ _)
  have HL2 : Hid (Below w.heap.size w (w1.alloc (.cells #[.int .i64 1, .int .i64 3, .int .i64 5, .int .i64 7, .int .i64 9] 3))) := HL.out.alloc HL.out.size _
  have HA3 : Hid (Arg (w1.alloc (.cells #[.int .i64 1, .int .i64 3, .int .i64 5, .int .i64 7, .int .i64 9] 3)) (some ⟨w1.heap.size, 0, none⟩) 5 (nth [1, 3, 5, 7, 9])) := arg_lit w1 [1, 3, 5, 7, 9] _ rfl
  refine (EqInts_any (by unfold maxLen; omega) HA2.out HA3.out).mono ?_
  rintro e w3 ⟨rfl, m, rfl⟩
  have HL3 : Hid _ := below_drewN HL2.out m
  clear HA2 HA3 HL2 HA HL
  go_wp2
  go_ret
  exact ⟨rfl, HL3.out⟩
theorem ofs_any (x i n : Int) (w : World) : Calls Try.prog 3 #[.int .i64 x, .int .i64 i, .int .i64 n] w fun e w' => e = .returned (.bool true) ∧ Below w.heap.size w w' := by
  obtain ⟨v1, e1, A1, A2⟩ : ∃ v e, (∀ w, Hid (Calls Try.prog 9 #[.int .i64 x, .int .i64 n] w (Two v e w))) ∧ (∀ w, Hid (Calls Try.prog 10 #[.int .i64 x, .int .i64 n] w (Two v e w))) := by
    by_cases h : 0 ≤ x ∧ x ≤ 4095 ∧ 1 ≤ n ∧ n ≤ 16
    · exact ⟨_, _, fun w => Of_ok x n h.1 h.2.1 h.2.2.1 h.2.2.2 w, fun w => rOf_ok x n h.1 h.2.1 h.2.2.1 h.2.2.2 w⟩
    · exact ⟨_, _, fun w => Of_no x n h w, fun w => rOf_no x n h w⟩
  obtain ⟨v2, e2, B1, B2⟩ : ∃ v e, (∀ w, Hid (Calls Try.prog 11 #[.int .i64 x, .int .i64 n] w (Two v e w))) ∧ (∀ w, Hid (Calls Try.prog 12 #[.int .i64 x, .int .i64 n] w (Two v e w))) := by
    by_cases h : 0 ≤ x ∧ x ≤ 4095 ∧ 1 ≤ n ∧ n ≤ 16
    · exact ⟨_, _, fun w => Index_ok x n h.1 h.2.1 h.2.2.1 h.2.2.2 w, fun w => rIndex_ok x n h.1 h.2.1 h.2.2.1 h.2.2.2 w⟩
    · exact ⟨_, _, fun w => Index_no x n h w, fun w => rIndex_no x n h w⟩
  obtain ⟨v3, e3, C1, C2⟩ : ∃ v e, (∀ w, Hid (Calls Try.prog 13 #[.int .i64 x, .int .i64 i, .int .i64 n] w (Two v e w))) ∧ (∀ w, Hid (Calls Try.prog 14 #[.int .i64 x, .int .i64 i, .int .i64 n] w (Two v e w))) := by
    by_cases hn : 1 ≤ n ∧ n ≤ 16
    · by_cases h : fo x i n
      · exact ⟨_, _, fun w => Frame_ok x i n h w, fun w => rFrame_in x i n hn.1 hn.2 _ _ (Or.inl ⟨h, rfl, rfl⟩) w⟩
      · exact ⟨_, _, fun w => Frame_no x i n h w, fun w => rFrame_in x i n hn.1 hn.2 _ _ (Or.inr ⟨h, rfl, rfl⟩) w⟩
    · exact ⟨_, _, fun w => Frame_no x i n (fun h => hn h.1) w, fun w => rFrame_out x i n hn w⟩
  go_enter Try.func3, Try.ntmps3
  go_wp2_with fail
  refine (A1 _).out.mono ?_
  rintro e w1 ⟨rfl, h1⟩
  obtain rfl := h1.symm
  go_wp2_with fail
  refine (A2 _).out.mono ?_
  rintro e w1 ⟨rfl, h1⟩
  obtain rfl := h1.symm
  clear A1 A2
  go_wp2_with fail
  refine (B1 _).out.mono ?_
  rintro e w1 ⟨rfl, h1⟩
  obtain rfl := h1.symm
  go_wp2_with fail
  refine (B2 _).out.mono ?_
  rintro e w1 ⟨rfl, h1⟩
  obtain rfl := h1.symm
  clear B1 B2
  go_wp2_with fail
  refine (C1 _).out.mono ?_
  rintro e w1 ⟨rfl, h1⟩
  obtain rfl := h1.symm
  go_wp2_with fail
  refine (C2 _).out.mono ?_
  rintro e w1 ⟨rfl, h1⟩
  obtain rfl := h1.symm
  clear C1 C2
  go_wp2_with fail
  refine (works_any _).mono ?_
  rintro e w1 ⟨rfl, hb⟩
  have HB : Hid _ := hb
  clear hb
  go_wp2
  go_ret
  exact ⟨rfl, HB.out⟩
theorem sets_any (a s n : Int) (h0 : 0 ≤ a) (w : World) : Calls Try.prog 5 #[.int .u64 a, .int .i64 s, .int .i64 n] w fun e w' => e = .returned (.bool true) ∧ Below w.heap.size w w' := by
  obtain ⟨v1, e1, A1, A2⟩ : ∃ v e, (∀ w, Hid (Calls Try.prog 21 #[.int .u64 a, .int .i64 n] w (Two v e w))) ∧ (∀ w, Hid (Calls Try.prog 22 #[.int .u64 a, .int .i64 n] w (Two v e w))) := by
    by_cases h1 : 1048576 ≤ a
    · exact ⟨_, _, fun w => Set_addr a n h1 w, fun w => rSet_addr a n h1 w⟩
    · by_cases h : 1 ≤ n ∧ n ≤ 16
      · exact ⟨_, _, fun w => Set_ok a n h0 (by omega) h.1 h.2 w, fun w => rSet_ok a n h0 (by omega) h.1 h.2 w⟩
      · exact ⟨_, _, fun w => Set_arg a n h0 (by omega) h w, fun w => rSet_arg a n h0 (by omega) h w⟩
  obtain ⟨v2, e2, B1, B2⟩ : ∃ v e, (∀ w, Hid (Calls Try.prog 23 #[.int .i64 s, .int .i64 n] w (Two v e w))) ∧ (∀ w, Hid (Calls Try.prog 24 #[.int .i64 s, .int .i64 n] w (Two v e w))) := by
    by_cases h : 1 ≤ n ∧ n ≤ 16 ∧ 0 ≤ s ∧ s < n * 16
    · exact ⟨_, _, fun w => Owner_ok s n h.1 h.2.1 h.2.2.1 h.2.2.2 w, fun w => rOwner_ok s n h.1 h.2.1 h.2.2.1 h.2.2.2 w⟩
    · exact ⟨_, _, fun w => Owner_no s n h w, fun w => rOwner_no s n h w⟩
  go_enter Try.func5, Try.ntmps5
  go_wp2_with fail
  refine (A1 _).out.mono ?_
  rintro e w1 ⟨rfl, h1⟩
  obtain rfl := h1.symm
  go_wp2_with fail
  refine (A2 _).out.mono ?_
  rintro e w1 ⟨rfl, h1⟩
  obtain rfl := h1.symm
  clear A1 A2
  go_wp2_with fail
  refine (B1 _).out.mono ?_
  rintro e w1 ⟨rfl, h1⟩
  obtain rfl := h1.symm
  go_wp2_with fail
  refine (B2 _).out.mono ?_
  rintro e w1 ⟨rfl, h1⟩
  obtain rfl := h1.symm
  clear B1 B2
  go_wp2_with fail
  refine (works_any _).mono ?_
  rintro e w1 ⟨rfl, hb⟩
  have HB : Hid _ := hb
  clear hb
  go_wp2
  go_ret
  exact ⟨rfl, HB.out⟩
end Go.Proofs.Ytoondpgdodmngaa
