/- The law CacheNames walked. -/
import Derived.Test.YtpedgpaebdoafaaPl
namespace Go.Proofs.Ytpedgpaebdoafaa
open Go.ChangeShapes Go.WideShapes Go.ChangeAt Go.RowKit
set_option linter.unusedVariables false

theorem below_new (w : World) (o : Obj) : Below w.heap.size w (w.alloc o) := (Below.refl _ _).alloc (Nat.le_refl _) _
theorem dos3 (w : World) (t : TypeId) : Dos (w.alloc (.cells #[.int .i64 0, .int .i64 1, .int .u64 0, .int .i64 0, .int .i64 4095, .int .u64 0, .int .i64 2, .int .i64 0, .int .u64 0] t)) (some ⟨w.heap.size, 0, none⟩) 3 := by
  have hb : Blk (w.alloc (.cells #[.int .i64 0, .int .i64 1, .int .u64 0, .int .i64 0, .int .i64 4095, .int .u64 0, .int .i64 2, .int .i64 0, .int .u64 0] t)) w.heap.size t [.int .i64 0, .int .i64 1, .int .u64 0, .int .i64 0, .int .i64 4095, .int .u64 0, .int .i64 2, .int .i64 0, .int .u64 0] := blk_new w _ t
  intro i hi
  have h3 : i = 0 ∨ i = 1 ∨ i = 2 := by omega
  rcases h3 with rfl | rfl | rfl
  · refine ⟨w.heap.size, 0, 0, 1, 0, rfl, hb.lt, fun j v hv => ?_, by omega, by omega, by omega, by omega⟩
    have hj : j < 3 := by have := (List.getElem?_eq_some_iff.1 hv).1; simpa [doV] using this
    rw [hb.cell]
    have : j = 0 ∨ j = 1 ∨ j = 2 := by omega
    rcases this with rfl | rfl | rfl <;> simpa [doV] using hv
  · refine ⟨w.heap.size, 0, 0, 4095, 0, rfl, hb.lt, fun j v hv => ?_, by omega, by omega, by omega, by omega⟩
    have hj : j < 3 := by have := (List.getElem?_eq_some_iff.1 hv).1; simpa [doV] using this
    rw [hb.cell]
    have : j = 0 ∨ j = 1 ∨ j = 2 := by omega
    rcases this with rfl | rfl | rfl <;> simpa [doV] using hv
  · refine ⟨w.heap.size, 0, 2, 0, 0, rfl, hb.lt, fun j v hv => ?_, by omega, by omega, by omega, by omega⟩
    have hj : j < 3 := by have := (List.getElem?_eq_some_iff.1 hv).1; simpa [doV] using this
    rw [hb.cell]
    have : j = 0 ∨ j = 1 ∨ j = 2 := by omega
    rcases this with rfl | rfl | rfl <;> simpa [doV] using hv
theorem dos1 (w : World) (t : TypeId) : Dos (w.alloc (.cells #[.int .i64 1, .int .i64 (-1), .int .u64 0] t)) (some ⟨w.heap.size, 0, none⟩) 1 := by
  have hb : Blk (w.alloc (.cells #[.int .i64 1, .int .i64 (-1), .int .u64 0] t)) w.heap.size t [.int .i64 1, .int .i64 (-1), .int .u64 0] := blk_new w _ t
  intro i hi
  obtain rfl : i = 0 := by omega
  refine ⟨w.heap.size, 0, 1, -1, 0, rfl, hb.lt, fun j v hv => ?_, by omega, by omega, by omega, by omega⟩
  have hj : j < 3 := by have := (List.getElem?_eq_some_iff.1 hv).1; simpa [doV] using this
  rw [hb.cell]
  have : j = 0 ∨ j = 1 ∨ j = 2 := by omega
  rcases this with rfl | rfl | rfl <;> simpa [doV] using hv
def szs : List Value := [.int .i64 (-1), .int .i64 0, .int .i64 1, .int .i64 2, .int .i64 3, .int .i64 4096, .int .i64 8192, .int .i64 6, .int .i64 (-4)]
theorem szs_at (k : Nat) (h : k < 9) : ∃ x : Int, szs[k]? = some (.int .i64 x) ∧ -10 < x ∧ x < 10000 := by
  have : k = 0 ∨ k = 1 ∨ k = 2 ∨ k = 3 ∨ k = 4 ∨ k = 5 ∨ k = 6 ∨ k = 7 ∨ k = 8 := by omega
  rcases this with rfl | rfl | rfl | rfl | rfl | rfl | rfl | rfl | rfl <;> exact ⟨_, rfl, by decide, by decide⟩
set_option maxRecDepth 100000 in
set_option maxHeartbeats 4000000 in
theorem names_walk (w : World) : Calls Try.prog 6 #[] w fun e w' => e = .returned (.bool true) ∧ Below w.heap.size w w' := by
  go_enter Try.func6, Try.ntmps6
  go_wp2_with fail
  go_loopw [1, 2] (fun v i wr => ∃ k : Nat, k ≤ 2 ∧ i = .int .i64 k ∧ (∃ q, v = .pointer q ∧ NoC wr q) ∧ Below w.heap.size w wr) (fun _ i _ => 2 - (intOf i).toNat)
  case atStart => exact ⟨0, by omega, rfl, ⟨none, rfl, Or.inl rfl⟩, Below.refl _ _⟩
  case round =>
    obtain ⟨k, hk, rfl, ⟨q, rfl, hN⟩, hb⟩ := hrel
    have HN : Hid (NoC wr q) := hN
    have HB : Hid (Below w.heap.size w wr) := hb
    clear hN hb
    by_cases hlt : k < 2
    · go_wp2_with fail
      refine (Touch_nil HN.out _ _).mono ?_
      rintro e w' ⟨rfl, rfl⟩
      go_wp2_with fail
      refine (Has_nil HN.out _ _).mono ?_
      rintro e w' ⟨rfl, rfl⟩
      go_wp2_with fail
      refine (Flush_nil HN.out).mono ?_
      rintro e w' ⟨rfl, rfl⟩
      go_wp2_with fail
      refine (Count_nil HN.out).mono ?_
      rintro e w' ⟨rfl, rfl⟩
      go_wp2_with fail
      refine (Lines_nil HN.out).mono ?_
      rintro e w' ⟨rfl, rfl⟩
      go_wp2_with fail
      go_roundw
      case rel =>
        refine ⟨k + 1, by omega, by go_num, ⟨_, rfl, Or.inr ⟨_, rfl, ?_⟩⟩, HB.out.alloc HB.out.size _⟩
        rw [cell_of_row _ _ 1 _ 54 (0, 0) (heap_alloc_last _ _)]
        rfl
      case measure => simp [intOf]; omega
    · clear HN
      generalize wr = w3 at *
      have HS : Hid (Blk (w3.alloc (.cells szs.toArray 3)) w3.heap.size 3 szs) := blk_new w3 szs 3
      have HB4 : Hid (Below w.heap.size w (w3.alloc (.cells szs.toArray 3))) := HB.out.alloc HB.out.size _
      clear HB
      unfold szs at *
      go_wp2_with fail
      generalize hs3 : w3.heap.size = B3 at *
      generalize hw4 : w3.alloc (.cells [Value.int .i64 (-1), .int .i64 0, .int .i64 1, .int .i64 2, .int .i64 3, .int .i64 4096, .int .i64 8192, .int .i64 6, .int .i64 (-4)].toArray 3) = w4 at *
      clear hw4 hs3
      go_loopw [10] (fun i wr => ∃ k : Nat, k ≤ 9 ∧ i = .int .i64 k ∧ Below w4.heap.size w4 wr) (fun i _ => 9 - (intOf i).toNat)
      case atStart => exact ⟨0, by omega, rfl, Below.refl _ _⟩
      case round =>
        obtain ⟨j, hj, rfl, hb⟩ := hrel
        have HB : Hid (Below w4.heap.size w4 wr) := hb
        clear hb
        by_cases hjl : j < 9
        · obtain ⟨x, hx, x0, x1⟩ := szs_at j hjl
          have HX : Hid (∀ W, Below w4.heap.size w4 W → W.cell? ⟨B3, j, none⟩ = some (.int .i64 x)) := fun W hW => (hW.cell (p := ⟨B3, j, none⟩) HS.out.lt).trans ((HS.out.cell j).trans hx)
          clear hx
          have d1 := HX.out wr HB.out
          have HP : Hid (Calls _ _ _ _ _) := plays_walk _ x 16 (by omega) (by omega) (by omega) (by omega) _ 3 3 (by unfold maxLen; omega) (dos3 wr 34)
          go_wp2_with fail
          refine HP.out.mono ?_
          rintro e w5 ⟨rfl, hb5⟩
          have HB5 : Hid (Below w4.heap.size w4 w5) := HB.out.trans (((below_new wr _).trans (hb5.mono (by simp))).mono HB.out.size)
          clear hb5 d1 HP HB
          have d1 := HX.out w5 HB5.out
          have HP : Hid (Calls _ _ _ _ _) := plays_walk _ 2 x (by omega) (by omega) (by omega) (by omega) _ 1 1 (by unfold maxLen; omega) (dos1 w5 34)
          go_wp2_with fail
          refine HP.out.mono ?_
          rintro e w6 ⟨rfl, hb6⟩
          have HB6 : Hid (Below w4.heap.size w4 w6) := HB5.out.trans (((below_new w5 _).trans (hb6.mono (by simp))).mono HB5.out.size)
          clear hb6 d1 HP HB5
          go_wp2_with fail
          go_roundw
          case rel => exact ⟨j + 1, by omega, by go_num, HB6.out⟩
          case measure => simp [intOf]; omega
        · go_wp2_with fail
          refine (awake_any _).mono ?_
          rintro e w5 ⟨rfl, hb5⟩
          have HB5 : Hid (Below w4.heap.size w4 w5) := HB.out.trans (hb5.mono HB.out.size)
          clear hb5 HB
          have HP : Hid (Calls _ _ _ _ _) := plays_walk w5 4 17 (by omega) (by omega) (by omega) (by omega) none 0 0 (by unfold maxLen; omega) (fun i hi => by omega)
          go_wp2_with fail
          refine HP.out.mono ?_
          rintro e w6 ⟨rfl, hb6⟩
          have HB6 : Hid (Below w.heap.size w w6) := HB4.out.trans ((HB5.out.trans (hb6.mono HB5.out.size)).mono HB4.out.size)
          clear hb6 HP HB5
          go_wp2
          go_ret
          exact ⟨rfl, HB6.out⟩
end Go.Proofs.Ytpedgpaebdoafaa
