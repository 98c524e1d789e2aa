/- Sixty bytes, one a page: rows of them in memory; the statements' within; no condition but those named. -/
import Derived.Test.YtmhfgfgiiinpjaaWk
import Derived.Test.YtmhfgfgiiinpjaaWm
namespace Go.Proofs.Ytmhfgfgiiinpjaa.V
open Go.ChangeShapes Go.WideShapes Go.ChangeAt Go.RowKit
set_option linter.unusedVariables false
set_option maxRecDepth 8192

def A60 (f : Nat → Int) : Array Value := ((List.range 60).map fun j => Value.int .u8 (f j)).toArray
theorem A60_get (f : Nat → Int) {j : Nat} (h : j < 60) : (A60 f)[j]? = some (.int .u8 (f j)) := by
  unfold A60
  simp [h]
theorem A60_size (f : Nat → Int) : (A60 f).size = 60 := by unfold A60; simp
theorem A60_congr {f g : Nat → Int} (h : ∀ j, j < 60 → f j = g j) : A60 f = A60 g := by
  unfold A60
  refine congrArg List.toArray (List.map_congr_left (fun j hj => ?_))
  rw [h j (List.mem_range.1 hj)]
theorem A60_set (f : Nat → Int) {k : Nat} (hk : k < 60) (v : Int) : (A60 f).setIfInBounds k (.int .u8 v) = A60 (fun j => if j = k then v else f j) := by
  apply Array.ext_getElem?
  intro j
  rw [Array.getElem?_setIfInBounds]
  by_cases hj : j < 60
  · have hR := A60_get (fun j => if j = k then v else f j) hj
    have hL := A60_get f hj
    rw [hR, hL]
    by_cases e : k = j
    · subst e
      simp [A60_size, hk]
    · simp [e]
      intro q
      exact absurd q.symm e
  · have h1 : (A60 (fun j => if j = k then v else f j))[j]? = none := Array.getElem?_eq_none (by rw [A60_size]; omega)
    have h2 : (A60 f)[j]? = none := Array.getElem?_eq_none (by rw [A60_size]; omega)
    rw [h1, h2]
    split
    · rename_i e; omega
    · rfl
/-- A row of sixty bytes in memory. -/
def Bl (W : World) (b : Nat) (f : Nat → Int) : Prop := W.heap[b]? = some (.cells (A60 f) 53 (0, 0))
theorem Bl.lt {W : World} {b : Nat} {f : Nat → Int} (h : Bl W b f) : b < W.heap.size := (Array.getElem?_eq_some_iff.1 h).1
theorem Bl.below {W W' : World} {b : Nat} {f : Nat → Int} (h : Bl W b f) (k : Below W.heap.size W W') : Bl W' b f := (k.block b h.lt).trans h
theorem Bl.cell {W : World} {b : Nat} {f : Nat → Int} (h : Bl W b f) {j : Nat} (hj : j < 60) : W.cell? ⟨b, j, none⟩ = some (.int .u8 (f j)) := by
  rw [cell_of_row W b j _ 53 (0, 0) h]
  exact A60_get f hj
theorem Bl.frozen {W : World} {b : Nat} {f : Nat → Int} (h : Bl W b f) (j : Nat) : W.frozen? ⟨b, j, none⟩ = false := frozen_of_row W b j _ 53 h
theorem Bl.set {W : World} {b : Nat} {f : Nat → Int} (h : Bl W b f) {k : Nat} (hk : k < 60) (v : Int) : Bl (W.setCell ⟨b, k, none⟩ (.int .u8 v)) b (fun j => if j = k then v else f j) := by
  unfold Bl
  rw [heap_setCell_same W b k _ 53 _ h, A60_set f hk v]
theorem Bl.congr {W : World} {b : Nat} {f g : Nat → Int} (h : Bl W b f) (e : ∀ j, j < 60 → f j = g j) : Bl W b g := by
  unfold Bl at *
  rw [h, A60_congr e]
theorem Try.sizeB : (Try.prog.info? 53).map (·.size) = some 60 := by kernel_rfl
theorem Bl.load {W : World} {b : Nat} {f : Nat → Int} (h : Bl W b f) : (loadVar 53 ⟨b, 0, none⟩).run Try.prog W = .ok (.agg (A60 f)) W :=
  run_loadVar_row W b 53 53 (A60 f) (0, 0) _ h Try.underlying53 rfl (by rw [A60_size]; exact Try.sizeB)
theorem eqItems60 (f : Nat → Int) (W : World) (d : Nat) (hc : Try.prog.cellsOf 5 = 1) : ∀ is : List Nat, (∀ i ∈ is, i < 60) → (Op.eqItems (d + 1) 5 1 (A60 f) (A60 f) is).run Try.prog W = .ok true W
  | [], _ => by simp [Op.eqItems]
  | i :: is, h => by
    have hi := h i List.mem_cons_self
    have ih := eqItems60 f W d hc is (fun j hj => h j (List.mem_cons_of_mem _ hj))
    have hg := A60_get f hi
    simp [Op.eqItems, go_sem, Try.underlying5, hg, ih]
theorem ne60 (f : Nat → Int) (W : World) : (binOp .neq 53 (.agg (A60 f)) (.agg (A60 f))).run Try.prog W = .ok (.bool false) W := by
  obtain ⟨i, hi⟩ : ∃ i, Try.prog.info? 5 = some i := Option.isSome_iff_exists.1 (by kernel_rfl)
  have hc : Try.prog.cellsOf 5 = 1 := by kernel_rfl
  rw [run_neq_struct, show (10000 : Nat) = 9999 + 1 from rfl, run_equalIn_array W 9999 _ _ (Try.underlying53) hi, hc]
  have := eqItems60 f W 9998 hc (List.range 60) (fun i hi => List.mem_range.1 hi)
  simp only [this, Result.andThen_ok]
  rfl
/-- A page's byte. -/
def enc : Option Int → Int
  | none => 0
  | some m => 1 + m
theorem within_w (x n : Int) (hn : 1 ≤ n ∧ n ≤ 60) (hx : -9223372036854775808 ≤ x ∧ x < 9223372036854775808) (w : World) : Calls Try.prog 30 #[.int .i64 x, .int .i64 n] w fun e w' => ∃ j, e = .returned (.int .i64 j) ∧ (0 ≤ j ∧ j < n) ∧ w' = w := by
  obtain ⟨n1, n2⟩ := hn
  have h1 := Int.tmod_lt_of_pos x (show 0 < n by omega)
  have h2 : -n < Int.tmod x n := by
    by_cases q : 0 ≤ x
    · have := Int.tmod_nonneg n q
      omega
    · have e : x = -(-x) := by omega
      have h5 := Int.tmod_lt_of_pos (-x) (show 0 < n by omega)
      rw [e, Int.neg_tmod]
      omega
  have n0 : ¬ n = 0 := by omega
  have n0' : (n == 0) = false := by simpa using n0
  go_enter Try.func30, Try.ntmps30
  go_wp2
  go_ret
  exact ⟨_, rfl, ⟨Int.emod_nonneg _ (by omega), Int.emod_lt_of_pos _ (by omega)⟩, rfl⟩
end Go.Proofs.Ytmhfgfgiiinpjaa.V
