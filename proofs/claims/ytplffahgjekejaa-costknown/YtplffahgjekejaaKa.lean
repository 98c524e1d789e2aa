/- The numbers of the statement CostKnown: the chapter's bounds, costs that may not be, shapes that may not be. -/
import Derived.Test.YtplffahgjekejaaSm
namespace Go.Proofs.Ytplffahgjekejaa
open Go.ChangeShapes Go.WideShapes Go.ChangeAt Go.RowKit
set_option linter.unusedVariables false

/-- The chapter's bounds. -/
def wn : List Int := [40, 380, 480, 2080, 2300, 2728, 1448, 2728, 804, 1708, 40, 40]
def wg (k : Nat) : Int := wn.getD k 0
theorem wg_bd (k : Nat) (h : k < 12) : bd c0 s0 k = wg k := by
  obtain rfl | rfl | rfl | rfl | rfl | rfl | rfl | rfl | rfl | rfl | rfl | rfl : k = 0 ∨ k = 1 ∨ k = 2 ∨ k = 3 ∨ k = 4 ∨ k = 5 ∨ k = 6 ∨ k = 7 ∨ k = 8 ∨ k = 9 ∨ k = 10 ∨ k = 11 := by omega
  all_goals decide
theorem mx_c0 : mx c0 s0 11 = 2728 := by decide
/-- Costs that may not be. -/
def wc : Nat → Co
  | 0 => ⟨0, 4, 20, 10, 2, 100⟩
  | 1 => ⟨1, 0, 20, 10, 2, 100⟩
  | 2 => ⟨1, 4, 3, 10, 2, 100⟩
  | 3 => ⟨5, 4, 20, 10, 2, 100⟩
  | 4 => ⟨1, 4, 65537, 10, 2, 100⟩
  | 5 => ⟨1, 4, 20, 0, 2, 100⟩
  | 6 => ⟨1, 4, 20, 10, 0, 100⟩
  | 7 => ⟨1, 4, 20, 10, 2, 0⟩
  | 8 => ⟨1, 4, 20, 10, 2, 65537⟩
  | _ => ⟨1, 4, 20, 10, 18446744073709551615, 100⟩
theorem wc_no (k : Nat) (h : k < 10) : okC (wc k) = false := by
  obtain rfl | rfl | rfl | rfl | rfl | rfl | rfl | rfl | rfl | rfl : k = 0 ∨ k = 1 ∨ k = 2 ∨ k = 3 ∨ k = 4 ∨ k = 5 ∨ k = 6 ∨ k = 7 ∨ k = 8 ∨ k = 9 := by omega
  all_goals decide
/-- Costs as values. -/
def en6 (c : Co) : List Value := [.int .u64 c.l1, .int .u64 c.llc, .int .u64 c.mi, .int .u64 c.fa, .int .u64 c.st, .int .u64 c.di]
def enC : Nat → List Value
  | 0 => []
  | k + 1 => enC k ++ en6 (wc k)
theorem enC_len (k : Nat) : (enC k).length = k * 6 := by
  induction k with
  | zero => rfl
  | succ k ih => simp [enC, en6, ih]; omega
theorem enC_get (k i j : Nat) (h : i < k) (hj : j < 6) : (enC k)[i * 6 + j]? = (en6 (wc i))[j]? := by
  induction k with
  | zero => omega
  | succ k ih =>
    simp only [enC]
    by_cases hi : i = k
    · subst hi
      rw [List.getElem?_append_right (by rw [enC_len]; omega), enC_len]
      congr 1
      omega
    · rw [List.getElem?_append_left (by rw [enC_len]; omega)]
      exact ih (by omega)
/-- Shapes that may not be. -/
def ws : Nat → Sh
  | 0 => ⟨3, 8, 10, 5⟩
  | 1 => ⟨0, 8, 10, 5⟩
  | 2 => ⟨16, 8, 10, 5⟩
  | 3 => ⟨1, 1, 10, 5⟩
  | 4 => ⟨1, 4097, 10, 5⟩
  | 5 => ⟨1, 2, 0, 5⟩
  | 6 => ⟨1, 2, 5121, 5⟩
  | 7 => ⟨1, 2, 1, 0⟩
  | _ => ⟨1, 2, 1, 4097⟩
theorem ws_no (k : Nat) (h : k < 9) : okS (ws k) = false := by
  obtain rfl | rfl | rfl | rfl | rfl | rfl | rfl | rfl | rfl : k = 0 ∨ k = 1 ∨ k = 2 ∨ k = 3 ∨ k = 4 ∨ k = 5 ∨ k = 6 ∨ k = 7 ∨ k = 8 := by omega
  all_goals decide
def en4 (s : Sh) : List Value := [.int .i64 s.im, .int .i64 s.us, .int .i64 s.li, .int .i64 s.no]
def enS : Nat → List Value
  | 0 => []
  | k + 1 => enS k ++ en4 (ws k)
theorem enS_len (k : Nat) : (enS k).length = k * 4 := by
  induction k with
  | zero => rfl
  | succ k ih => simp [enS, en4, ih]; omega
theorem enS_get (k i j : Nat) (h : i < k) (hj : j < 4) : (enS k)[i * 4 + j]? = (en4 (ws i))[j]? := by
  induction k with
  | zero => omega
  | succ k ih =>
    simp only [enS]
    by_cases hi : i = k
    · subst hi
      rw [List.getElem?_append_right (by rw [enS_len]; omega), enS_len]
      congr 1
      omega
    · rw [List.getElem?_append_left (by rw [enS_len]; omega)]
      exact ih (by omega)
/-- All shapes of the statement, as they are laid. -/
theorem enS_all : enS 9 = [.int .i64 3, .int .i64 8, .int .i64 10, .int .i64 5, .int .i64 0, .int .i64 8, .int .i64 10, .int .i64 5, .int .i64 16, .int .i64 8, .int .i64 10, .int .i64 5, .int .i64 1, .int .i64 1, .int .i64 10, .int .i64 5, .int .i64 1, .int .i64 4097, .int .i64 10, .int .i64 5, .int .i64 1, .int .i64 2, .int .i64 0, .int .i64 5, .int .i64 1, .int .i64 2, .int .i64 5121, .int .i64 5, .int .i64 1, .int .i64 2, .int .i64 1, .int .i64 0, .int .i64 1, .int .i64 2, .int .i64 1, .int .i64 4097] := rfl
theorem sh_cells (w : World) (C : Array Value) (hC : C = (enS 9).toArray) (i : Nat) (hi : i < 9) :
    (w.alloc (.cells C 35)).cell? ⟨w.heap.size, i * 4, none⟩ = some (.int .i64 (ws i).im) ∧ (w.alloc (.cells C 35)).cell? ⟨w.heap.size, i * 4 + 1, none⟩ = some (.int .i64 (ws i).us) ∧ (w.alloc (.cells C 35)).cell? ⟨w.heap.size, i * 4 + 2, none⟩ = some (.int .i64 (ws i).li) ∧ (w.alloc (.cells C 35)).cell? ⟨w.heap.size, i * 4 + 3, none⟩ = some (.int .i64 (ws i).no) := by
  subst hC
  have h : ∀ j, j < 4 → (w.alloc (.cells (enS 9).toArray 35)).cell? ⟨w.heap.size, i * 4 + j, none⟩ = (en4 (ws i))[j]? := fun j hj => by
    rw [cell_of_row _ _ (i * 4 + j) _ 35 (0, 0) (heap_alloc_last w _), List.getElem?_toArray]
    exact enS_get 9 i j hi hj
  exact ⟨h 0 (by omega), h 1 (by omega), h 2 (by omega), h 3 (by omega)⟩
theorem cells_new (w : World) (L : List Value) (t : TypeId) : ∀ j u, L[j]? = some u → (w.alloc (.cells L.toArray t)).cell? ((⟨w.heap.size, 0, none⟩ : Addr).add j) = some u := by
  intro j u hu
  rw [Go.WideShapes.add_plain, cell_of_row _ _ (0 + j) _ t (0, 0) (heap_alloc_last w _), Nat.zero_add, List.getElem?_toArray]
  exact hu
theorem Try.infoC : (Try.prog.info? 24).map (fun i => (i.zero, i.size, i.bytes)) = some (some (.agg #[.int .u64 0, .int .u64 0, .int .u64 0, .int .u64 0, .int .u64 0, .int .u64 0]), 6, 48) := by kernel_rfl
theorem wn_cells (w : World) (i : Nat) (hi : i < 12) (C : Array Value) (hC : C = (enU wg 12).toArray) : (w.alloc (.cells C 22)).cell? ⟨w.heap.size, i, none⟩ = some (.int .u64 (wg i)) := by
  subst hC
  rw [cell_of_row _ _ i _ 22 (0, 0) (heap_alloc_last w _), List.getElem?_toArray]
  exact enU_get wg 12 i hi
/-- The greatest costs. -/
def cb : Co := ⟨65536, 65536, 65536, 65536, 65536, 65536⟩
theorem cb_ok : cb.Ok := okC_iff.1 (by decide)
theorem sb_ok : (Sh.mk 8 4096 5120 4096).Ok := okS_iff.1 (by decide)
theorem bd_big : bd cb ⟨8, 4096, 5120, 4096⟩ 3 = 5302190080 := by decide
end Go.Proofs.Ytplffahgjekejaa
