/- A counter as its four numbers: what New and the methods of package cycles, and those of the document's answer, give back; no condition but the ranges that each theorem names. -/
import Derived.Test.YtbaonclncfjneaaRows
import Derived.WalkKit
import Derived.ProofKit
import Derived.OpenShut
import Derived.WalkSpells
import Derived.WalkLawsBesides
import Derived.Deep.QuietTactic
import Derived.BigQuiet
import Derived.Deep.WholeRow
namespace Go.Proofs.Ytbaonclncfjneaa
open Go.ChangeShapes Go.WideShapes Go.ChangeAt Go.RowKit
set_option linter.unusedVariables false

theorem own : ownKnob Try.prog.godebug = none := by kernel_rfl
theorem ret_int {k : IntKind} {a b : Int} (h : a = b) : Ending.returned (.int k a) = .returned (.int k b) := by rw [h]
theorem ret_bool {a b : Bool} (h : a = b) : Ending.returned (.bool a) = .returned (.bool b) := by rw [h]
theorem some_ne {a b : Nat} (h : a ≠ b) : some a ≠ some b := fun e => h (by injection e)

/-- A block of cells, as a list. -/
def Blk (w : World) (g : Nat) (ty : TypeId) (L : List Value) : Prop := w.heap[g]? = some (.cells L.toArray ty (0, 0))
theorem Blk.lt {w : World} {g : Nat} {ty : TypeId} {L : List Value} (h : Blk w g ty L) : g < w.heap.size := (Array.getElem?_eq_some_iff.1 h).1
theorem Blk.cell {w : World} {g : Nat} {ty : TypeId} {L : List Value} (h : Blk w g ty L) (i : Nat) : w.cell? ⟨g, i, none⟩ = L[i]? := by
  rw [cell_of_row w g i _ ty (0, 0) h]; simp
theorem Blk.frozen {w : World} {g : Nat} {ty : TypeId} {L : List Value} (h : Blk w g ty L) (i : Nat) : w.frozen? ⟨g, i, none⟩ = false := by
  unfold Blk at h
  simp [World.frozen?, h]
theorem Blk.of_eq {w w' : World} {g : Nat} {ty : TypeId} {L : List Value} (h : Blk w g ty L) (e : w'.heap[g]? = w.heap[g]?) : Blk w' g ty L := by unfold Blk at *; rw [e, h]
theorem Blk.kept {w w' : World} {g : Nat} {ty : TypeId} {L : List Value} {row : Option Nat} (h : Blk w g ty L) (k : w.grownBy w' row) (hne : some g ≠ row) : Blk w' g ty L := h.of_eq (k.block g h.lt hne)
theorem Blk.set {w : World} {g : Nat} {ty : TypeId} {L : List Value} (h : Blk w g ty L) (i : Nat) (v : Value) : Blk (w.setCell ⟨g, i, none⟩ v) g ty (L.set i v) := by
  unfold Blk at *
  simp only [World.setCell, Array.getElem?_modify, if_true, h]
  simp
theorem blk_new (w : World) (L : List Value) (ty : TypeId) : Blk (w.alloc (.cells L.toArray ty)) w.heap.size ty L := heap_alloc_last w _
theorem grown_setCell' (w : World) (g k : Nat) (v : Value) : w.grownBy (w.setCell ⟨g, k, none⟩ v) (some g) :=
  ⟨rfl, rfl, rfl, by simp [World.setCell], fun i hi hne => Below.heap_setCell _ _ _ _ (by intro h; exact hne (by rw [h]))⟩
/-- A counter: its slice, its pad, the slice's number, what has passed. -/
def Ctr (ty : TypeId) (w : World) (p : Nat) (s d n q : Int) : Prop := Blk w p ty [.int .u64 s, .int .u64 d, .int .u64 n, .int .u64 q]
/-- The numbers that a counter may have. -/
structure Ok (s d n q : Int) : Prop where
  s1 : 1 ≤ s
  s2 : s ≤ 4194304
  d1 : 0 ≤ d
  d2 : d ≤ 4194304
  n1 : 0 ≤ n
  n2 : n ≤ 1099511627776
  q1 : 0 ≤ q
  q2 : q ≤ s
  e : n = 1099511627776 → q = 0
theorem prod_le (n t : Int) (h1 : 0 ≤ n) (h2 : n ≤ 1099511627776) (h3 : 0 ≤ t) (h4 : t ≤ 8388608) : 0 ≤ n * t ∧ n * t ≤ 9223372036854775808 := by
  refine ⟨Int.mul_nonneg h1 h3, ?_⟩
  have : n * t ≤ 1099511627776 * 8388608 := Int.mul_le_mul h2 h4 h3 (by omega)
  omega
/-- What a slice has left. -/
def lf (s n q : Int) : Int := if n = 1099511627776 then 0 else s - q
theorem Ok.lf0 {s d n q : Int} (h : Ok s d n q) : 0 ≤ lf s n q ∧ lf s n q ≤ 4194304 := by
  have := h.q2; have := h.q1; have := h.s2; have := h.s1
  unfold lf
  split <;> omega
theorem Ctr.kept {ty : TypeId} {w w' : World} {p : Nat} {s d n q : Int} {row : Option Nat} (h : Ctr ty w p s d n q) (k : w.grownBy w' row) (hne : some p ≠ row) : Ctr ty w' p s d n q := Blk.kept h k hne
theorem Ctr.lt {ty : TypeId} {w : World} {p : Nat} {s d n q : Int} (h : Ctr ty w p s d n q) : p < w.heap.size := Blk.lt h
theorem Ctr.c0 {ty : TypeId} {w : World} {p : Nat} {s d n q : Int} (h : Ctr ty w p s d n q) : w.cell? ⟨p, 0, none⟩ = some (.int .u64 s) := Blk.cell h 0
theorem Ctr.c1 {ty : TypeId} {w : World} {p : Nat} {s d n q : Int} (h : Ctr ty w p s d n q) : w.cell? ⟨p, 1, none⟩ = some (.int .u64 d) := Blk.cell h 1
theorem Ctr.c2 {ty : TypeId} {w : World} {p : Nat} {s d n q : Int} (h : Ctr ty w p s d n q) : w.cell? ⟨p, 2, none⟩ = some (.int .u64 n) := Blk.cell h 2
theorem Ctr.c3 {ty : TypeId} {w : World} {p : Nat} {s d n q : Int} (h : Ctr ty w p s d n q) : w.cell? ⟨p, 3, none⟩ = some (.int .u64 q) := Blk.cell h 3
theorem Ctr.f2 {ty : TypeId} {w : World} {p : Nat} {s d n q : Int} (h : Ctr ty w p s d n q) : w.frozen? ⟨p, 2, none⟩ = false := Blk.frozen h 2
theorem Ctr.f3 {ty : TypeId} {w : World} {p : Nat} {s d n q : Int} (h : Ctr ty w p s d n q) : w.frozen? ⟨p, 3, none⟩ = false := Blk.frozen h 3

/-! ### The program -/
/-- May a slice and a pad be? -/
def may (s d : Int) : Bool := decide (1 ≤ s) && decide (s ≤ 4194304) && decide (d ≤ 4194304)
theorem areLengths_any (s d : Int) (w : World) : Calls Try.prog 26 #[.int .u64 s, .int .u64 d] w fun e w' => e = .returned (.bool (may s d)) ∧ w' = w := by
  unfold may
  by_cases a1 : 1 ≤ s <;> by_cases a2 : s ≤ 4194304 <;> by_cases a3 : d ≤ 4194304 <;>
  ( go_enter Try.func26, Try.ntmps26
    go_wp2
    go_ret
    exact ⟨ret_bool (by simp [a1, a2, a3]), rfl⟩)
theorem May_any (s d : Int) (w : World) : Calls Try.prog 27 #[.int .u64 s, .int .u64 d] w fun e w' => e = .returned (.bool (may s d)) ∧ w' = w := by
  unfold may
  by_cases a1 : 1 ≤ s <;> by_cases a2 : s ≤ 4194304 <;> by_cases a3 : d ≤ 4194304 <;>
  ( go_enter Try.func27, Try.ntmps27
    go_wp2
    go_ret
    exact ⟨ret_bool (by simp [a1, a2, a3]), rfl⟩)
theorem begin_any (k s d : Int) (h0 : 0 ≤ s + d) (h1 : s + d ≤ 8388608) (p0 : 0 ≤ k * (s + d)) (p1 : k * (s + d) ≤ 9223372036854775808) (w : World) :
    Calls Try.prog 29 #[.int .u64 k, .int .u64 s, .int .u64 d] w fun e w' => e = .returned (.int .u64 (k * (s + d))) ∧ w' = w := by
  go_enter Try.func29, Try.ntmps29
  go_wp2
  go_ret
  exact ⟨ret_int (by go_num), rfl⟩
theorem made_any {w : World} {p : Nat} {s d n q : Int} (h : Ctr 58 w p s d n q) (h1 : 1 ≤ s) :
    Calls Try.prog 28 #[.pointer (some ⟨p, 0, none⟩)] w fun e w' => e = .returned (.bool true) ∧ w' = w := by
  have hc := h.c0
  clear h
  go_enter Try.func28, Try.ntmps28
  go_wp2
  go_ret
  exact ⟨ret_bool (by simp; omega), rfl⟩
theorem halted_any {w : World} {p : Nat} {s d n q : Int} (h : Ctr 58 w p s d n q) :
    Calls Try.prog 30 #[.pointer (some ⟨p, 0, none⟩)] w fun e w' => e = .returned (.bool (decide (n = 1099511627776))) ∧ w' = w := by
  have hc := h.c2
  clear h
  go_enter Try.func30, Try.ntmps30
  go_wp2
  go_ret
  exact ⟨ret_bool (by first | rfl | simp), rfl⟩
end Go.Proofs.Ytbaonclncfjneaa
