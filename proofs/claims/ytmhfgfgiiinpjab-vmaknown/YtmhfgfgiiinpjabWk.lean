/- Find of package vma: what it answers; no condition but those named. -/
import Derived.Test.YtmhfgfgiiinpjabWj
namespace Go.Proofs.Ytmhfgfgiiinpjab.V
open Go.ChangeShapes Go.WideShapes Go.ChangeAt Go.RowKit
set_option linter.unusedVariables false
set_option maxRecDepth 8192

def z3 : Rg := ⟨0, 0, 0⟩
def fo (l : List Rg) (x : Int) : Rg × Bool := match fnd l x with
  | none => (z3, false)
  | some r => (r, true)
def fiV (l : List Rg) (x : Int) : Rg × Bool × Int := if chk l ≠ 0 then (z3, false, chk l) else if x < 0 ∨ 1048576 ≤ x then (z3, false, 2) else ((fo l x).1, (fo l x).2, 0)
def Fn3 (w : World) (a : Rg × Bool × Int) (e : Ending) (w' : World) : Prop := e = .returned (.tuple #[rv a.1, .bool a.2.1, .int .i64 a.2.2]) ∧ Below w.heap.size w w'
theorem res3 {fn : Func} {p u v : Tmp} {ty : TypeId} (h : fn.results = #[.cell p ty, .tmp u, .tmp v]) (tmps : Array Value) (w : World) (ad : Addr) (a b c : Value) (hp : tmps.getD p undef = .pointer (some ad)) (hu : tmps.getD u undef = b) (hv : tmps.getD v undef = c) (hl : (loadVar ty ad).run Try.prog w = .ok a w) :
    (results fn tmps).run Try.prog w = .ok (.tuple #[a, b, c]) w := by
  simp only [results, h]
  simp [Sem.run_bind, Result.andThen, asAddr] at *
  simp [hp, hu, hv, hl]
/-- The result's box, ahead of the store that writes it. -/
structure Bz (w w1 : World) : Prop where
  be : Below w.heap.size w w1
  bx : ∃ old : Array Value, old.size = 3 ∧ w1.heap[w.heap.size]? = some (.cells old 26 (0, 0))
theorem Bz.new (w : World) : Bz w (w.alloc (.cells #[.int .i64 0, .int .i64 0, .int .u8 0] 26)) := ⟨below1 w _, _, rfl, heap_alloc_last w _⟩
theorem Bz.next {w w1 w2 : World} (h : Bz w w1) (k : Below w1.heap.size w1 w2) : Bz w w2 := by
  obtain ⟨old, h1, h2⟩ := h.bx
  refine ⟨bs h.be k, old, h1, ?_⟩
  have hl : w.heap.size < w1.heap.size := (Array.getElem?_eq_some_iff.1 h2).1
  rw [k.block _ hl]; exact h2
theorem Bz.fin {w w1 : World} (h : Bz w w1) (r : Rg) : (loadVar 26 ⟨w.heap.size, 0, none⟩).run Try.prog (w1.setRow w.heap.size #[.int .i64 r.p, .int .i64 r.n, .int .u8 r.m]) = .ok (rv r) (w1.setRow w.heap.size #[.int .i64 r.p, .int .i64 r.n, .int .u8 r.m]) ∧ Below w.heap.size w (w1.setRow w.heap.size #[.int .i64 r.p, .int .i64 r.n, .int .u8 r.m]) := by
  obtain ⟨old, h1, h2⟩ := h.bx
  refine ⟨run_loadVar_row _ w.heap.size 26 26 _ (0, 0) _ (setRow_heap w1 w.heap.size old _ 26 (0, 0) h2) Try.underlying26 rfl Try.sizeRg, h.be.os, h.be.tape, h.be.output, ?_, fun k hk => ?_⟩
  · rw [setRow_size]; exact h.be.size
  · rw [setRow_other _ _ _ _ (Nat.ne_of_lt hk)]; exact h.be.block k hk
theorem Bz.sto {w w1 : World} (h : Bz w w1) {ops : Array Oper} {rest : List Oper} {o : Oper} {a : Act} {Q : Exit → Act → World → Prop} (hgd : o.guard = none) (x y : Operand) (ho : o.op = .store 26 x y) (r : Rg)
    (hx : a.eval x = .pointer (some ⟨w.heap.size, 0, none⟩)) (hy : a.eval y = .agg #[.int .i64 r.p, .int .i64 r.n, .int .u8 r.m]) (k : wpList Try.prog ops Q rest (a.put o.dst undef) (w1.setRow w.heap.size #[.int .i64 r.p, .int .i64 r.n, .int .u8 r.m])) : wpList Try.prog ops Q (o :: rest) a w1 := by
  obtain ⟨old, h1, h2⟩ := h.bx
  exact wpList_store_row hgd 26 x y ho w.heap.size _ hx hy 26 old h2 Try.sizeRg h1 (by simp [Value.oneCell']) k
end Go.Proofs.Ytmhfgfgiiinpjab.V
