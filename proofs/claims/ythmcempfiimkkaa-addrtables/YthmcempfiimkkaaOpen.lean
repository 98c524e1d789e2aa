/- How a slice of spans that was handed in is read: its elements are pairs of ints that lie one behind the other; no condition. -/
import Derived.Test.YthmcempfiimkkaaTabs
import Derived.Deep.SlicePairs
import Derived.Lib.SmallJoins
namespace Go.Proofs.Ythmcempfiimkkaa
open Go.ChangeShapes Go.WideShapes Go.ChangeAt Go.RowKit Go.Deep
set_option linter.unusedVariables false

theorem Try.cellsS : Try.prog.cellsOf 49 = 2 := by kernel_rfl
theorem laidOut : laidOutB Try.prog = true := by kernel_rfl
/-- Numbers of an int's kind, both. -/
def wfS (s : Int × Int) : Prop := (Lit.int .i64 s.1).wf = true ∧ (Lit.int .i64 s.2).wf = true

theorem open_spans {H : Type} {enc : TypeId × Value → H} {W : World} {a0 : Option Addr} {len cap : Nat} {d : DataW H} {p : List MemPlace}
    (h : DataW.Trod enc Try.prog W 0 (fun _ => true) true 33 (.slice a0 len cap) d p) :
    ∃ (b off : Nat) (xs : List (Int × Int)), xs.length = len ∧ len ≤ cap ∧ cap ≤ maxLen ∧ (∀ s ∈ xs, wfS s) ∧ (xs = [] ∨ a0 = some ⟨b, off, none⟩ ∧ Row W b off xs) ∧
      (d = .nil ∧ cap = 0 ∨ ∃ es sp, d = .slice es sp ∧ es.length = len ∧ sp.length = cap - len) := by
  obtain ⟨fuel, hf⟩ := h
  rcases open_slice_pairs Try.underlying33 Try.underlying49 Try.cellsS rfl rfl (by kernel_rfl) (by kernel_rfl) hf with ⟨hcs, hx⟩ | ⟨a, l, c, m, n, V0, V1, D0, D1, P0, P1, hcs, _, hl, hm, hmm, hx, hcell⟩
  · simp [Value.cells] at hcs
    obtain ⟨rfl, rfl, rfl⟩ := hcs
    exact ⟨0, 0, [], rfl, Nat.le_refl _, Nat.zero_le _, by simp, Or.inl rfl, Or.inl ⟨(Prod.mk.inj hx).1, rfl⟩⟩
  · simp [Value.cells] at hcs
    obtain ⟨rfl, rfl, rfl⟩ := hcs
    simp only [if_true] at hmm
    subst hmm
    have hN : ∀ i, i < m → ∃ x y : Int, V0 i = .int .i64 x ∧ V1 i = .int .i64 y ∧ wfS (x, y) := by
      intro i hi
      obtain ⟨_, _, t0, t1⟩ := hcell i hi
      obtain ⟨x, e0, _, w0⟩ := DataW.trod_int Try.underlying3 t0
      obtain ⟨y, e1, _, w1⟩ := DataW.trod_int Try.underlying3 t1
      simp at e0 e1
      exact ⟨x, y, e0, e1, w0, w1⟩
    have hD := (Prod.mk.inj hx).1
    refine ⟨a.block, a.off, (List.range len).map fun i => (intOf (V0 i), intOf (V1 i)), by simp, hl, hm, ?_, ?_, Or.inr ⟨_, _, hD, by simp, by simp⟩⟩
    · intro s hs
      simp only [List.mem_map, List.mem_range] at hs
      obtain ⟨i, hi, rfl⟩ := hs
      obtain ⟨x, y, e0, e1, hw⟩ := hN i (by omega)
      rw [e0, e1]; exact hw
    · by_cases h0 : len = 0
      · left; subst h0; rfl
      · right
        have hfirst := (hcell 0 (by omega)).1
        simp only [Nat.zero_mul] at hfirst
        obtain ⟨b, off, spot⟩ := a
        have hspot : spot = none := by simpa [Addr.add] using World.cell?_spot hfirst
        subst hspot
        refine ⟨rfl, ?_, ?_⟩
        · have := World.block_lt_of_cell? W _ hfirst
          simpa [Addr.add] using this
        · intro i hi
          have hi' : i < len := by simpa using hi
          obtain ⟨g0, g1, _, _⟩ := hcell i (by omega)
          obtain ⟨x, y, e0, e1, hw⟩ := hN i (by omega)
          rw [Go.WideShapes.add_plain] at g0 g1
          rw [e0] at g0
          rw [e1] at g1
          simp only [List.getElem_map, List.getElem_range, e0, e1, intOf]
          exact ⟨g0, by rw [← Nat.add_assoc] at g1; exact g1⟩
theorem wf_fits {s : Int × Int} (h : wfS s) : s.1 ≤ 9223372036854775807 ∧ s.2 ≤ 9223372036854775807 := ⟨(bounds_i64 h.1).2, (bounds_i64 h.2).2⟩
end Go.Proofs.Ythmcempfiimkkaa
