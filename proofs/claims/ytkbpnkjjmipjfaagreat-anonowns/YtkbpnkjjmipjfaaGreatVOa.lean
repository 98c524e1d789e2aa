/- How a configuration that the statements take is read: numbers, a list of turns, a list of partitions each with a list of colours; no condition. -/
import Derived.Test.YtkbpnkjjmipjfaaGreatVFa
import Derived.Lib.SmallJoins
import Derived.SizedLaws
namespace Go.Proofs.YtkbpnkjjmipjfaaGreat
open Go.ChangeShapes Go.WideShapes Go.ChangeAt Go.RowKit Go.Deep
set_option linter.unusedVariables false
set_option maxRecDepth 8192

theorem laidOut : laidOutB Tryz.prog = true := by kernel_rfl
theorem Tryz.cells3 : Tryz.prog.cellsOf 3 = 1 := by kernel_rfl
theorem wf_i64 {n : Int} (h : (Lit.int .i64 n).wf = true) : -9223372036854775808 ≤ n ∧ n ≤ 9223372036854775807 := by
  have := bounds_i64 h
  omega
end Go.Proofs.YtkbpnkjjmipjfaaGreat
namespace Go.Proofs.YtkbpnkjjmipjfaaGreat.Pg
open Go.ChangeShapes Go.WideShapes Go.ChangeAt Go.RowKit Go.Deep
set_option linter.unusedVariables false

theorem open_is {H : Type} {enc : TypeId × Value → H} {W : World} {a0 : Option Addr} {l c : Nat} {d : DataW H} {p : List MemPlace}
    (h : DataW.Trod enc Tryz.prog W 0 (fun _ => true) true 25 (.slice a0 l c) d p) :
    ∃ (f : Nat → Int), l ≤ maxLen ∧ Arg W a0 l f ∧ (∀ i, i < l → -9223372036854775808 ≤ f i ∧ f i ≤ 9223372036854775807) ∧ (l = 0 ∨ ∃ es sp, d = .slice es sp ∧ l ≤ es.length + sp.length) ∧ (a0 = none → l = 0 ∧ c = 0) := by
  obtain ⟨fuel, h⟩ := h
  rcases open_ints Tryz.underlying25 Tryz.underlying3 Tryz.cells3 h with ⟨hcs, _⟩ | ⟨a, l', c', zs, hcs, _, hlc, hcm, hlen, hx, hcell, hwf⟩
  · simp [Value.cells] at hcs
    obtain ⟨rfl, rfl, rfl⟩ := hcs
    exact ⟨fun _ => 0, Nat.zero_le _, Or.inl rfl, fun i hi => by omega, Or.inl rfl, fun _ => ⟨rfl, rfl⟩⟩
  · simp [Value.cells] at hcs
    obtain ⟨rfl, rfl, rfl⟩ := hcs
    simp at hlen
    refine ⟨fun i => zs.getD i 0, by omega, ?_, fun i hi => ?_, Or.inr ⟨_, _, (Prod.mk.inj hx).1, ?_⟩, fun h => by cases h⟩
    · by_cases h0 : l = 0
      · exact Or.inl h0
      · right
        have hfirst := hcell 0 (by omega)
        obtain ⟨b, off, spot⟩ := a
        have hspot : spot = none := by simpa [Addr.add] using World.cell?_spot hfirst
        subst hspot
        refine ⟨b, off, rfl, ?_, fun i hi => ?_⟩
        · have := World.block_lt_of_cell? W _ hfirst
          simpa [Addr.add] using this
        · have := hcell i (by omega)
          rw [Go.WideShapes.add_plain] at this
          exact this
    · have hi' : i < zs.length := by omega
      have : zs.getD i 0 ∈ zs := by
        rw [List.getD_eq_getElem?_getD, List.getElem?_eq_getElem hi']
        exact List.getElem_mem _
      exact wf_i64 (hwf _ this)
    · simp [lits]
      omega
end Go.Proofs.YtkbpnkjjmipjfaaGreat.Pg
