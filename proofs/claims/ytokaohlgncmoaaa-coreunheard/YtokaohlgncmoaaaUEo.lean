/- How a list of addresses is read; no condition. -/
import Derived.Test.YtokaohlgncmoaaaUOa
import Derived.Test.YtokaohlgncmoaaaUGb
namespace Go.Proofs.Ytokaohlgncmoaaa.E
open Go.ChangeShapes Go.WideShapes Go.ChangeAt Go.RowKit Go.Deep
set_option linter.unusedVariables false

theorem open_us {H : Type} {enc : TypeId × Value → H} {W : World} {a0 : Option Addr} {l c : Nat} {d : DataW H} {p : List MemPlace}
    (h : DataW.Trod enc Try.prog W 0 (fun _ => true) true 29 (.slice a0 l c) d p) :
    ∃ (f : Nat → Nat), l ≤ maxLen ∧ AU W a0 l f ∧ (∀ i, i < l → f i < 18446744073709551616) ∧ (l = 0 ∨ ∃ es sp, d = .slice es sp ∧ l ≤ es.length + sp.length) ∧ (a0 = none → l = 0 ∧ c = 0) := by
  obtain ⟨fuel, h⟩ := h
  rcases open_ints Try.underlying29 Try.underlying22 Try.cellsU h with ⟨hcs, _⟩ | ⟨a, l', c', zs, hcs, _, hlc, hcm, hlen, hx, hcell, hwf⟩
  · simp [Value.cells] at hcs
    obtain ⟨rfl, rfl, rfl⟩ := hcs
    exact ⟨fun _ => 0, Nat.zero_le _, Or.inl rfl, fun i hi => by omega, Or.inl rfl, fun _ => ⟨rfl, rfl⟩⟩
  · simp [Value.cells] at hcs
    obtain ⟨rfl, rfl, rfl⟩ := hcs
    simp at hlen
    have hin : ∀ i, i < l → 0 ≤ zs.getD i 0 ∧ zs.getD i 0 < 18446744073709551616 := by
      intro i hi
      have hi' : i < zs.length := by omega
      have : zs.getD i 0 ∈ zs := by
        rw [List.getD_eq_getElem?_getD, List.getElem?_eq_getElem hi']
        exact List.getElem_mem _
      exact wf_u64 (hwf _ this)
    refine ⟨fun i => (zs.getD i 0).toNat, by omega, ?_, fun i hi => ?_, Or.inr ⟨_, _, (Prod.mk.inj hx).1, ?_⟩, fun h => by cases h⟩
    · by_cases h0 : l = 0
      · exact Or.inl h0
      · right
        have hfirst := hcell 0 (by omega)
        obtain ⟨b, off, spot⟩ := a
        have hspot : spot = none := by simpa [Addr.add] using World.cell?_spot hfirst
        subst hspot
        refine ⟨b, off, rfl, ?_, fun i hi => ?_⟩
        · have := World.block_lt_of_cell? W _ hfirst
          simpa [Addr.add] using this
        · have := hcell i (by omega)
          rw [Go.WideShapes.add_plain] at this
          rw [Int.toNat_of_nonneg (hin i hi).1]
          exact this
    · have := hin i hi
      show (zs.getD i 0).toNat < _
      omega
    · simp [lits]
      omega
end Go.Proofs.Ytokaohlgncmoaaa.E
