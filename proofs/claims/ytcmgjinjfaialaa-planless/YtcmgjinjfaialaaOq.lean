/- How a list of numbers is read, with the ranges of its numbers; no condition. -/
import Derived.Test.YtcmgjinjfaialaaOp
namespace Go.Proofs.Ytcmgjinjfaialaa
open Go.ChangeShapes Go.WideShapes Go.ChangeAt Go.RowKit Go.Deep
set_option linter.unusedVariables false

theorem open_by {H : Type} {enc : TypeId × Value → H} {W : World} {fuel : Nat} {cs : List Value} {x : DataW H × List MemPlace}
    (h : DataW.trod enc Try.prog W 0 (fun _ => true) true fuel 25 cs = some x) :
    ∃ a0 l c f, cs = [.slice a0 l c] ∧ Arg W a0 l f ∧ (∀ i, i < l → -9223372036854775808 ≤ f i ∧ f i ≤ 9223372036854775807) ∧ (l = 0 ∨ ∃ es sp, x.1 = .slice es sp ∧ l ≤ es.length + sp.length) := by
  rcases open_ints Try.underlying25 Try.underlying3 Try.cells3 h with ⟨hcs, _⟩ | ⟨a, l', c', zs, hcs, _, hlc, hcm, hlen, hx, hcell, hwf⟩
  · subst hcs
    exact ⟨none, 0, 0, fun _ => 0, rfl, Or.inl rfl, fun i hi => by omega, Or.inl rfl⟩
  · subst hcs
    simp at hlen
    refine ⟨some a, l', c', fun i => zs.getD i 0, rfl, ?_, fun i hi => ?_, Or.inr ⟨_, _, by rw [hx], ?_⟩⟩
    · by_cases h0 : l' = 0
      · exact Or.inl h0
      · right
        have hfirst := hcell 0 (by omega)
        obtain ⟨b, off, spot⟩ := a
        have hspot : spot = none := by simpa [Addr.add] using World.cell?_spot hfirst
        subst hspot
        refine ⟨b, off, rfl, ?_, fun i hi => ?_⟩
        · have := World.block_lt_of_cell? W _ hfirst
          simpa [Addr.add] using this
        · have := hcell i (by omega)
          rw [Go.WideShapes.add_plain] at this
          exact this
    · have hi2 : i < zs.length := by omega
      have e : zs.getD i 0 = zs[i] := by simp [List.getD, hi2]
      show -9223372036854775808 ≤ zs.getD i 0 ∧ zs.getD i 0 ≤ 9223372036854775807
      rw [e]
      exact wf_i64 (hwf _ (List.getElem_mem hi2))
    · simp [lits]
      omega
end Go.Proofs.Ytcmgjinjfaialaa
