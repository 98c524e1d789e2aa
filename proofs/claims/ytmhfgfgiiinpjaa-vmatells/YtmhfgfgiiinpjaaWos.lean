/- How great a list of regions that a statement takes may be; no condition. -/
import Derived.Test.YtmhfgfgiiinpjaaWop
namespace Go.Proofs.Ytmhfgfgiiinpjaa.V
open Go.ChangeShapes Go.WideShapes Go.ChangeAt Go.RowKit Go.Deep
set_option linter.unusedVariables false

theorem Try.bytesRg : Try.prog.bytesOf 29 = 24 := by kernel_rfl
theorem regs_size {H : Type} {enc : TypeId × Value → H} {W : World} {a0 : Option Addr} {len cap : Nat} {d : DataW H} {p : List MemPlace} (hw : ∀ y ∈ d.weights Try.prog 22, y ≤ reachBytes)
    (h : DataW.Trod enc Try.prog W 0 (fun _ => true) true 22 (.slice a0 len cap) d p) : len * 24 ≤ 140737488351232 := by
  obtain ⟨fuel, hf⟩ := h
  rcases DataW.trod_slice Try.underlying22 hf with ⟨hcs, hx⟩ | ⟨a, l, c, elems, rest, n, _, hcs, hx, _, hlc, hcm, hlen, hel, _, _⟩
  · simp [Value.cells] at hcs
    obtain ⟨rfl, rfl, rfl⟩ := hcs
    omega
  · simp [Value.cells] at hcs
    obtain ⟨rfl, rfl, rfl⟩ := hcs
    have hd : d = .slice (elems.map (·.1)) (rest.map (·.1)) := (Prod.mk.inj hx).1
    have hm : ((elems.map (·.1)).length + (rest.map (·.1)).length) * Try.prog.bytesOf 29 ∈ d.weights Try.prog 22 := by
      rw [hd]
      simp [DataW.weights, Try.underlying22]
    have := hw _ hm
    rw [Try.bytesRg, List.length_map] at this
    simp only [reachBytes] at this
    omega
end Go.Proofs.Ytmhfgfgiiinpjaa.V
