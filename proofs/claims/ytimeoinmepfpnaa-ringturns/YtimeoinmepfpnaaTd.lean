/- RingTurns: what holds of the row and of the truths which numbers are there; no condition. -/
import Derived.Test.YtimeoinmepfpnaaRt
namespace Go.Proofs.Ytimeoinmepfpnaa.Ri
open Go.ChangeShapes Go.WideShapes Go.ChangeAt Go.RowKit
set_option linter.unusedVariables false
set_option maxRecDepth 8192

/-- Thirty truths as cells: which numbers are there. -/
def th (L : List Int) : List Value := (List.range 30).map fun (i : Nat) => .bool (decide ((i : Int) ∈ L))
theorem th_at {L : List Int} {i : Nat} (h : i < 30) : (th L)[i]? = some (.bool (decide ((i : Int) ∈ L))) := by
  unfold th
  rw [List.getElem?_map, List.getElem?_range h]
  rfl
theorem th_nil : th [] = List.replicate 30 (.bool false) := by rfl
theorem th_set {L L' : List Int} {i : Nat} {b : Bool} (hi : decide ((i : Int) ∈ L') = b) (ho : ∀ k : Nat, k ≠ i → ((k : Int) ∈ L' ↔ (k : Int) ∈ L)) : (th L).set i (.bool b) = th L' := by
  apply List.ext_getElem?
  intro k
  unfold th
  rw [List.getElem?_set, List.getElem?_map, List.getElem?_map]
  by_cases hk : k < 30
  · rw [List.getElem?_range hk]
    by_cases e : i = k
    · subst e
      simp [hk, hi]
    · have e' : k ≠ i := fun q => e q.symm
      have := ho k e'
      simp [e, this]
  · rw [List.getElem?_eq_none (by simpa using hk)]
    simp
    intro e
    omega
theorem th_same {L L' : List Int} (p : L'.Perm L) : th L' = th L := by
  unfold th
  congr 1
  funext i
  simp only [p.mem_iff]
def Th (w : World) (b : Nat) (L : List Int) : Prop := Blk w b 47 (th L)
theorem Th.cell {w : World} {b : Nat} {L : List Int} (h : Th w b L) {i : Nat} (hi : i < 30) : w.cell? ⟨b, i, none⟩ = some (.bool (decide ((i : Int) ∈ L))) := (Blk.cell h i).trans (th_at hi)
theorem Th.set {w : World} {b i : Nat} {L L' : List Int} {t : Bool} (h : Th w b L) (hi : decide ((i : Int) ∈ L') = t) (ho : ∀ k : Nat, k ≠ i → ((k : Int) ∈ L' ↔ (k : Int) ∈ L)) : Th (w.setCell ⟨b, i, none⟩ (.bool t)) b L' := by
  have := Blk.set h i (.bool t)
  rw [th_set hi ho] at this
  exact this
/-- The ring, the truths; all in new memory. -/
structure Rd (B0 : Nat) (w : World) (p g b : Nat) (L : List Int) : Prop where
  rx : Rx w p g L
  th : Th w b L
  bp : b ≠ p
  bg : b ≠ g
  p0 : B0 ≤ p
  g0 : B0 ≤ g
  b0 : B0 ≤ b
  le : L.length ≤ 120
theorem Rd.below {B0 : Nat} {w w' : World} {p g b : Nat} {L : List Int} (h : Rd B0 w p g b L) (k : Below w.heap.size w w') : Rd B0 w' p g b L := ⟨h.rx.below k, Blk.below h.th k, h.bp, h.bg, h.p0, h.g0, h.b0, h.le⟩
/-- What Add, Remove leave ahead of the truth's turn. -/
theorem Rd.tn {B0 : Nat} {w w' : World} {p g b : Nat} {L L' : List Int} (h : Rd B0 w p g b L) (t : Tn w p g L' w') : ∃ g', Rx w' p g' L' ∧ Th w' b L ∧ b ≠ g' ∧ B0 ≤ g' ∧ Below B0 w w' := by
  obtain ⟨g', x, k, e⟩ := t
  have hb := Blk.lt h.th
  have hp := h.rx.pl
  have h1 := h.p0
  have h2 := h.g0
  have h3 := h.bp
  have h4 := h.bg
  exact ⟨g', x, Blk.ch h.th k (fun q => by rcases q with q | q <;> omega), by rcases e with z | z <;> omega, by rcases e with z | z <;> omega, k.to (by omega) (fun i q => by rcases q with q | q <;> omega)⟩
end Go.Proofs.Ytimeoinmepfpnaa.Ri
