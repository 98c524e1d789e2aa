/- Both rings beside each other, the program's and the document's; what is done to both; no condition. -/
import Derived.Test.YtimeoinmepfpnaaRt
import Derived.Test.YtimeoinmepfpnaaRw
namespace Go.Proofs.Ytimeoinmepfpnaa.Ri
open Go.ChangeShapes Go.WideShapes Go.ChangeAt Go.RowKit
set_option linter.unusedVariables false
set_option maxRecDepth 8192

/-- Both rings, of one row. -/
structure Wn (B0 : Nat) (w : World) (p g s : Nat) (v : Value) (L : List Int) : Prop where
  rx : Rx w p g L
  rr : Rr w s v L
  ap : ∀ i, Sv s v i → i ≠ p ∧ i ≠ g
  bp : B0 ≤ p
  bg : B0 ≤ g
  bv : ∀ i, Sv s v i → B0 ≤ i
theorem Wn.below {B0 : Nat} {w w' : World} {p g s : Nat} {v : Value} {L : List Int} (h : Wn B0 w p g s v L) (k : Below w.heap.size w w') : Wn B0 w' p g s v L := ⟨h.rx.below k, h.rr.below k, h.ap, h.bp, h.bg, h.bv⟩
theorem Wn.b0 {B0 : Nat} {w : World} {p g s : Nat} {v : Value} {L : List Int} (h : Wn B0 w p g s v L) : B0 ≤ w.heap.size := by
  have := h.rx.pl
  have := h.bp
  omega
/-- The program's was turned: the document's stands as it was. -/
theorem Wn.mid {B0 : Nat} {w w1 : World} {p g s : Nat} {v : Value} {L L1 : List Int} (h : Wn B0 w p g s v L) (t : Tn w p g L1 w1) : Rr w1 s v L := by
  obtain ⟨g', _, k, _⟩ := t
  exact h.rr.ch k (fun i hi q => by have := h.ap i hi; rcases q with q | q <;> omega)
/-- Both were turned. -/
theorem Wn.both {B0 : Nat} {w w1 w2 : World} {p g s : Nat} {v : Value} {L L1 : List Int} (h : Wn B0 w p g s v L) (t : Tn w p g L1 w1) {W : World} (hW : Below w1.heap.size w1 W) (r : Tr W s v L1 w2) : ∃ g' v', Wn B0 w2 p g' s v' L1 ∧ Ch (fun i => Two p g i ∨ Sv s v i) w w2 := by
  obtain ⟨g', x1, k1, e1⟩ := t
  obtain ⟨v', r2, k2, n2⟩ := r
  have hs := h.rr.lt
  have hsz := k1.size
  have hszW := hW.size
  have x2 := x1.below hW
  have hg' : ∀ i, Sv s v i → i ≠ p ∧ i ≠ g' := fun i hi => ⟨(h.ap i hi).1, fun e => by
    rcases e1 with z | z
    · exact (h.ap i hi).2 (by omega)
    · have := hs i hi; omega⟩
  have hb := h.b0
  have hv' : ∀ i, Sv s v' i → Sv s v i ∨ W.heap.size ≤ i := fun i hi => hi.elim (fun z => Or.inl (Or.inl z)) (fun z => (n2 i z).imp Or.inr id)
  refine ⟨g', v', ⟨x2.ch k2 (fun q => (hg' p q).1 rfl) (fun q => (hg' g' q).2 rfl), r2, fun i hi => ?_, h.bp, by rcases e1 with z | z; rw [z]; exact h.bg; omega, fun i hi => ?_⟩, ?_⟩
  · rcases hv' i hi with z | z
    · exact hg' i z
    · have := x2.pl; have := x2.gl; omega
  · rcases hv' i hi with z | z
    · exact h.bv i z
    · omega
  · exact (k1.trans (Ch.below hW : Ch (fun _ => False) w1 W) (fun i q => Or.inl q) (fun i q => q.elim)).trans k2 (fun i q => q) (fun i q => Or.inl (Or.inr q))
theorem Wn.ch_to {B0 : Nat} {w w2 : World} {p g s : Nat} {v : Value} {L : List Int} (h : Wn B0 w p g s v L) (k : Ch (fun i => Two p g i ∨ Sv s v i) w w2) : Below B0 w w2 :=
  k.to h.b0 (fun i q => by rcases q with (q | q) | q; rw [q]; exact h.bp; rw [q]; exact h.bg; exact h.bv i q)
/-- What done leaves. -/
def Dn (B0 : Nat) (w : World) (p s : Nat) (e : Ending) (w' : World) : Prop := e = .returned (.bool true) ∧ ∃ g' v' L', Wn B0 w' p g' s v' L' ∧ Below B0 w w'
end Go.Proofs.Ytimeoinmepfpnaa.Ri
