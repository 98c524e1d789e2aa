/- Asks that a statement takes: how they are read; what the round of VmaPages needs; no condition but those named. -/
import Derived.Test.YtmhfgfgiiinpjaaYb
import Derived.Test.YtmhfgfgiiinpjaaYc
import Derived.Test.YtmhfgfgiiinpjaaWn
import Derived.Test.YtmhfgfgiiinpjaaWop
namespace Go.Proofs.Ytmhfgfgiiinpjaa.V
open Go.ChangeShapes Go.WideShapes Go.ChangeAt Go.RowKit Go.Deep
set_option linter.unusedVariables false
set_option maxRecDepth 8192

structure Ak where
  p : Int
  n : Int
  m : Int
  t : Int
def wfA (x : Ak) : Prop := wfR ⟨x.p, x.n, x.m⟩ ∧ (-9223372036854775808 ≤ x.t ∧ x.t < 9223372036854775808)
/-- Asks that came in. -/
def As (W : World) (ao : Option Addr) (n : Nat) (f : Nat → Ak) : Prop := n = 0 ∨ ∃ b off, ao = some ⟨b, off, none⟩ ∧ b < W.heap.size ∧ ∀ i, i < n → wfA (f i) ∧ W.cell? ⟨b, off + i * 4, none⟩ = some (.int .i64 (f i).p) ∧ W.cell? ⟨b, off + i * 4 + 1, none⟩ = some (.int .i64 (f i).n) ∧ W.cell? ⟨b, off + i * 4 + 2, none⟩ = some (.int .u8 (f i).m) ∧ W.cell? ⟨b, off + i * 4 + 3, none⟩ = some (.int .i64 (f i).t)
theorem As.at' {w W : World} {ao : Option Addr} {n : Nat} {f : Nat → Ak} (h : As w ao n f) (k : Below w.heap.size w W) {i : Nat} (hi : i < n) : ∃ b off, ao = some ⟨b, off, none⟩ ∧ wfA (f i) ∧ W.cell? ⟨b, off + i * 4, none⟩ = some (.int .i64 (f i).p) ∧ W.cell? ⟨b, off + i * 4 + 1, none⟩ = some (.int .i64 (f i).n) ∧ W.cell? ⟨b, off + i * 4 + 2, none⟩ = some (.int .u8 (f i).m) ∧ W.cell? ⟨b, off + i * 4 + 3, none⟩ = some (.int .i64 (f i).t) := by
  rcases h with h | ⟨b, off, e, hb, hc⟩
  · omega
  · obtain ⟨hw, h0, h1, h2, h3⟩ := hc i hi
    exact ⟨b, off, e, hw, (k.cell (p := ⟨b, off + i * 4, none⟩) hb).trans h0, (k.cell (p := ⟨b, off + i * 4 + 1, none⟩) hb).trans h1, (k.cell (p := ⟨b, off + i * 4 + 2, none⟩) hb).trans h2, (k.cell (p := ⟨b, off + i * 4 + 3, none⟩) hb).trans h3⟩
theorem open_asks {H : Type} {enc : TypeId × Value → H} {W : World} {a0 : Option Addr} {len cap : Nat} {d : DataW H} {p : List MemPlace}
    (h : DataW.Trod enc Try.prog W 0 (fun _ => true) true 52 (.slice a0 len cap) d p) : ∃ f, As W a0 len f ∧ len ≤ maxLen := by
  obtain ⟨fuel, hf⟩ := h
  rcases DataW.trod_slice Try.underlying52 hf with ⟨hcs, hx⟩ | ⟨a, l, c, elems, rest, n, _, hcs, hx, _, hlc, hcm, hlen, hel, _, _⟩
  · simp [Value.cells] at hcs
    obtain ⟨rfl, rfl, rfl⟩ := hcs
    exact ⟨fun _ => ⟨0, 0, 0, 0⟩, Or.inl rfl, Nat.zero_le _⟩
  · simp [Value.cells] at hcs
    obtain ⟨rfl, rfl, rfl⟩ := hcs
    by_cases hl0 : len = 0
    · exact ⟨fun _ => ⟨0, 0, 0, 0⟩, Or.inl hl0, by omega⟩
    have hspot : a.spot = none := by
      have hz := hel 0 (by omega)
      rw [List.getElem?_eq_getElem (by omega : 0 < elems.length)] at hz
      obtain ⟨cz, hcz, _⟩ := Option.bind_eq_some_iff.1 hz
      rw [Try.cellsAsk] at hcz
      obtain ⟨_, hz7, hzc⟩ := World.cells?_some hcz
      have h0 := hzc 0 (by omega)
      rw [List.getElem?_eq_getElem (by omega : 0 < cz.length)] at h0
      have := World.cell?_spot h0
      simpa [Addr.add] using this
    obtain ⟨b, off, spot⟩ := a
    simp only at hspot
    subst hspot
    have key : ∀ i, i < len → ∃ r : Ak, b < W.heap.size ∧ wfA r ∧ W.cell? ⟨b, off + i * 4, none⟩ = some (.int .i64 r.p) ∧ W.cell? ⟨b, off + i * 4 + 1, none⟩ = some (.int .i64 r.n) ∧ W.cell? ⟨b, off + i * 4 + 2, none⟩ = some (.int .u8 r.m) ∧ W.cell? ⟨b, off + i * 4 + 3, none⟩ = some (.int .i64 r.t) := fun i hi => by
      have hi2 := hel i (by omega)
      rw [List.getElem?_eq_getElem (by omega : i < elems.length)] at hi2
      obtain ⟨cs, hcs, htr⟩ := Option.bind_eq_some_iff.1 hi2
      rw [Try.cellsAsk] at hcs
      obtain ⟨_, hl3, hcell⟩ := World.cells?_some hcs
      have hblk := World.cells?_block hcs (by omega)
      rw [Go.WideShapes.add_plain] at hblk
      obtain ⟨p, m, u, t, rfl, hw, ht⟩ := open_ask4 hl3 htr
      have c0 := hcell 0 (by omega)
      have c1 := hcell 1 (by omega)
      have c2 := hcell 2 (by omega)
      have c3 := hcell 3 (by omega)
      rw [Go.WideShapes.add_plain, Go.WideShapes.add_plain] at c0 c1 c2 c3
      exact ⟨⟨p, m, u, t⟩, hblk, ⟨hw, ht⟩, c0, c1, c2, c3⟩
    refine ⟨fun i => if hi : i < len then Classical.choose (key i hi) else ⟨0, 0, 0, 0⟩, Or.inr ⟨b, off, rfl, (Classical.choose_spec (key 0 (by omega))).1, fun i hi => ?_⟩, by omega⟩
    have := (Classical.choose_spec (key i hi)).2
    simp only [dif_pos hi]
    exact this
/-- A list in memory that is none of a row's. -/
structure Ra (W : World) (ao : Option Addr) (cap : Nat) (l : List Rg) (b : Nat) : Prop where
  rn : Rn W ao l
  le : l.length ≤ cap
  ne : l ≠ [] → ∀ bb off, ao = some ⟨bb, off, none⟩ → bb ≠ b
theorem Ra.below {W W' : World} {ao : Option Addr} {cap : Nat} {l : List Rg} {b : Nat} (h : Ra W ao cap l b) (k : Below W.heap.size W W') : Ra W' ao cap l b := ⟨h.rn.below k, h.le, h.ne⟩
theorem Ra.set {W : World} {ao : Option Addr} {cap : Nat} {l : List Rg} {b : Nat} (h : Ra W ao cap l b) (i : Nat) (v : Value) : Ra (W.setCell ⟨b, i, none⟩ v) ao cap l b := by
  refine ⟨?_, h.le, h.ne⟩
  by_cases h0 : l = []
  · exact Or.inl h0
  · exact h.rn.eq (by simp) (fun bb off e hb => Below.heap_setCell W ⟨b, i, none⟩ v bb (h.ne h0 bb off e))
theorem Ra.ri {W : World} {ao : Option Addr} {cap : Nat} {l : List Rg} {b : Nat} (h : Ra W ao cap l b) (hM : Fm l) : Ri W ao cap l := ⟨h.rn, h.le, fun r hr => (hM.rs.ok r hr).wf⟩
/-- Where the statement's loop stands: its list in the one form, its pages as they were made last. -/
structure Pst (w W : World) (b4 : Nat) (ao : Option Addr) (cap : Nat) (l : List Rg) (F : Int → Option Int) : Prop where
  be : Below w.heap.size w W
  ra : Ra W ao cap l b4
  is : Is l F
  hi : ∀ x, F x ≠ none → x < 60
  bl : Bl W b4 (fun j => enc (F j))
  lo : w.heap.size ≤ b4
theorem Pst.below {w W W' : World} {b4 : Nat} {ao : Option Addr} {cap : Nat} {l : List Rg} {F : Int → Option Int} (h : Pst w W b4 ao cap l F) (k : Below W.heap.size W W') : Pst w W' b4 ao cap l F := ⟨h.be.trans (k.mono h.be.size), h.ra.below k, h.is, h.hi, h.bl.below k, h.lo⟩
end Go.Proofs.Ytmhfgfgiiinpjaa.V
