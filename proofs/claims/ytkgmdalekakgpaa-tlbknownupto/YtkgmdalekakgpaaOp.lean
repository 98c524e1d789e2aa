/- How lists of steps and of translations are read; no condition. -/
import Derived.Test.YtkgmdalekakgpaaSt
import Derived.Lib.SmallJoins
import Derived.SizedLaws
namespace Go.Proofs.Ytkgmdalekakgpaa
open Go.ChangeShapes Go.WideShapes Go.ChangeAt Go.RowKit Go.Deep
set_option linter.unusedVariables false

theorem laidOut : laidOutB Try.prog = true := by kernel_rfl
theorem Try.cells3 : Try.prog.cellsOf 3 = 1 := by kernel_rfl
theorem Try.cells4 : Try.prog.cellsOf 4 = 1 := by kernel_rfl
theorem Try.cells32 : Try.prog.cellsOf 32 = 6 := by kernel_rfl
theorem Try.cells34 : Try.prog.cellsOf 34 = 7 := by kernel_rfl
theorem wf_i64 {n : Int} (h : (Lit.int .i64 n).wf = true) : -9223372036854775808 ≤ n ∧ n < 9223372036854775808 := by
  have := bounds_i64 h
  omega
/-- A translation whose numbers are ints. -/
structure Wf (x : Tr) : Prop where
  a : -9223372036854775808 ≤ x.a ∧ x.a < 9223372036854775808
  p : -9223372036854775808 ≤ x.p ∧ x.p < 9223372036854775808
  f : -9223372036854775808 ≤ x.f ∧ x.f < 9223372036854775808
/-- The steps that came in. -/
structure Do1 (w : World) (b o : Nat) (K : Int) (x : Tr) : Prop where
  k : w.cell? ⟨b, o, none⟩ = some (.int .i64 K)
  six : ∀ j v, (tc x)[j]? = some v → w.cell? ⟨b, o + 1 + j, none⟩ = some v
  k0 : -9223372036854775808 ≤ K
  k1 : K < 9223372036854775808
  wf : Wf x
def Dos (w : World) (ao : Option Addr) (l : Nat) : Prop := ∀ i, i < l → ∃ b off K x, ao = some ⟨b, off, none⟩ ∧ b < w.heap.size ∧ Do1 w b (off + i * 7) K x
/-- The translations that came in. -/
def Trs (w : World) (ao : Option Addr) (l : Nat) (f : Nat → Tr) : Prop := l = 0 ∨ ∃ b off, ao = some ⟨b, off, none⟩ ∧ b < w.heap.size ∧ ∀ i, i < l → Six w b (off + i * 6) (f i) ∧ Wf (f i)
theorem Do1.of_eq {w w' : World} {b o : Nat} {K : Int} {x : Tr} (h : Do1 w b o K x) (e : w'.heap[b]? = w.heap[b]?) : Do1 w' b o K x :=
  ⟨(World.cell?_of_block (w := w) (a := ⟨b, o, none⟩) e).trans h.k, fun j v hv => (World.cell?_of_block (w := w) (a := ⟨b, o + 1 + j, none⟩) e).trans (h.six j v hv), h.k0, h.k1, h.wf⟩
theorem list6 {α : Type} {l : List α} (h : l.length = 6) : ∃ c0 c1 c2 c3 c4 c5, l = [c0, c1, c2, c3, c4, c5] := by
  match l, h with
  | [c0, c1, c2, c3, c4, c5], _ => exact ⟨c0, c1, c2, c3, c4, c5, rfl⟩
theorem list7 {α : Type} {l : List α} (h : l.length = 7) : ∃ c0 c1 c2 c3 c4 c5 c6, l = [c0, c1, c2, c3, c4, c5, c6] := by
  match l, h with
  | [c0, c1, c2, c3, c4, c5, c6], _ => exact ⟨c0, c1, c2, c3, c4, c5, c6, rfl⟩
theorem open_tr {H : Type} {enc : TypeId × Value → H} {W : World} {fuel : Nat} {cs : List Value} {x : DataW H × List MemPlace} (hl : cs.length = 6)
    (h : DataW.trod enc Try.prog W 0 (fun _ => true) true fuel 32 cs = some x) : ∃ y : Tr, cs = tc y ∧ Wf y := by
  obtain ⟨c0, c1, c2, c3, c4, c5, rfl⟩ := list6 hl
  obtain ⟨xs, n, _, hx, _, hlen, hg⟩ := DataW.trod_struct Try.underlying32 h
  match xs, hlen with
  | [z0, z1, z2, z3, z4, z5], _ =>
    have t0 := hg 0 _ rfl
    have t1 := hg 1 _ rfl
    have t2 := hg 2 _ rfl
    have t3 := hg 3 _ rfl
    have t4 := hg 4 _ rfl
    have t5 := hg 5 _ rfl
    simp [Try.cells3, Try.cells4] at t0 t1 t2 t3 t4 t5
    obtain ⟨a, e0, _, w0⟩ := DataW.trod_int Try.underlying3 t0
    obtain ⟨p, e1, _, w1⟩ := DataW.trod_int Try.underlying3 t1
    obtain ⟨f, e2, _, w2⟩ := DataW.trod_int Try.underlying3 t2
    obtain ⟨r, e3, _⟩ := DataW.trod_bool Try.underlying4 t3
    obtain ⟨v, e4, _⟩ := DataW.trod_bool Try.underlying4 t4
    obtain ⟨d, e5, _⟩ := DataW.trod_bool Try.underlying4 t5
    simp at e0 e1 e2 e3 e4 e5
    subst e0 e1 e2 e3 e4 e5
    exact ⟨⟨a, p, f, r, v, d⟩, rfl, wf_i64 w0, wf_i64 w1, wf_i64 w2⟩
theorem open_do {H : Type} {enc : TypeId × Value → H} {W : World} {fuel : Nat} {cs : List Value} {x : DataW H × List MemPlace} (hl : cs.length = 7)
    (h : DataW.trod enc Try.prog W 0 (fun _ => true) true fuel 34 cs = some x) :
    ∃ K y, cs = .int .i64 K :: tc y ∧ -9223372036854775808 ≤ K ∧ K < 9223372036854775808 ∧ Wf y := by
  obtain ⟨c0, c1, c2, c3, c4, c5, c6, rfl⟩ := list7 hl
  obtain ⟨xs, n, _, hx, _, hlen, hg⟩ := DataW.trod_struct Try.underlying34 h
  match xs, hlen with
  | [z0, z1], _ =>
    have t0 := hg 0 _ rfl
    have t1 := hg 1 _ rfl
    simp [Try.cells3, Try.cells32] at t0 t1
    obtain ⟨K, e0, _, w0⟩ := DataW.trod_int Try.underlying3 t0
    obtain ⟨y, e1, wy⟩ := open_tr rfl t1
    simp at e0
    subst e0
    exact ⟨K, y, by rw [e1], (wf_i64 w0).1, (wf_i64 w0).2, wy⟩
theorem open_dos {H : Type} {enc : TypeId × Value → H} {W : World} {a0 : Option Addr} {len cap : Nat} {d : DataW H} {p : List MemPlace}
    (h : DataW.Trod enc Try.prog W 0 (fun _ => true) true 22 (.slice a0 len cap) d p) : Dos W a0 len ∧ len ≤ maxLen := by
  obtain ⟨fuel, hf⟩ := h
  rcases DataW.trod_slice Try.underlying22 hf with ⟨hcs, hx⟩ | ⟨a, l, c, elems, rest, n, _, hcs, hx, _, hlc, hcm, hlen, hel, _, _⟩
  · simp [Value.cells] at hcs
    obtain ⟨rfl, rfl, rfl⟩ := hcs
    exact ⟨fun i hi => by omega, by unfold maxLen; omega⟩
  · simp [Value.cells] at hcs
    obtain ⟨rfl, rfl, rfl⟩ := hcs
    refine ⟨fun i hi => ?_, by omega⟩
    have hi2 := hel i hi
    rw [List.getElem?_eq_getElem (by omega : i < elems.length)] at hi2
    obtain ⟨cs, hcs, htr⟩ := Option.bind_eq_some_iff.1 hi2
    rw [Try.cells34] at hcs
    obtain ⟨_, hl7, hcell⟩ := World.cells?_some hcs
    have hblk := World.cells?_block hcs (by omega)
    obtain ⟨K, y, rfl, b1, b2, b3⟩ := open_do hl7 htr
    have hspot : a.spot = none := by
      have hz := hel 0 (by omega)
      rw [List.getElem?_eq_getElem (by omega : 0 < elems.length)] at hz
      obtain ⟨cz, hcz, _⟩ := Option.bind_eq_some_iff.1 hz
      rw [Try.cells34] at hcz
      obtain ⟨_, hz7, hzc⟩ := World.cells?_some hcz
      have h0 := hzc 0 (by omega)
      rw [List.getElem?_eq_getElem (by omega : 0 < cz.length)] at h0
      have := World.cell?_spot h0
      simpa [Addr.add] using this
    obtain ⟨b, off, spot⟩ := a
    simp only at hspot
    subst hspot
    refine ⟨b, off, K, y, rfl, ?_, ?_, fun j v hv => ?_, b1, b2, b3⟩
    · rw [Go.WideShapes.add_plain] at hblk
      exact hblk
    · have := hcell 0 (by omega)
      rw [Go.WideShapes.add_plain, Go.WideShapes.add_plain] at this
      exact this
    · have hj : j < 6 := by have := (List.getElem?_eq_some_iff.1 hv).1; simpa [tc] using this
      have := hcell (j + 1) (by omega)
      rw [Go.WideShapes.add_plain, Go.WideShapes.add_plain] at this
      rw [show off + i * 7 + 1 + j = off + i * 7 + (j + 1) by omega, this]
      simpa using hv
theorem open_trs {H : Type} {enc : TypeId × Value → H} {W : World} {a0 : Option Addr} {len cap : Nat} {d : DataW H} {p : List MemPlace}
    (h : DataW.Trod enc Try.prog W 0 (fun _ => true) true 35 (.slice a0 len cap) d p) : ∃ f, Trs W a0 len f ∧ len ≤ maxLen := by
  obtain ⟨fuel, hf⟩ := h
  rcases DataW.trod_slice Try.underlying35 hf with ⟨hcs, hx⟩ | ⟨a, l, c, elems, rest, n, _, hcs, hx, _, hlc, hcm, hlen, hel, _, _⟩
  · simp [Value.cells] at hcs
    obtain ⟨rfl, rfl, rfl⟩ := hcs
    exact ⟨fun _ => z0, Or.inl rfl, by unfold maxLen; omega⟩
  · simp [Value.cells] at hcs
    obtain ⟨rfl, rfl, rfl⟩ := hcs
    by_cases hl0 : len = 0
    · exact ⟨fun _ => z0, Or.inl hl0, by omega⟩
    have hspot : a.spot = none := by
      have hz := hel 0 (by omega)
      rw [List.getElem?_eq_getElem (by omega : 0 < elems.length)] at hz
      obtain ⟨cz, hcz, _⟩ := Option.bind_eq_some_iff.1 hz
      rw [Try.cells32] at hcz
      obtain ⟨_, hz7, hzc⟩ := World.cells?_some hcz
      have h0 := hzc 0 (by omega)
      rw [List.getElem?_eq_getElem (by omega : 0 < cz.length)] at h0
      have := World.cell?_spot h0
      simpa [Addr.add] using this
    obtain ⟨b, off, spot⟩ := a
    simp only at hspot
    subst hspot
    have key : ∀ i, i < len → ∃ y, b < W.heap.size ∧ Six W b (off + i * 6) y ∧ Wf y := by
      intro i hi
      have hi2 := hel i hi
      rw [List.getElem?_eq_getElem (by omega : i < elems.length)] at hi2
      obtain ⟨cs, hcs, htr⟩ := Option.bind_eq_some_iff.1 hi2
      rw [Try.cells32] at hcs
      obtain ⟨_, hl6, hcell⟩ := World.cells?_some hcs
      have hblk := World.cells?_block hcs (by omega)
      obtain ⟨y, rfl, wy⟩ := open_tr hl6 htr
      refine ⟨y, ?_, Six.of (fun j v hv => ?_), wy⟩
      · rw [Go.WideShapes.add_plain] at hblk
        exact hblk
      · have hj : j < 6 := by have := (List.getElem?_eq_some_iff.1 hv).1; simpa [tc] using this
        have := hcell j hj
        rw [Go.WideShapes.add_plain, Go.WideShapes.add_plain] at this
        rw [this]
        exact hv
    refine ⟨fun i => if h : i < len then (key i h).choose else z0, Or.inr ⟨b, off, rfl, (key 0 (by omega)).choose_spec.1, fun i hi => ?_⟩, by omega⟩
    simp only [dif_pos hi]
    exact (key i hi).choose_spec.2
end Go.Proofs.Ytkgmdalekakgpaa
