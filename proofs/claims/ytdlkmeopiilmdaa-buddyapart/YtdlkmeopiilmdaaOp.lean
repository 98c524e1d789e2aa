/- How what the statements take is read: numbers, lists of numbers, lists of calls; no condition. -/
import Derived.Test.YtdlkmeopiilmdaaAw
import Derived.Lib.SmallJoins
import Derived.SizedLaws
namespace Go.Proofs.Ytdlkmeopiilmdaa
open Go.ChangeShapes Go.WideShapes Go.ChangeAt Go.RowKit Go.Deep
set_option linter.unusedVariables false

theorem laidOut : laidOutB Try.prog = true := by kernel_rfl
theorem Try.cells3 : Try.prog.cellsOf 3 = 1 := by kernel_rfl
theorem Try.cells34 : Try.prog.cellsOf 34 = 3 := by kernel_rfl
theorem wf_i64 {n : Int} (h : (Lit.int .i64 n).wf = true) : -9223372036854775808 ≤ n ∧ n < 9223372036854775808 := by
  have := bounds_i64 h
  omega
/-- Numbers that came in: l of them, the i-th is f i. -/
def Arg (w : World) (ao : Option Addr) (l : Nat) (f : Nat → Int) : Prop := l = 0 ∨ ∃ b off, ao = some ⟨b, off, none⟩ ∧ b < w.heap.size ∧ ∀ i, i < l → w.cell? ⟨b, off + i, none⟩ = some (.int .i64 (f i))
theorem Arg.at' {w w' : World} {ao : Option Addr} {l : Nat} {f : Nat → Int} (h : Arg w ao l f) (hb : Below w.heap.size w w') {i : Nat} (hi : i < l) : ∃ b off, ao = some ⟨b, off, none⟩ ∧ w'.cell? ⟨b, off + i, none⟩ = some (.int .i64 (f i)) := by
  rcases h with h | ⟨b, off, e, hl, hr⟩
  · omega
  · exact ⟨b, off, e, (hb.cell (p := ⟨b, off + i, none⟩) hl).trans (hr i hi)⟩
/-- Calls that came in. -/
def Dos (w : World) (ao : Option Addr) (l : Nat) : Prop := ∀ i, i < l → ∃ b off K A O, ao = some ⟨b, off, none⟩ ∧ b < w.heap.size ∧
  w.cell? ⟨b, off + i * 3, none⟩ = some (.int .i64 K) ∧ w.cell? ⟨b, off + i * 3 + 1, none⟩ = some (.int .i64 A) ∧ w.cell? ⟨b, off + i * 3 + 2, none⟩ = some (.int .i64 O) ∧
  (-9223372036854775808 ≤ K ∧ K < 9223372036854775808) ∧ (-9223372036854775808 ≤ A ∧ A < 9223372036854775808) ∧ (-9223372036854775808 ≤ O ∧ O < 9223372036854775808)
theorem open_i64s {H : Type} {enc : TypeId × Value → H} {W : World} {a0 : Option Addr} {l c : Nat} {d : DataW H} {p : List MemPlace}
    (h : DataW.Trod enc Try.prog W 0 (fun _ => true) true 44 (.slice a0 l c) d p) :
    ∃ (f : Nat → Int), l ≤ maxLen ∧ Arg W a0 l f ∧ (∀ i, i < l → -9223372036854775808 ≤ f i ∧ f i < 9223372036854775808) ∧ (l = 0 ∨ ∃ es sp, d = .slice es sp ∧ l ≤ es.length + sp.length) ∧ (a0 = none → l = 0 ∧ c = 0) := by
  obtain ⟨fuel, h⟩ := h
  rcases open_ints Try.underlying44 Try.underlying3 Try.cells3 h with ⟨hcs, _⟩ | ⟨a, l', c', zs, hcs, _, hlc, hcm, hlen, hx, hcell, hwf⟩
  · simp [Value.cells] at hcs
    obtain ⟨rfl, rfl, rfl⟩ := hcs
    exact ⟨fun _ => 0, Nat.zero_le _, Or.inl rfl, fun i hi => by omega, Or.inl rfl, fun _ => ⟨rfl, rfl⟩⟩
  · simp [Value.cells] at hcs
    obtain ⟨rfl, rfl, rfl⟩ := hcs
    simp at hlen
    refine ⟨fun i => zs.getD i 0, by omega, ?_, ?_, Or.inr ⟨_, _, (Prod.mk.inj hx).1, ?_⟩, fun h => by cases h⟩
    · by_cases h0 : l = 0
      · exact Or.inl h0
      · right
        have hfirst := hcell 0 (by omega)
        obtain ⟨b, off, spot⟩ := a
        have hspot : spot = none := by simpa [Addr.add] using World.cell?_spot hfirst
        subst hspot
        refine ⟨b, off, rfl, ?_, fun i hi => ?_⟩
        · have := World.block_lt_of_cell? W _ hfirst
          simpa [Addr.add] using this
        · have := hcell i (by omega)
          rw [Go.WideShapes.add_plain] at this
          exact this
    · intro i hi
      have hi' : i < zs.length := by omega
      have : zs.getD i 0 ∈ zs := by
        rw [List.getD_eq_getElem?_getD, List.getElem?_eq_getElem hi']
        exact List.getElem_mem _
      exact wf_i64 (hwf _ this)
    · simp [lits]
      omega
theorem list3 {α : Type} {l : List α} (h : l.length = 3) : ∃ c0 c1 c2, l = [c0, c1, c2] := by
  match l, h with
  | [c0, c1, c2], _ => exact ⟨c0, c1, c2, rfl⟩
theorem open_do {H : Type} {enc : TypeId × Value → H} {W : World} {fuel : Nat} {cs : List Value} {x : DataW H × List MemPlace} (hl : cs.length = 3)
    (h : DataW.trod enc Try.prog W 0 (fun _ => true) true fuel 34 cs = some x) :
    ∃ K A O, cs = [.int .i64 K, .int .i64 A, .int .i64 O] ∧ (-9223372036854775808 ≤ K ∧ K < 9223372036854775808) ∧ (-9223372036854775808 ≤ A ∧ A < 9223372036854775808) ∧ (-9223372036854775808 ≤ O ∧ O < 9223372036854775808) := by
  obtain ⟨c0, c1, c2, rfl⟩ := list3 hl
  obtain ⟨xs, n, _, hx, _, hlen, hg⟩ := DataW.trod_struct Try.underlying34 h
  match xs, hlen with
  | [z0, z1, z2], _ =>
    have t0 := hg 0 _ rfl
    have t1 := hg 1 _ rfl
    have t2 := hg 2 _ rfl
    simp [Try.cells3] at t0 t1 t2
    obtain ⟨K, e0, _, w0⟩ := DataW.trod_int Try.underlying3 t0
    obtain ⟨A, e1, _, w1⟩ := DataW.trod_int Try.underlying3 t1
    obtain ⟨O, e2, _, w2⟩ := DataW.trod_int Try.underlying3 t2
    simp at e0 e1 e2
    subst e0 e1 e2
    exact ⟨K, A, O, rfl, wf_i64 w0, wf_i64 w1, wf_i64 w2⟩
theorem open_dos {H : Type} {enc : TypeId × Value → H} {W : World} {a0 : Option Addr} {len cap : Nat} {d : DataW H} {p : List MemPlace}
    (h : DataW.Trod enc Try.prog W 0 (fun _ => true) true 22 (.slice a0 len cap) d p) : Dos W a0 len ∧ len ≤ maxLen := by
  obtain ⟨fuel, hf⟩ := h
  rcases DataW.trod_slice Try.underlying22 hf with ⟨hcs, hx⟩ | ⟨a, l, c, elems, rest, n, _, hcs, hx, _, hlc, hcm, hlen, hel, _, _⟩
  · simp [Value.cells] at hcs
    obtain ⟨rfl, rfl, rfl⟩ := hcs
    exact ⟨fun i hi => by omega, by unfold maxLen; omega⟩
  · simp [Value.cells] at hcs
    obtain ⟨rfl, rfl, rfl⟩ := hcs
    refine ⟨fun i hi => ?_, by omega⟩
    have hi2 := hel i hi
    rw [List.getElem?_eq_getElem (by omega : i < elems.length)] at hi2
    obtain ⟨cs, hcs, htr⟩ := Option.bind_eq_some_iff.1 hi2
    rw [Try.cells34] at hcs
    obtain ⟨_, hl2, hcell⟩ := World.cells?_some hcs
    have hblk := World.cells?_block hcs (by omega)
    obtain ⟨K, A, O, rfl, b1, b2, b3⟩ := open_do hl2 htr
    have hspot : a.spot = none := by
      have hz := hel 0 (by omega)
      rw [List.getElem?_eq_getElem (by omega : 0 < elems.length)] at hz
      obtain ⟨cz, hcz, _⟩ := Option.bind_eq_some_iff.1 hz
      rw [Try.cells34] at hcz
      obtain ⟨_, hz2, hzc⟩ := World.cells?_some hcz
      have h0 := hzc 0 (by omega)
      rw [List.getElem?_eq_getElem (by omega : 0 < cz.length)] at h0
      have := World.cell?_spot h0
      simpa [Addr.add] using this
    obtain ⟨b, off, spot⟩ := a
    simp only at hspot
    subst hspot
    refine ⟨b, off, K, A, O, rfl, ?_, ?_, ?_, ?_, b1, b2, b3⟩
    · rw [Go.WideShapes.add_plain] at hblk
      exact hblk
    · have := hcell 0 (by omega)
      rw [Go.WideShapes.add_plain, Go.WideShapes.add_plain] at this
      exact this
    · have := hcell 1 (by omega)
      rw [Go.WideShapes.add_plain, Go.WideShapes.add_plain] at this
      exact this
    · have := hcell 2 (by omega)
      rw [Go.WideShapes.add_plain, Go.WideShapes.add_plain] at this
      exact this
end Go.Proofs.Ytdlkmeopiilmdaa
