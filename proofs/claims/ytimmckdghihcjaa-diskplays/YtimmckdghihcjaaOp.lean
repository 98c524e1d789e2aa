/- How what the statements take is read: bytes, lists of calls; no condition. -/
import Derived.Test.YtimmckdghihcjaaSt
import Derived.Lib.SmallJoins
import Derived.SizedLaws
namespace Go.Proofs.Ytimmckdghihcjaa
open Go.ChangeShapes Go.WideShapes Go.ChangeAt Go.RowKit Go.Deep
set_option linter.unusedVariables false

theorem laidOut : laidOutB Try.prog = true := by kernel_rfl
theorem Try.cells5 : Try.prog.cellsOf 5 = 1 := by kernel_rfl
theorem Try.cells32 : Try.prog.cellsOf 32 = 1 := by kernel_rfl
theorem Try.cells3 : Try.prog.cellsOf 3 = 1 := by kernel_rfl
theorem Try.cells34 : Try.prog.cellsOf 34 = 3 := by kernel_rfl
theorem Try.bytes5 : Try.prog.bytesOf 5 = 1 := by kernel_rfl
theorem wf_u8 {n : Int} (h : (Lit.int .u8 n).wf = true) : 0 ≤ n ∧ n < 256 := by
  have := bounds_u8 h
  omega
theorem wf_i64 {n : Int} (h : (Lit.int .i64 n).wf = true) : -9223372036854775808 ≤ n ∧ n < 9223372036854775808 := by
  have := bounds_i64 h
  omega
theorem open_bytes {H : Type} {enc : TypeId × Value → H} {W : World} {fuel : Nat} {v : Value} {x : DataW H × List MemPlace}
    (h : DataW.trod enc Try.prog W 0 (fun _ => true) true fuel 32 [v] = some x) :
    ∃ (a : Option Addr) (l c : Nat) (f : Nat → Int), v = .slice a l c ∧ l ≤ c ∧ c ≤ maxLen ∧ (a = none → c = 0) ∧ Arg W a l f ∧ okB l f ∧ (x.1 = .nil ∧ l = 0 ∨ ∃ es sp, x.1 = .slice es sp ∧ es.length = l) := by
  rcases open_ints Try.underlying32 Try.underlying5 Try.cells5 h with ⟨hcs, rfl⟩ | ⟨a, l, c, zs, hcs, _, hlc, hcm, hlen, rfl, hcell, hwf⟩
  · simp at hcs
    exact ⟨none, 0, 0, fun _ => 0, hcs, Nat.le_refl _, Nat.zero_le _, fun _ => rfl, Or.inl rfl, fun i hi => by omega, Or.inl ⟨rfl, rfl⟩⟩
  · simp at hcs
    simp at hlen
    refine ⟨some a, l, c, fun i => zs.getD i 0, hcs, hlc, hcm, fun h => by simp at h, ?_, ?_, Or.inr ⟨_, _, rfl, by simp [lits]; omega⟩⟩
    · by_cases h0 : l = 0
      · exact Or.inl h0
      · right
        have hfirst := hcell 0 (by omega)
        obtain ⟨b, off, spot⟩ := a
        have hspot : spot = none := by simpa [Addr.add] using World.cell?_spot hfirst
        subst hspot
        refine ⟨b, off, rfl, ?_, fun i hi => ?_⟩
        · have := World.block_lt_of_cell? W _ hfirst
          simpa [Addr.add] using this
        · have := hcell i (by omega)
          rw [Go.WideShapes.add_plain] at this
          exact this
    · intro i hi
      have hi' : i < zs.length := by omega
      have : zs.getD i 0 ∈ zs := by
        rw [List.getD_eq_getElem?_getD, List.getElem?_eq_getElem hi']
        exact List.getElem_mem _
      exact wf_u8 (hwf _ this)
theorem mem_all {H : Type} {P : Program} {e : TypeId} {d : DataW H} {x : Nat} : ∀ {ds : List (DataW H)}, d ∈ ds → x ∈ d.weights P e → x ∈ DataW.weightsAll P e ds
  | [], h, _ => by cases h
  | d0 :: r, h, hx => by
    rw [DataW.weightsAll]
    rcases List.mem_cons.1 h with rfl | h
    · exact List.mem_append_left _ hx
    · exact List.mem_append_right _ (mem_all h hx)
theorem list3 {α : Type} {l : List α} (h : l.length = 3) : ∃ c0 c1 c2, l = [c0, c1, c2] := by
  match l, h with
  | [c0, c1, c2], _ => exact ⟨c0, c1, c2, rfl⟩
/-- One Do, out of its three cells. -/
theorem open_do {H : Type} {enc : TypeId × Value → H} {W : World} {fuel : Nat} {cs : List Value} {x : DataW H × List MemPlace} (hw : ∀ y ∈ x.1.weights Try.prog 34, y ≤ reachBytes) (hl : cs.length = 3)
    (h : DataW.trod enc Try.prog W 0 (fun _ => true) true fuel 34 cs = some x) :
    ∃ Kind Slot aB lB cB fB, cs = doV Kind Slot aB lB cB ∧ DoIn W.heap.size W Kind Slot aB lB cB fB := by
  obtain ⟨c0, c1, c2, rfl⟩ := list3 hl
  obtain ⟨xs, n, _, hx, _, hlen, hg⟩ := DataW.trod_struct Try.underlying34 h
  match xs, hlen with
  | [y0, y1, y2], _ =>
    have t0 := hg 0 _ rfl
    have t1 := hg 1 _ rfl
    have t2 := hg 2 _ rfl
    simp [Try.cells32, Try.cells3] at t0 t1 t2
    obtain ⟨Kind, e0, _, w0⟩ := DataW.trod_int Try.underlying3 t0
    obtain ⟨Slot, e1, _, w1⟩ := DataW.trod_int Try.underlying3 t1
    simp at e0 e1
    subst e0 e1
    obtain ⟨aB, lB, cB, fB, rfl, k0, k1, k2, k3, k4, k5⟩ := open_bytes t2
    have hlB : lB ≤ 140737488351232 := by
      rcases k5 with ⟨_, h0⟩ | ⟨es, sp, h5, h6⟩
      · omega
      · have hm : (es.length + sp.length) * Try.prog.bytesOf 5 ∈ x.1.weights Try.prog 34 := by
          rw [hx]
          simp only [DataW.weights, Try.underlying34]
          refine DataW.weights_mem_each (j := 2) (t := 32) (d := y2.1) rfl rfl _ ?_
          rw [h5]
          simp [DataW.weights, Try.underlying32]
        have := hw _ hm
        rw [Try.bytes5] at this
        simp only [reachBytes] at this
        omega
    refine ⟨Kind, Slot, aB, lB, cB, fB, rfl, wf_i64 w0, wf_i64 w1, hlB, k2, k3, k4, ?_⟩
    intro b off e
    rcases k3 with h0 | ⟨b', off', e', hr⟩
    · exact Or.inl h0
    · rw [e] at e'
      cases e'
      exact Or.inr hr.1
theorem open_dos {H : Type} {enc : TypeId × Value → H} {W : World} {a0 : Option Addr} {len cap : Nat} {d : DataW H} {p : List MemPlace} (hw : ∀ y ∈ d.weights Try.prog 22, y ≤ reachBytes)
    (h : DataW.Trod enc Try.prog W 0 (fun _ => true) true 22 (.slice a0 len cap) d p) : Dos W.heap.size W a0 len ∧ len ≤ maxLen := by
  obtain ⟨fuel, hf⟩ := h
  rcases DataW.trod_slice Try.underlying22 hf with ⟨hcs, hx⟩ | ⟨a, l, c, elems, rest, n, _, hcs, hx, _, hlc, hcm, hlen, hel, _, _⟩
  · simp [Value.cells] at hcs
    obtain ⟨rfl, rfl, rfl⟩ := hcs
    exact ⟨fun i hi => by omega, by unfold maxLen; omega⟩
  · simp [Value.cells] at hcs
    obtain ⟨rfl, rfl, rfl⟩ := hcs
    refine ⟨fun i hi => ?_, by omega⟩
    have hi2 := hel i hi
    rw [List.getElem?_eq_getElem (by omega : i < elems.length)] at hi2
    obtain ⟨cs, hcs, htr⟩ := Option.bind_eq_some_iff.1 hi2
    rw [Try.cells34] at hcs
    obtain ⟨_, hl3, hcell⟩ := World.cells?_some hcs
    have hblk := World.cells?_block hcs (by omega)
    have hd : d = .slice (elems.map (·.1)) (rest.map (·.1)) := (Prod.mk.inj hx).1
    have hwi : ∀ y ∈ (elems[i]'(by omega)).1.weights Try.prog 34, y ≤ reachBytes := by
      intro y hy
      apply hw
      rw [hd]
      simp only [DataW.weights, Try.underlying22]
      refine List.mem_cons_of_mem _ (List.mem_append_left _ (mem_all ?_ hy))
      exact List.mem_map_of_mem (List.getElem_mem _)
    obtain ⟨Kind, Slot, aB, lB, cB, fB, rfl, hDo⟩ := open_do hwi hl3 htr
    have hspot : a.spot = none := by
      have hz := hel 0 (by omega)
      rw [List.getElem?_eq_getElem (by omega : 0 < elems.length)] at hz
      obtain ⟨cz, hcz, _⟩ := Option.bind_eq_some_iff.1 hz
      rw [Try.cells34] at hcz
      obtain ⟨_, hz3, hzc⟩ := World.cells?_some hcz
      have h0 := hzc 0 (by omega)
      rw [List.getElem?_eq_getElem (by omega : 0 < cz.length)] at h0
      have := World.cell?_spot h0
      simpa [Addr.add] using this
    obtain ⟨b, off, spot⟩ := a
    simp only at hspot
    subst hspot
    refine ⟨b, off, Kind, Slot, aB, lB, cB, fB, rfl, ?_, fun j v hv => ?_, hDo⟩
    · rw [Go.WideShapes.add_plain] at hblk
      exact hblk
    · have hj : j < 3 := by have := (List.getElem?_eq_some_iff.1 hv).1; simpa [doV] using this
      have := hcell j hj
      rw [Go.WideShapes.add_plain, Go.WideShapes.add_plain] at this
      rw [this]
      exact hv
theorem open_bs {H : Type} {enc : TypeId × Value → H} {W : World} {a0 : Option Addr} {l c : Nat} {d : DataW H} {p : List MemPlace}
    (h : DataW.Trod enc Try.prog W 0 (fun _ => true) true 32 (.slice a0 l c) d p) : ∃ f : Nat → Int, l ≤ maxLen ∧ Arg W a0 l f ∧ okB l f := by
  obtain ⟨fuel, hf⟩ := h
  have hf' : DataW.trod enc Try.prog W 0 (fun _ => true) true fuel 32 [.slice a0 l c] = some (d, p) := by simpa [Value.cells] using hf
  obtain ⟨a, l', c', f, e, h1, h2, _, h3, h4, _⟩ := open_bytes hf'
  cases e
  exact ⟨f, by omega, h3, h4⟩
end Go.Proofs.Ytimmckdghihcjaa
