/- How a struct of the kind that the statements take is read: three numbers and three lists; no condition. -/
import Derived.Test.YtpedgpaebdoafaaAp
import Derived.Lib.SmallJoins
import Derived.SizedLaws
namespace Go.Proofs.Ytpedgpaebdoafaa
open Go.ChangeShapes Go.WideShapes Go.ChangeAt Go.RowKit Go.Deep
set_option linter.unusedVariables false

theorem laidOut : laidOutB Try.prog = true := by kernel_rfl
theorem Try.cells36 : Try.prog.cellsOf 36 = 1 := by kernel_rfl
theorem Try.cells37 : Try.prog.cellsOf 37 = 1 := by kernel_rfl
theorem Try.cells3 : Try.prog.cellsOf 3 = 1 := by kernel_rfl
theorem Try.cells32 : Try.prog.cellsOf 32 = 1 := by kernel_rfl
theorem Try.cells39 : Try.prog.cellsOf 39 = 6 := by kernel_rfl
theorem wf_u64 {n : Int} (h : (Lit.int .u64 n).wf = true) : 0 ≤ n ∧ n < 18446744073709551616 := by
  have := bounds_u64 h
  omega
theorem wf_i64 {n : Int} (h : (Lit.int .i64 n).wf = true) : -9223372036854775808 ≤ n ∧ n < 9223372036854775808 := by
  have := bounds_i64 h
  omega
theorem open_u64s {H : Type} {enc : TypeId × Value → H} {W : World} {fuel : Nat} {v : Value} {x : DataW H × List MemPlace}
    (h : DataW.trod enc Try.prog W 0 (fun _ => true) true fuel 37 [v] = some x) :
    ∃ (a : Option Addr) (l c : Nat) (f : Nat → Int), v = .slice a l c ∧ l ≤ maxLen ∧ Arg .u64 W a l f ∧ (∀ i, i < l → 0 ≤ f i ∧ f i < 18446744073709551616) := by
  rcases open_ints Try.underlying37 Try.underlying32 Try.cells32 h with ⟨hcs, rfl⟩ | ⟨a, l, c, zs, hcs, _, hlc, hcm, hlen, rfl, hcell, hwf⟩
  · simp at hcs
    exact ⟨none, 0, 0, fun _ => 0, hcs, Nat.zero_le _, Or.inl rfl, fun i hi => by omega⟩
  · simp at hcs
    simp at hlen
    refine ⟨some a, l, c, fun i => zs.getD i 0, hcs, by omega, ?_, ?_⟩
    · by_cases h0 : l = 0
      · exact Or.inl h0
      · right
        have hfirst := hcell 0 (by omega)
        obtain ⟨b, off, spot⟩ := a
        have hspot : spot = none := by simpa [Addr.add] using World.cell?_spot hfirst
        subst hspot
        refine ⟨b, off, rfl, ?_, fun i hi => ?_⟩
        · have := World.block_lt_of_cell? W _ hfirst
          simpa [Addr.add] using this
        · have := hcell i (by omega)
          rw [Go.WideShapes.add_plain] at this
          exact this
    · intro i hi
      have hi' : i < zs.length := by omega
      have : zs.getD i 0 ∈ zs := by
        rw [List.getD_eq_getElem?_getD, List.getElem?_eq_getElem hi']
        exact List.getElem_mem _
      exact wf_u64 (hwf _ this)
theorem open_i64s {H : Type} {enc : TypeId × Value → H} {W : World} {fuel : Nat} {v : Value} {x : DataW H × List MemPlace}
    (h : DataW.trod enc Try.prog W 0 (fun _ => true) true fuel 36 [v] = some x) :
    ∃ (a : Option Addr) (l c : Nat) (f : Nat → Int), v = .slice a l c ∧ l ≤ maxLen ∧ Arg .i64 W a l f ∧ (∀ i, i < l → -9223372036854775808 ≤ f i ∧ f i < 9223372036854775808) := by
  rcases open_ints Try.underlying36 Try.underlying3 Try.cells3 h with ⟨hcs, rfl⟩ | ⟨a, l, c, zs, hcs, _, hlc, hcm, hlen, rfl, hcell, hwf⟩
  · simp at hcs
    exact ⟨none, 0, 0, fun _ => 0, hcs, Nat.zero_le _, Or.inl rfl, fun i hi => by omega⟩
  · simp at hcs
    simp at hlen
    refine ⟨some a, l, c, fun i => zs.getD i 0, hcs, by omega, ?_, ?_⟩
    · by_cases h0 : l = 0
      · exact Or.inl h0
      · right
        have hfirst := hcell 0 (by omega)
        obtain ⟨b, off, spot⟩ := a
        have hspot : spot = none := by simpa [Addr.add] using World.cell?_spot hfirst
        subst hspot
        refine ⟨b, off, rfl, ?_, fun i hi => ?_⟩
        · have := World.block_lt_of_cell? W _ hfirst
          simpa [Addr.add] using this
        · have := hcell i (by omega)
          rw [Go.WideShapes.add_plain] at this
          exact this
    · intro i hi
      have hi' : i < zs.length := by omega
      have : zs.getD i 0 ∈ zs := by
        rw [List.getD_eq_getElem?_getD, List.getElem?_eq_getElem hi']
        exact List.getElem_mem _
      exact wf_i64 (hwf _ this)
theorem array6 {α : Type} {cs : Array α} (h : cs.size = 6) : ∃ c0 c1 c2 c3 c4 c5, cs = #[c0, c1, c2, c3, c4, c5] := by
  obtain ⟨l⟩ := cs
  match l, h with
  | [c0, c1, c2, c3, c4, c5], _ => exact ⟨c0, c1, c2, c3, c4, c5, rfl⟩
theorem open_touches {H : Type} {enc : TypeId × Value → H} {W : World} {base : Nat} {v : Value} {d : DataW H} {p : List MemPlace} (hv : Value.okWide Try.prog W .any base 39 v)
    (h : DataW.Trod enc Try.prog W 0 (fun _ => true) true 39 v d p) :
    ∃ K Ways Set aS lS cS aT lT cT aO lO cO fS fT fO, v = .agg (tV K Ways Set aS lS cS aT lT cT aO lO cO).toArray ∧ TIn W K Ways Set aS lS cS aT lT cT aO lO cO fS fT fO := by
  obtain ⟨cs, rfl, hsz⟩ := okWide_struct Try.underlying39 hv
  obtain ⟨c0, c1, c2, c3, c4, c5, rfl⟩ := array6 (hsz.trans Try.cells39)
  obtain ⟨fuel, hf⟩ := h
  obtain ⟨xs, n, _, hx, hl, hlen, hg⟩ := DataW.trod_struct Try.underlying39 hf
  match xs, hlen with
  | [y0, y1, y2, y3, y4, y5], _ =>
    have t0 := hg 0 _ rfl
    have t1 := hg 1 _ rfl
    have t2 := hg 2 _ rfl
    have t3 := hg 3 _ rfl
    have t4 := hg 4 _ rfl
    have t5 := hg 5 _ rfl
    simp [Value.cells, Try.cells36, Try.cells37, Try.cells3] at t0 t1 t2 t3 t4 t5
    obtain ⟨K, e0, _, w0⟩ := DataW.trod_int Try.underlying3 t0
    obtain ⟨Ways, e1, _, w1⟩ := DataW.trod_int Try.underlying3 t1
    obtain ⟨Set, e2, _, w2⟩ := DataW.trod_int Try.underlying3 t2
    simp at e0 e1 e2
    subst e0 e1 e2
    obtain ⟨aS, lS, cS, fS, rfl, s0, s1, s2⟩ := open_i64s t3
    obtain ⟨aT, lT, cT, fT, rfl, k0, k1, k2⟩ := open_u64s t4
    obtain ⟨aO, lO, cO, fO, rfl, m0, m1, m2⟩ := open_u64s t5
    exact ⟨K, Ways, Set, aS, lS, cS, aT, lT, cT, aO, lO, cO, fS, fT, fO, rfl, wf_i64 w0, wf_i64 w1, wf_i64 w2, s0, k0, m0, s1, k1, m1, s2, k2, m2⟩
end Go.Proofs.Ytpedgpaebdoafaa
