/- How a struct of the kind that the statements take is read: two lists of bytes and four numbers; no condition. -/
import Derived.Test.YtbfagelmijimeaaPc
import Derived.Lib.SmallJoins
import Derived.SizedLaws
namespace Go.Proofs.Ytbfagelmijimeaa
open Go.ChangeShapes Go.WideShapes Go.ChangeAt Go.RowKit Go.Deep
set_option linter.unusedVariables false

theorem laidOut : laidOutB Try.prog = true := by kernel_rfl
theorem Try.cells5 : Try.prog.cellsOf 5 = 1 := by kernel_rfl
theorem Try.cells33 : Try.prog.cellsOf 33 = 1 := by kernel_rfl
theorem Try.cells3 : Try.prog.cellsOf 3 = 1 := by kernel_rfl
theorem Try.cells32 : Try.prog.cellsOf 32 = 1 := by kernel_rfl
theorem Try.cells40 : Try.prog.cellsOf 40 = 6 := by kernel_rfl
theorem wf_u8 {n : Int} (h : (Lit.int .u8 n).wf = true) : 0 ≤ n ∧ n < 256 := by
  have := bounds_u8 h
  omega
theorem wf_u64 {n : Int} (h : (Lit.int .u64 n).wf = true) : 0 ≤ n ∧ n < 18446744073709551616 := by
  have := bounds_u64 h
  omega
theorem open_bytes {H : Type} {enc : TypeId × Value → H} {W : World} {fuel : Nat} {v : Value} {x : DataW H × List MemPlace}
    (h : DataW.trod enc Try.prog W 0 (fun _ => true) true fuel 33 [v] = some x) :
    ∃ (a : Option Addr) (l c : Nat) (f : Nat → Int), v = .slice a l c ∧ l ≤ c ∧ c ≤ maxLen ∧ (a = none → c = 0) ∧ Arg W a l f ∧ okB l f ∧ (x.1 = .nil ∧ l = 0 ∨ ∃ es sp, x.1 = .slice es sp ∧ es.length = l) := by
  rcases open_ints Try.underlying33 Try.underlying5 Try.cells5 h with ⟨hcs, rfl⟩ | ⟨a, l, c, zs, hcs, _, hlc, hcm, hlen, rfl, hcell, hwf⟩
  · simp at hcs
    exact ⟨none, 0, 0, fun _ => 0, hcs, Nat.le_refl _, Nat.zero_le _, fun _ => rfl, Or.inl rfl, fun i hi => by omega, Or.inl ⟨rfl, rfl⟩⟩
  · simp at hcs
    simp at hlen
    refine ⟨some a, l, c, fun i => zs.getD i 0, hcs, hlc, hcm, fun h => by simp at h, ?_, ?_, Or.inr ⟨_, _, rfl, by simp [lits]; omega⟩⟩
    · by_cases h0 : l = 0
      · exact Or.inl h0
      · right
        have hfirst := hcell 0 (by omega)
        obtain ⟨b, off, spot⟩ := a
        have hspot : spot = none := by simpa [Addr.add] using World.cell?_spot hfirst
        subst hspot
        refine ⟨b, off, rfl, ?_, fun i hi => ?_⟩
        · have := World.block_lt_of_cell? W _ hfirst
          simpa [Addr.add] using this
        · have := hcell i (by omega)
          rw [Go.WideShapes.add_plain] at this
          exact this
    · intro i hi
      have hi' : i < zs.length := by omega
      have : zs.getD i 0 ∈ zs := by
        rw [List.getD_eq_getElem?_getD, List.getElem?_eq_getElem hi']
        exact List.getElem_mem _
      exact wf_u8 (hwf _ this)
theorem array6 {α : Type} {cs : Array α} (h : cs.size = 6) : ∃ c0 c1 c2 c3 c4 c5, cs = #[c0, c1, c2, c3, c4, c5] := by
  obtain ⟨l⟩ := cs
  match l, h with
  | [c0, c1, c2, c3, c4, c5], _ => exact ⟨c0, c1, c2, c3, c4, c5, rfl⟩
/-- What is known of a struct that came in. -/
structure TwoIn (W : World) (aA : Option Addr) (lA cA : Nat) (aB : Option Addr) (lB cB : Nat) (At Size V Fr : Int) (fA fB : Nat → Int) : Prop where
  la : lA ≤ maxLen
  lb : lB ≤ maxLen
  A : Arg W aA lA fA
  B : Arg W aB lB fB
  oka : okB lA fA
  okb : okB lB fB
  at' : -9223372036854775808 ≤ At ∧ At < 9223372036854775808
  sz : -9223372036854775808 ≤ Size ∧ Size < 9223372036854775808
  v : 0 ≤ V ∧ V < 18446744073709551616
  fr : -9223372036854775808 ≤ Fr ∧ Fr < 9223372036854775808
theorem wf_i64 {n : Int} (h : (Lit.int .i64 n).wf = true) : -9223372036854775808 ≤ n ∧ n < 9223372036854775808 := by
  have := bounds_i64 h
  omega
theorem open_two {H : Type} {enc : TypeId × Value → H} {W : World} {base : Nat} {v : Value} {d : DataW H} {p : List MemPlace} (hv : Value.okWide Try.prog W .any base 40 v)
    (h : DataW.Trod enc Try.prog W 0 (fun _ => true) true 40 v d p) :
    ∃ aA lA cA aB lB cB At Size V Fr fA fB, v = .agg (twoV aA lA cA aB lB cB At Size V Fr).toArray ∧ TwoIn W aA lA cA aB lB cB At Size V Fr fA fB := by
  obtain ⟨cs, rfl, hsz⟩ := okWide_struct Try.underlying40 hv
  obtain ⟨c0, c1, c2, c3, c4, c5, rfl⟩ := array6 (hsz.trans Try.cells40)
  obtain ⟨fuel, hf⟩ := h
  obtain ⟨xs, n, _, hx, hl, hlen, hg⟩ := DataW.trod_struct Try.underlying40 hf
  match xs, hlen with
  | [y0, y1, y2, y3, y4, y5], _ =>
    have t0 := hg 0 _ rfl
    have t1 := hg 1 _ rfl
    have t2 := hg 2 _ rfl
    have t3 := hg 3 _ rfl
    have t4 := hg 4 _ rfl
    have t5 := hg 5 _ rfl
    simp [Value.cells, Try.cells33, Try.cells3, Try.cells32] at t0 t1 t2 t3 t4 t5
    obtain ⟨aA, lA, cA, fA, rfl, k0, k1, k2, k3, k4, _⟩ := open_bytes t0
    obtain ⟨aB, lB, cB, fB, rfl, m0, m1, m2, m3, m4, _⟩ := open_bytes t1
    obtain ⟨At, e2, _, w2⟩ := DataW.trod_int Try.underlying3 t2
    obtain ⟨Size, e3, _, w3⟩ := DataW.trod_int Try.underlying3 t3
    obtain ⟨V, e4, _, w4⟩ := DataW.trod_int Try.underlying32 t4
    obtain ⟨Fr, e5, _, w5⟩ := DataW.trod_int Try.underlying3 t5
    simp at e2 e3 e4 e5
    subst e2 e3 e4 e5
    exact ⟨aA, lA, cA, aB, lB, cB, At, Size, V, Fr, fA, fB, rfl, by omega, by omega, k3, m3, k4, m4, wf_i64 w2, wf_i64 w3, wf_u64 w4, wf_i64 w5⟩
end Go.Proofs.Ytbfagelmijimeaa
