/- How an entry that the statements take is read: six truths and a number; no condition. -/
import Derived.Test.YtinegjobjpmkcaaLw
import Derived.Lib.SmallJoins
import Derived.SizedLaws
namespace Go.Proofs.Ytinegjobjpmkcaa
open Go.ChangeShapes Go.WideShapes Go.ChangeAt Go.RowKit Go.Deep
set_option linter.unusedVariables false

theorem laidOut : laidOutB Try.prog = true := by kernel_rfl
theorem Try.cells3 : Try.prog.cellsOf 3 = 1 := by kernel_rfl
theorem Try.cells4 : Try.prog.cellsOf 4 = 1 := by kernel_rfl
theorem Try.cells23 : Try.prog.cellsOf 23 = 7 := by kernel_rfl
theorem wf_u64 {n : Int} (h : (Lit.int .u64 n).wf = true) : 0 ≤ n ∧ n < 18446744073709551616 := by
  have := bounds_u64 h
  omega
theorem array7 {α : Type} {cs : Array α} (h : cs.size = 7) : ∃ c0 c1 c2 c3 c4 c5 c6, cs = #[c0, c1, c2, c3, c4, c5, c6] := by
  obtain ⟨l⟩ := cs
  match l, h with
  | [c0, c1, c2, c3, c4, c5, c6], _ => exact ⟨c0, c1, c2, c3, c4, c5, c6, rfl⟩
theorem open_en {H : Type} {enc : TypeId × Value → H} {W : World} {base : Nat} {v : Value} {x : DataW H} {l : List MemPlace} (hv : Value.okWide Try.prog W .any base 23 v)
    (h : DataW.Trod enc Try.prog W 0 (fun _ => true) true 23 v x l) :
    ∃ p s r u a d t, v = .agg #[.bool p, .bool s, .bool r, .bool u, .bool a, .bool d, .int .i64 t] := by
  obtain ⟨cs, rfl, hsz⟩ := okWide_struct Try.underlying23 hv
  obtain ⟨c0, c1, c2, c3, c4, c5, c6, rfl⟩ := array7 (hsz.trans Try.cells23)
  obtain ⟨fuel, hf⟩ := h
  obtain ⟨xs, n, _, hx, hl, hlen, hg⟩ := DataW.trod_struct Try.underlying23 hf
  match xs, hlen with
  | [y0, y1, y2, y3, y4, y5, y6], _ =>
    have t0 := hg 0 _ rfl
    have t1 := hg 1 _ rfl
    have t2 := hg 2 _ rfl
    have t3 := hg 3 _ rfl
    have t4 := hg 4 _ rfl
    have t5 := hg 5 _ rfl
    have t6 := hg 6 _ rfl
    simp [Value.cells, Try.cells4, Try.cells3] at t0 t1 t2 t3 t4 t5 t6
    obtain ⟨p, e0, _⟩ := DataW.trod_bool Try.underlying4 t0
    obtain ⟨s, e1, _⟩ := DataW.trod_bool Try.underlying4 t1
    obtain ⟨r, e2, _⟩ := DataW.trod_bool Try.underlying4 t2
    obtain ⟨u, e3, _⟩ := DataW.trod_bool Try.underlying4 t3
    obtain ⟨a, e4, _⟩ := DataW.trod_bool Try.underlying4 t4
    obtain ⟨d, e5, _⟩ := DataW.trod_bool Try.underlying4 t5
    obtain ⟨t, e6, _, w6⟩ := DataW.trod_int Try.underlying3 t6
    simp at e0 e1 e2 e3 e4 e5 e6
    subst e0 e1 e2 e3 e4 e5 e6
    exact ⟨p, s, r, u, a, d, t, rfl⟩
end Go.Proofs.Ytinegjobjpmkcaa
