/- How costs, a shape and a rise that the statements take are read: six numbers, four, seven; no condition. -/
import Derived.Test.YtplffahgjekejaaLw
import Derived.Lib.SmallJoins
import Derived.SizedLaws
namespace Go.Proofs.Ytplffahgjekejaa
open Go.ChangeShapes Go.WideShapes Go.ChangeAt Go.RowKit Go.Deep
set_option linter.unusedVariables false

theorem laidOut : laidOutB Try.prog = true := by kernel_rfl
theorem Try.cells3 : Try.prog.cellsOf 3 = 1 := by kernel_rfl
theorem Try.cells22 : Try.prog.cellsOf 22 = 1 := by kernel_rfl
theorem Try.cells24 : Try.prog.cellsOf 24 = 6 := by kernel_rfl
theorem Try.cells35 : Try.prog.cellsOf 35 = 4 := by kernel_rfl
theorem Try.cells40 : Try.prog.cellsOf 40 = 7 := by kernel_rfl
theorem wf_u64 {n : Int} (h : (Lit.int .u64 n).wf = true) : 0 ≤ n ∧ n < 18446744073709551616 := by
  have := bounds_u64 h
  omega
theorem wf_i64 {n : Int} (h : (Lit.int .i64 n).wf = true) : -9223372036854775808 ≤ n ∧ n ≤ 9223372036854775807 := by
  have := bounds_i64 h
  omega
/-- By how much costs and numbers rise. -/
structure Mo where
  mi : Int
  fa : Int
  st : Int
  di : Int
  us : Int
  li : Int
  no : Int
theorem array_co {α : Type} {cs : Array α} (h : cs.size = 6) : ∃ c0 c1 c2 c3 c4 c5, cs = #[c0, c1, c2, c3, c4, c5] := by
  obtain ⟨l⟩ := cs
  match l, h with
  | [c0, c1, c2, c3, c4, c5], _ => exact ⟨c0, c1, c2, c3, c4, c5, rfl⟩
theorem open_co {H : Type} {enc : TypeId × Value → H} {W : World} {base : Nat} {v : Value} {x : DataW H} {l : List MemPlace} (hv : Value.okWide Try.prog W .any base 24 v)
    (h : DataW.Trod enc Try.prog W 0 (fun _ => true) true 24 v x l) :
    ∃ x : Co, v = .agg #[.int .u64 x.l1, .int .u64 x.llc, .int .u64 x.mi, .int .u64 x.fa, .int .u64 x.st, .int .u64 x.di] ∧ 0 ≤ x.l1 ∧ x.l1 < 18446744073709551616 ∧ 0 ≤ x.llc ∧ x.llc < 18446744073709551616 ∧ 0 ≤ x.mi ∧ x.mi < 18446744073709551616 ∧ 0 ≤ x.fa ∧ x.fa < 18446744073709551616 ∧ 0 ≤ x.st ∧ x.st < 18446744073709551616 ∧ 0 ≤ x.di ∧ x.di < 18446744073709551616 := by
  obtain ⟨cs, rfl, hsz⟩ := okWide_struct Try.underlying24 hv
  obtain ⟨c0, c1, c2, c3, c4, c5, rfl⟩ := array_co (hsz.trans Try.cells24)
  obtain ⟨fuel, hf⟩ := h
  obtain ⟨xs, n, _, hx, hl, hlen, hg⟩ := DataW.trod_struct Try.underlying24 hf
  match xs, hlen with
  | [y0, y1, y2, y3, y4, y5], _ =>
    have t0 := hg 0 _ rfl
    have t1 := hg 1 _ rfl
    have t2 := hg 2 _ rfl
    have t3 := hg 3 _ rfl
    have t4 := hg 4 _ rfl
    have t5 := hg 5 _ rfl
    simp [Value.cells, Try.cells22] at t0 t1 t2 t3 t4 t5
    obtain ⟨a0, e0, _, w0⟩ := DataW.trod_int Try.underlying22 t0
    obtain ⟨a1, e1, _, w1⟩ := DataW.trod_int Try.underlying22 t1
    obtain ⟨a2, e2, _, w2⟩ := DataW.trod_int Try.underlying22 t2
    obtain ⟨a3, e3, _, w3⟩ := DataW.trod_int Try.underlying22 t3
    obtain ⟨a4, e4, _, w4⟩ := DataW.trod_int Try.underlying22 t4
    obtain ⟨a5, e5, _, w5⟩ := DataW.trod_int Try.underlying22 t5
    simp at e0 e1 e2 e3 e4 e5
    subst e0 e1 e2 e3 e4 e5
    exact ⟨⟨a0, a1, a2, a3, a4, a5⟩, rfl, (wf_u64 w0).1, (wf_u64 w0).2, (wf_u64 w1).1, (wf_u64 w1).2, (wf_u64 w2).1, (wf_u64 w2).2, (wf_u64 w3).1, (wf_u64 w3).2, (wf_u64 w4).1, (wf_u64 w4).2, (wf_u64 w5).1, (wf_u64 w5).2⟩
theorem array_sh {α : Type} {cs : Array α} (h : cs.size = 4) : ∃ c0 c1 c2 c3, cs = #[c0, c1, c2, c3] := by
  obtain ⟨l⟩ := cs
  match l, h with
  | [c0, c1, c2, c3], _ => exact ⟨c0, c1, c2, c3, rfl⟩
theorem open_sh {H : Type} {enc : TypeId × Value → H} {W : World} {base : Nat} {v : Value} {x : DataW H} {l : List MemPlace} (hv : Value.okWide Try.prog W .any base 35 v)
    (h : DataW.Trod enc Try.prog W 0 (fun _ => true) true 35 v x l) :
    ∃ x : Sh, v = .agg #[.int .i64 x.im, .int .i64 x.us, .int .i64 x.li, .int .i64 x.no] ∧ -9223372036854775808 ≤ x.im ∧ x.im ≤ 9223372036854775807 ∧ -9223372036854775808 ≤ x.us ∧ x.us ≤ 9223372036854775807 ∧ -9223372036854775808 ≤ x.li ∧ x.li ≤ 9223372036854775807 ∧ -9223372036854775808 ≤ x.no ∧ x.no ≤ 9223372036854775807 := by
  obtain ⟨cs, rfl, hsz⟩ := okWide_struct Try.underlying35 hv
  obtain ⟨c0, c1, c2, c3, rfl⟩ := array_sh (hsz.trans Try.cells35)
  obtain ⟨fuel, hf⟩ := h
  obtain ⟨xs, n, _, hx, hl, hlen, hg⟩ := DataW.trod_struct Try.underlying35 hf
  match xs, hlen with
  | [y0, y1, y2, y3], _ =>
    have t0 := hg 0 _ rfl
    have t1 := hg 1 _ rfl
    have t2 := hg 2 _ rfl
    have t3 := hg 3 _ rfl
    simp [Value.cells, Try.cells3] at t0 t1 t2 t3
    obtain ⟨a0, e0, _, w0⟩ := DataW.trod_int Try.underlying3 t0
    obtain ⟨a1, e1, _, w1⟩ := DataW.trod_int Try.underlying3 t1
    obtain ⟨a2, e2, _, w2⟩ := DataW.trod_int Try.underlying3 t2
    obtain ⟨a3, e3, _, w3⟩ := DataW.trod_int Try.underlying3 t3
    simp at e0 e1 e2 e3
    subst e0 e1 e2 e3
    exact ⟨⟨a0, a1, a2, a3⟩, rfl, (wf_i64 w0).1, (wf_i64 w0).2, (wf_i64 w1).1, (wf_i64 w1).2, (wf_i64 w2).1, (wf_i64 w2).2, (wf_i64 w3).1, (wf_i64 w3).2⟩
theorem array_mo {α : Type} {cs : Array α} (h : cs.size = 7) : ∃ c0 c1 c2 c3 c4 c5 c6, cs = #[c0, c1, c2, c3, c4, c5, c6] := by
  obtain ⟨l⟩ := cs
  match l, h with
  | [c0, c1, c2, c3, c4, c5, c6], _ => exact ⟨c0, c1, c2, c3, c4, c5, c6, rfl⟩
theorem open_mo {H : Type} {enc : TypeId × Value → H} {W : World} {base : Nat} {v : Value} {x : DataW H} {l : List MemPlace} (hv : Value.okWide Try.prog W .any base 40 v)
    (h : DataW.Trod enc Try.prog W 0 (fun _ => true) true 40 v x l) :
    ∃ x : Mo, v = .agg #[.int .u64 x.mi, .int .u64 x.fa, .int .u64 x.st, .int .u64 x.di, .int .i64 x.us, .int .i64 x.li, .int .i64 x.no] ∧ 0 ≤ x.mi ∧ x.mi < 18446744073709551616 ∧ 0 ≤ x.fa ∧ x.fa < 18446744073709551616 ∧ 0 ≤ x.st ∧ x.st < 18446744073709551616 ∧ 0 ≤ x.di ∧ x.di < 18446744073709551616 ∧ -9223372036854775808 ≤ x.us ∧ x.us ≤ 9223372036854775807 ∧ -9223372036854775808 ≤ x.li ∧ x.li ≤ 9223372036854775807 ∧ -9223372036854775808 ≤ x.no ∧ x.no ≤ 9223372036854775807 := by
  obtain ⟨cs, rfl, hsz⟩ := okWide_struct Try.underlying40 hv
  obtain ⟨c0, c1, c2, c3, c4, c5, c6, rfl⟩ := array_mo (hsz.trans Try.cells40)
  obtain ⟨fuel, hf⟩ := h
  obtain ⟨xs, n, _, hx, hl, hlen, hg⟩ := DataW.trod_struct Try.underlying40 hf
  match xs, hlen with
  | [y0, y1, y2, y3, y4, y5, y6], _ =>
    have t0 := hg 0 _ rfl
    have t1 := hg 1 _ rfl
    have t2 := hg 2 _ rfl
    have t3 := hg 3 _ rfl
    have t4 := hg 4 _ rfl
    have t5 := hg 5 _ rfl
    have t6 := hg 6 _ rfl
    simp [Value.cells, Try.cells22, Try.cells3] at t0 t1 t2 t3 t4 t5 t6
    obtain ⟨a0, e0, _, w0⟩ := DataW.trod_int Try.underlying22 t0
    obtain ⟨a1, e1, _, w1⟩ := DataW.trod_int Try.underlying22 t1
    obtain ⟨a2, e2, _, w2⟩ := DataW.trod_int Try.underlying22 t2
    obtain ⟨a3, e3, _, w3⟩ := DataW.trod_int Try.underlying22 t3
    obtain ⟨a4, e4, _, w4⟩ := DataW.trod_int Try.underlying3 t4
    obtain ⟨a5, e5, _, w5⟩ := DataW.trod_int Try.underlying3 t5
    obtain ⟨a6, e6, _, w6⟩ := DataW.trod_int Try.underlying3 t6
    simp at e0 e1 e2 e3 e4 e5 e6
    subst e0 e1 e2 e3 e4 e5 e6
    exact ⟨⟨a0, a1, a2, a3, a4, a5, a6⟩, rfl, (wf_u64 w0).1, (wf_u64 w0).2, (wf_u64 w1).1, (wf_u64 w1).2, (wf_u64 w2).1, (wf_u64 w2).2, (wf_u64 w3).1, (wf_u64 w3).2, (wf_i64 w4).1, (wf_i64 w4).2, (wf_i64 w5).1, (wf_i64 w5).2, (wf_i64 w6).1, (wf_i64 w6).2⟩
end Go.Proofs.Ytplffahgjekejaa
