/- A configuration, a partition loaded whole out of their boxes: one equation each; no condition. -/
import Derived.Test.YtcmgjinjfaialaaGreatMe
namespace Go.Proofs.YtcmgjinjfaialaaGreat
open Go.ChangeShapes Go.WideShapes Go.ChangeAt Go.RowKit
set_option linter.unusedVariables false

theorem Sev.ld {w : World} {g : Nat} {a : Ad} {c : Cf} (h : Sev w g a c) : (Instr.loadAt 28 (.pointer (some ⟨g, 0, none⟩))).run Tryz.prog w = .ok (.agg #[.int .i64 c.F, .int .i64 c.C, .int .i64 c.W, .int .i64 c.S, .int .i64 c.V, .int .i64 c.T, .int .u64 c.k.l1, .int .u64 c.k.llc, .int .u64 c.k.mi, .int .u64 c.k.fa, .int .u64 c.k.st, .int .u64 c.k.di, .int .u64 c.sl, .int .u64 c.pd, .int .u64 c.ft, .slice a.ta c.tn a.tc, .slice a.pa c.pn a.pc]) w := by
  obtain ⟨_, c0, c1, c2, c3, c4, c5, c6, c7, c8, c9, c10, c11, c12, c13, c14, c15, c16⟩ := h
  simp [go_sem, *]
theorem Ebx.ld {w : World} {b : Nat} {q : Option Addr} {m : Nat} {x : Pa} (h : Ebx w b q m x) : (Instr.loadAt 40 (.pointer (some ⟨b, 0, none⟩))).run Tryz.prog w = .ok (.agg #[.slice q x.n m, .int .i64 x.o, .int .i64 x.u, .int .i64 x.t, .int .i64 x.s, .int .i64 x.r, .int .i64 x.d, .int .i64 x.z]) w := by
  obtain ⟨_, c0, c1, c2, c3, c4, c5, c6, c7⟩ := h
  simp [go_sem, *]
end Go.Proofs.YtcmgjinjfaialaaGreat
