/- What the document's answer says of a partition's quotas, of a partition, and its shape; no condition but those named. -/
import Derived.Test.YtcmgjinjfaialaaGreatR2
import Derived.Test.YtcmgjinjfaialaaGreatP6
import Derived.Test.YtcmgjinjfaialaaGreatCs
namespace Go.Proofs.YtcmgjinjfaialaaGreat
open Go.ChangeShapes Go.WideShapes Go.ChangeAt Go.RowKit
set_option linter.unusedVariables false

/-- A configuration's box and a partition's beside what was there (the partition made last). -/
structure Cq (w0 w : World) (g b : Nat) (a : Ad) (c : Cf) (q : Option Addr) (m : Nat) (x : Pa) : Prop where
  be : Below w0.heap.size w0 w
  bx : Sev w g a c
  px : Ebx w b q m x
  ci : Cin w a c
theorem Cq.below {w0 w w' : World} {g b : Nat} {a : Ad} {c : Cf} {q : Option Addr} {m : Nat} {x : Pa} (h : Cq w0 w g b a c q m x) (k : Below w.heap.size w w') : Cq w0 w' g b a c q m x :=
  ⟨h.be.trans (k.mono h.be.size), h.bx.below k, h.px.below k, h.ci.below k⟩
theorem Cb.cq {w0 w : World} {g : Nat} {a : Ad} {c : Cf} (h : Cb w0 w g a c) (q : Option Addr) (m : Nat) (x : Pa) : Cq w0 (w.alloc (.cells #[.slice q x.n m, .int .i64 x.o, .int .i64 x.u, .int .i64 x.t, .int .i64 x.s, .int .i64 x.r, .int .i64 x.d, .int .i64 x.z] 40)) g w.heap.size a c q m x :=
  ⟨h.be.alloc h.be.size _, h.bx.below (below_new _ _), ebx_new _ _ _ _, h.ci.below (below_new _ _)⟩
theorem ways7 : ∀ a b c d e f g : Bool, ((a && (b && (c && (d && (e && (f && g)))))) = false ∧ (a = false ∨ (a = true ∧ b = false) ∨ (a = true ∧ b = true ∧ c = false) ∨ (a = true ∧ b = true ∧ c = true ∧ d = false)
    ∨ (a = true ∧ b = true ∧ c = true ∧ d = true ∧ e = false) ∨ (a = true ∧ b = true ∧ c = true ∧ d = true ∧ e = true ∧ f = false) ∨ (a = true ∧ b = true ∧ c = true ∧ d = true ∧ e = true ∧ f = true ∧ g = false)))
    ∨ ((a && (b && (c && (d && (e && (f && g)))))) = true ∧ a = true ∧ b = true ∧ c = true ∧ d = true ∧ e = true ∧ f = true ∧ g = true) := by
  intro a b c d e f g
  cases a <;> cases b <;> cases c <;> cases d <;> cases e <;> cases f <;> cases g <;> simp
theorem qz_and (x : Pa) : (qOk x && zOk x) = (inB x.o 0 3 && (inB x.u 2 4096 && (inB x.t 4 4096 && (inB x.s 1 4096 && (inB x.r 1 4096 && (inB x.d 1 4096 && inB x.z 1 1024)))))) := by
  simp only [qOk, zOk, Bool.and_assoc]
theorem Cq.sx {w0 W : World} {g b : Nat} {a : Ad} {c : Cf} {q : Option Addr} {m : Nat} {x : Pa} {pa : Option Addr} (h : Cq w0 W g b a c q m x) (hq : a.pa = pa) : (W.cell? ⟨g, 0, none⟩ = some (.int .i64 c.F) ∧ W.cell? ⟨g, 1, none⟩ = some (.int .i64 c.C) ∧ W.cell? ⟨g, 2, none⟩ = some (.int .i64 c.W) ∧ W.cell? ⟨g, 3, none⟩ = some (.int .i64 c.S) ∧ W.cell? ⟨g, 4, none⟩ = some (.int .i64 c.V) ∧ W.cell? ⟨g, 5, none⟩ = some (.int .i64 c.T) ∧ W.cell? ⟨g, 6, none⟩ = some (.int .u64 c.k.l1) ∧ W.cell? ⟨g, 7, none⟩ = some (.int .u64 c.k.llc) ∧ W.cell? ⟨g, 8, none⟩ = some (.int .u64 c.k.mi) ∧ W.cell? ⟨g, 9, none⟩ = some (.int .u64 c.k.fa) ∧ W.cell? ⟨g, 10, none⟩ = some (.int .u64 c.k.st) ∧ W.cell? ⟨g, 11, none⟩ = some (.int .u64 c.k.di) ∧ W.cell? ⟨g, 12, none⟩ = some (.int .u64 c.sl) ∧ W.cell? ⟨g, 13, none⟩ = some (.int .u64 c.pd) ∧ W.cell? ⟨g, 14, none⟩ = some (.int .u64 c.ft) ∧ W.cell? ⟨g, 15, none⟩ = some (.slice a.ta c.tn a.tc) ∧ W.cell? ⟨g, 16, none⟩ = some (.slice pa c.pn a.pc)) ∧ (W.cell? ⟨b, 0, none⟩ = some (.slice q x.n m) ∧ W.cell? ⟨b, 1, none⟩ = some (.int .i64 x.o) ∧ W.cell? ⟨b, 2, none⟩ = some (.int .i64 x.u) ∧ W.cell? ⟨b, 3, none⟩ = some (.int .i64 x.t) ∧ W.cell? ⟨b, 4, none⟩ = some (.int .i64 x.s) ∧ W.cell? ⟨b, 5, none⟩ = some (.int .i64 x.r) ∧ W.cell? ⟨b, 6, none⟩ = some (.int .i64 x.d) ∧ W.cell? ⟨b, 7, none⟩ = some (.int .i64 x.z)) := by
  subst hq
  exact ⟨⟨h.bx.c0, h.bx.c1, h.bx.c2, h.bx.c3, h.bx.c4, h.bx.c5, h.bx.c6, h.bx.c7, h.bx.c8, h.bx.c9, h.bx.c10, h.bx.c11, h.bx.c12, h.bx.c13, h.bx.c14, h.bx.c15, h.bx.c16⟩, h.px.sx⟩
end Go.Proofs.YtcmgjinjfaialaaGreat
