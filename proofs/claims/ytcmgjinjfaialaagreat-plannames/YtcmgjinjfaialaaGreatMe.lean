/- Configurations as they lie in memory: a box of seventeen cells, the turns, the partitions and their colours; what keeps them; no condition. -/
import Derived.Test.YtcmgjinjfaialaaGreatMt
import Derived.Test.YtcmgjinjfaialaaGreatBo
namespace Go.Proofs.YtcmgjinjfaialaaGreat
open Go.ChangeShapes Go.WideShapes Go.ChangeAt Go.RowKit
set_option linter.unusedVariables false

/-- Numbers that came in: l of them, the i-th is f i. -/
def Arg (w : World) (ao : Option Addr) (l : Nat) (f : Nat → Int) : Prop := l = 0 ∨ ∃ b off, ao = some ⟨b, off, none⟩ ∧ b < w.heap.size ∧ ∀ i, i < l → w.cell? ⟨b, off + i, none⟩ = some (.int .i64 (f i))
theorem Arg.at' {w w' : World} {ao : Option Addr} {l : Nat} {f : Nat → Int} (h : Arg w ao l f) (hb : Below w.heap.size w w') {i : Nat} (hi : i < l) : ∃ b off, ao = some ⟨b, off, none⟩ ∧ w'.cell? ⟨b, off + i, none⟩ = some (.int .i64 (f i)) := by
  rcases h with h | ⟨b, off, e, hl, hr⟩
  · omega
  · exact ⟨b, off, e, (hb.cell (p := ⟨b, off + i, none⟩) hl).trans (hr i hi)⟩
theorem Arg.below {w w' : World} {ao : Option Addr} {l : Nat} {f : Nat → Int} (h : Arg w ao l f) (hb : Below w.heap.size w w') : Arg w' ao l f := by
  rcases h with h | ⟨b, off, e, hl, hr⟩
  · exact Or.inl h
  · exact Or.inr ⟨b, off, e, Nat.lt_of_lt_of_le hl hb.size, fun i hi => (hb.cell (p := ⟨b, off + i, none⟩) hl).trans (hr i hi)⟩
/-- A partition's eight cells from o on. -/
structure Eig (w : World) (b o : Nat) (q : Option Addr) (m : Nat) (x : Pa) : Prop where
  lt : b < w.heap.size
  c0 : w.cell? ⟨b, o, none⟩ = some (.slice q x.n m)
  c1 : w.cell? ⟨b, o + 1, none⟩ = some (.int .i64 x.o)
  c2 : w.cell? ⟨b, o + 2, none⟩ = some (.int .i64 x.u)
  c3 : w.cell? ⟨b, o + 3, none⟩ = some (.int .i64 x.t)
  c4 : w.cell? ⟨b, o + 4, none⟩ = some (.int .i64 x.s)
  c5 : w.cell? ⟨b, o + 5, none⟩ = some (.int .i64 x.r)
  c6 : w.cell? ⟨b, o + 6, none⟩ = some (.int .i64 x.d)
  c7 : w.cell? ⟨b, o + 7, none⟩ = some (.int .i64 x.z)
theorem Eig.below {w w' : World} {b o : Nat} {q : Option Addr} {m : Nat} {x : Pa} (h : Eig w b o q m x) (k : Below w.heap.size w w') : Eig w' b o q m x :=
  ⟨Nat.lt_of_lt_of_le h.lt k.size, (k.cell h.lt).trans h.c0, (k.cell h.lt).trans h.c1, (k.cell h.lt).trans h.c2, (k.cell h.lt).trans h.c3, (k.cell h.lt).trans h.c4, (k.cell h.lt).trans h.c5, (k.cell h.lt).trans h.c6, (k.cell h.lt).trans h.c7⟩
/-- A partition in a box of its own. -/
structure Ebx (w : World) (b : Nat) (q : Option Addr) (m : Nat) (x : Pa) : Prop where
  lt : b < w.heap.size
  c0 : w.cell? ⟨b, 0, none⟩ = some (.slice q x.n m)
  c1 : w.cell? ⟨b, 1, none⟩ = some (.int .i64 x.o)
  c2 : w.cell? ⟨b, 2, none⟩ = some (.int .i64 x.u)
  c3 : w.cell? ⟨b, 3, none⟩ = some (.int .i64 x.t)
  c4 : w.cell? ⟨b, 4, none⟩ = some (.int .i64 x.s)
  c5 : w.cell? ⟨b, 5, none⟩ = some (.int .i64 x.r)
  c6 : w.cell? ⟨b, 6, none⟩ = some (.int .i64 x.d)
  c7 : w.cell? ⟨b, 7, none⟩ = some (.int .i64 x.z)
theorem Ebx.below {w w' : World} {b : Nat} {q : Option Addr} {m : Nat} {x : Pa} (h : Ebx w b q m x) (k : Below w.heap.size w w') : Ebx w' b q m x :=
  ⟨Nat.lt_of_lt_of_le h.lt k.size, (k.cell h.lt).trans h.c0, (k.cell h.lt).trans h.c1, (k.cell h.lt).trans h.c2, (k.cell h.lt).trans h.c3, (k.cell h.lt).trans h.c4, (k.cell h.lt).trans h.c5, (k.cell h.lt).trans h.c6, (k.cell h.lt).trans h.c7⟩
theorem ebx_new (w : World) (q : Option Addr) (m : Nat) (x : Pa) : Ebx (w.alloc (.cells #[.slice q x.n m, .int .i64 x.o, .int .i64 x.u, .int .i64 x.t, .int .i64 x.s, .int .i64 x.r, .int .i64 x.d, .int .i64 x.z] 40)) w.heap.size q m x :=
  ⟨by simp, cell_new w _ 40 0, cell_new w _ 40 1, cell_new w _ 40 2, cell_new w _ 40 3, cell_new w _ 40 4, cell_new w _ 40 5, cell_new w _ 40 6, cell_new w _ 40 7⟩
theorem Blk.frozen {w : World} {g : Nat} {ty : TypeId} {L : List Value} (h : Blk w g ty L) (i : Nat) : w.frozen? ⟨g, i, none⟩ = false := by
  unfold Blk at h
  simp [World.frozen?, h]
theorem Blk.set {w : World} {g : Nat} {ty : TypeId} {L : List Value} (h : Blk w g ty L) (i : Nat) (v : Value) : Blk (w.setCell ⟨g, i, none⟩ v) g ty (L.set i v) := by
  unfold Blk at *
  simp only [World.setCell, Array.getElem?_modify, if_true, h]
  simp
theorem grown_setCell' (w : World) (g k : Nat) (v : Value) : w.grownBy (w.setCell ⟨g, k, none⟩ v) (some g) :=
  ⟨rfl, rfl, rfl, by simp [World.setCell], fun i hi hne => Below.heap_setCell _ _ _ _ (by intro h; exact hne (by rw [h]))⟩
theorem below_setCell {B : Nat} {w : World} {g : Nat} (hB : B ≤ g) (hw : B ≤ w.heap.size) (k : Nat) (v : Value) : Below B w (w.setCell ⟨g, k, none⟩ v) :=
  (Below.refl B w).grown (grown_setCell' w g k v) hw (fun t ht => by cases ht; exact hB)
/-- Where the lists of a configuration lie, and their capacities. -/
structure Ad where
  ta : Option Addr
  tc : Nat
  pa : Option Addr
  pc : Nat
  ca : Nat → Option Addr
  cc : Nat → Nat
/-- Partitions that came in. -/
def Prs (w : World) (pa : Option Addr) (n : Nat) (ca : Nat → Option Addr) (cc : Nat → Nat) (pf : Nat → Pa) : Prop :=
  n = 0 ∨ ∃ b off, pa = some ⟨b, off, none⟩ ∧ b < w.heap.size ∧ ∀ i, i < n → Eig w b (off + i * 8) (ca i) (cc i) (pf i) ∧ Arg w (ca i) (pf i).n (pf i).f
theorem Prs.below {w w' : World} {pa : Option Addr} {n : Nat} {ca : Nat → Option Addr} {cc : Nat → Nat} {pf : Nat → Pa} (h : Prs w pa n ca cc pf) (k : Below w.heap.size w w') : Prs w' pa n ca cc pf := by
  rcases h with h | ⟨b, off, e, hl, hr⟩
  · exact Or.inl h
  · exact Or.inr ⟨b, off, e, Nat.lt_of_lt_of_le hl k.size, fun i hi => ⟨(hr i hi).1.below k, (hr i hi).2.below k⟩⟩
theorem Prs.at' {w : World} {pa : Option Addr} {n : Nat} {ca : Nat → Option Addr} {cc : Nat → Nat} {pf : Nat → Pa} (h : Prs w pa n ca cc pf) {i : Nat} (hi : i < n) :
    ∃ b off, pa = some ⟨b, off, none⟩ ∧ Eig w b (off + i * 8) (ca i) (cc i) (pf i) := by
  rcases h with h | ⟨b, off, e, hl, hr⟩
  · omega
  · exact ⟨b, off, e, (hr i hi).1⟩
theorem Prs.col {w : World} {pa : Option Addr} {n : Nat} {ca : Nat → Option Addr} {cc : Nat → Nat} {pf : Nat → Pa} (h : Prs w pa n ca cc pf) {i : Nat} (hi : i < n) : Arg w (ca i) (pf i).n (pf i).f := by
  rcases h with h | ⟨b, off, e, hl, hr⟩
  · omega
  · exact (hr i hi).2
theorem Prs.less {w : World} {pa : Option Addr} {n m : Nat} {ca : Nat → Option Addr} {cc : Nat → Nat} {pf : Nat → Pa} (h : Prs w pa n ca cc pf) (hm : m ≤ n) : Prs w pa m ca cc pf := by
  rcases h with h | ⟨b, off, e, hl, hr⟩
  · exact Or.inl (by omega)
  · exact Or.inr ⟨b, off, e, hl, fun i hi => hr i (by omega)⟩
/-- A configuration's lists in memory, and that its numbers are a machine's. -/
structure Cin (w : World) (a : Ad) (c : Cf) : Prop where
  t : Arg w a.ta c.tn c.tf
  p : Prs w a.pa c.pn a.ca a.cc c.pf
  tl : c.tn * 8 ≤ 140737488351232
  pl : c.pn * 80 ≤ 140737488351232
  cl : ∀ i, i < c.pn → (c.pf i).n * 8 ≤ 140737488351232
  tz : a.ta = none → c.tn = 0 ∧ a.tc = 0
  pz : a.pa = none → c.pn = 0 ∧ a.pc = 0
  cz : ∀ i, i < c.pn → a.ca i = none → (c.pf i).n = 0 ∧ a.cc i = 0
  ple : c.pn ≤ a.pc
  C0 : -9223372036854775808 ≤ c.C
  C1 : c.C ≤ 9223372036854775807
  S0 : -9223372036854775808 ≤ c.S
  S1 : c.S ≤ 9223372036854775807
theorem Cin.below {w w' : World} {a : Ad} {c : Cf} (h : Cin w a c) (k : Below w.heap.size w w') : Cin w' a c := ⟨h.t.below k, h.p.below k, h.tl, h.pl, h.cl, h.tz, h.pz, h.cz, h.ple, h.C0, h.C1, h.S0, h.S1⟩
/-- A configuration in a box. -/
structure Sev (w : World) (g : Nat) (a : Ad) (c : Cf) : Prop where
  lt : g < w.heap.size
  c0 : w.cell? ⟨g, 0, none⟩ = some (.int .i64 c.F)
  c1 : w.cell? ⟨g, 1, none⟩ = some (.int .i64 c.C)
  c2 : w.cell? ⟨g, 2, none⟩ = some (.int .i64 c.W)
  c3 : w.cell? ⟨g, 3, none⟩ = some (.int .i64 c.S)
  c4 : w.cell? ⟨g, 4, none⟩ = some (.int .i64 c.V)
  c5 : w.cell? ⟨g, 5, none⟩ = some (.int .i64 c.T)
  c6 : w.cell? ⟨g, 6, none⟩ = some (.int .u64 c.k.l1)
  c7 : w.cell? ⟨g, 7, none⟩ = some (.int .u64 c.k.llc)
  c8 : w.cell? ⟨g, 8, none⟩ = some (.int .u64 c.k.mi)
  c9 : w.cell? ⟨g, 9, none⟩ = some (.int .u64 c.k.fa)
  c10 : w.cell? ⟨g, 10, none⟩ = some (.int .u64 c.k.st)
  c11 : w.cell? ⟨g, 11, none⟩ = some (.int .u64 c.k.di)
  c12 : w.cell? ⟨g, 12, none⟩ = some (.int .u64 c.sl)
  c13 : w.cell? ⟨g, 13, none⟩ = some (.int .u64 c.pd)
  c14 : w.cell? ⟨g, 14, none⟩ = some (.int .u64 c.ft)
  c15 : w.cell? ⟨g, 15, none⟩ = some (.slice a.ta c.tn a.tc)
  c16 : w.cell? ⟨g, 16, none⟩ = some (.slice a.pa c.pn a.pc)
theorem Sev.below {w w' : World} {g : Nat} {a : Ad} {c : Cf} (h : Sev w g a c) (k : Below w.heap.size w w') : Sev w' g a c :=
  ⟨Nat.lt_of_lt_of_le h.lt k.size, (k.cell h.lt).trans h.c0, (k.cell h.lt).trans h.c1, (k.cell h.lt).trans h.c2, (k.cell h.lt).trans h.c3, (k.cell h.lt).trans h.c4, (k.cell h.lt).trans h.c5, (k.cell h.lt).trans h.c6, (k.cell h.lt).trans h.c7, (k.cell h.lt).trans h.c8, (k.cell h.lt).trans h.c9, (k.cell h.lt).trans h.c10, (k.cell h.lt).trans h.c11, (k.cell h.lt).trans h.c12, (k.cell h.lt).trans h.c13, (k.cell h.lt).trans h.c14, (k.cell h.lt).trans h.c15, (k.cell h.lt).trans h.c16⟩
theorem sev_new (w : World) (a : Ad) (c : Cf) : Sev (w.alloc (.cells #[.int .i64 c.F, .int .i64 c.C, .int .i64 c.W, .int .i64 c.S, .int .i64 c.V, .int .i64 c.T, .int .u64 c.k.l1, .int .u64 c.k.llc, .int .u64 c.k.mi, .int .u64 c.k.fa, .int .u64 c.k.st, .int .u64 c.k.di, .int .u64 c.sl, .int .u64 c.pd, .int .u64 c.ft, .slice a.ta c.tn a.tc, .slice a.pa c.pn a.pc] 28)) w.heap.size a c :=
  ⟨by simp, cell_new w _ 28 0, cell_new w _ 28 1, cell_new w _ 28 2, cell_new w _ 28 3, cell_new w _ 28 4, cell_new w _ 28 5, cell_new w _ 28 6, cell_new w _ 28 7, cell_new w _ 28 8, cell_new w _ 28 9, cell_new w _ 28 10, cell_new w _ 28 11, cell_new w _ 28 12, cell_new w _ 28 13, cell_new w _ 28 14, cell_new w _ 28 15, cell_new w _ 28 16⟩
/-- A configuration in a box beside what was there. -/
structure Cb (w0 w : World) (g : Nat) (a : Ad) (c : Cf) : Prop where
  be : Below w0.heap.size w0 w
  bx : Sev w g a c
  ci : Cin w a c
theorem Cb.below {w0 w w' : World} {g : Nat} {a : Ad} {c : Cf} (h : Cb w0 w g a c) (k : Below w.heap.size w w') : Cb w0 w' g a c := ⟨h.be.trans (k.mono h.be.size), h.bx.below k, h.ci.below k⟩
theorem cb_new {w : World} {a : Ad} {c : Cf} (h : Cin w a c) : Cb w (w.alloc (.cells #[.int .i64 c.F, .int .i64 c.C, .int .i64 c.W, .int .i64 c.S, .int .i64 c.V, .int .i64 c.T, .int .u64 c.k.l1, .int .u64 c.k.llc, .int .u64 c.k.mi, .int .u64 c.k.fa, .int .u64 c.k.st, .int .u64 c.k.di, .int .u64 c.sl, .int .u64 c.pd, .int .u64 c.ft, .slice a.ta c.tn a.tc, .slice a.pa c.pn a.pc] 28)) w.heap.size a c :=
  ⟨below_new _ _, sev_new w a c, h.below (below_new _ _)⟩
end Go.Proofs.YtcmgjinjfaialaaGreat
