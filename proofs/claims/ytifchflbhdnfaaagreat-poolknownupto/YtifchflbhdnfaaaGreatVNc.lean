/- What New gives back in PoolKnown; no condition. -/
import Derived.Test.YtifchflbhdnfaaaGreatVNb
import Derived.Test.YtifchflbhdnfaaaGreatVSl
namespace Go.Proofs.YtifchflbhdnfaaaGreat.P
open Go.ChangeShapes Go.WideShapes Go.ChangeAt Go.RowKit
set_option linter.unusedVariables false
set_option maxRecDepth 8192

theorem new2 {w : World} {a : Ad} {c : Cf} (hc : c = us) (h : Cin w a c) : Calls Tryz.prog 7 #[.agg #[.int .i64 c.F, .int .i64 c.C, .int .i64 c.W, .int .i64 c.S, .int .i64 c.V, .int .i64 c.T, .int .u64 c.k.l1, .int .u64 c.k.llc, .int .u64 c.k.mi, .int .u64 c.k.fa, .int .u64 c.k.st, .int .u64 c.k.di, .int .u64 c.sl, .int .u64 c.pd, .int .u64 c.ft, .slice a.ta c.tn a.tc, .slice a.pa c.pn a.pc], .int .i64 2] w fun e w' => e = .returned (.tuple #[.pointer none, .int .i64 270]) ∧ Below w.heap.size w w' := by
  subst hc
  have := New_no h 2 (by rw [us_fe2]; decide)
  rwa [us_fe2] at this
theorem newm {w : World} {a : Ad} {c : Cf} (hc : c = us) (h : Cin w a c) : Calls Tryz.prog 7 #[.agg #[.int .i64 c.F, .int .i64 c.C, .int .i64 c.W, .int .i64 c.S, .int .i64 c.V, .int .i64 c.T, .int .u64 c.k.l1, .int .u64 c.k.llc, .int .u64 c.k.mi, .int .u64 c.k.fa, .int .u64 c.k.st, .int .u64 c.k.di, .int .u64 c.sl, .int .u64 c.pd, .int .u64 c.ft, .slice a.ta c.tn a.tc, .slice a.pa c.pn a.pc], .int .i64 (-1)] w fun e w' => e = .returned (.tuple #[.pointer none, .int .i64 270]) ∧ Below w.heap.size w w' := by
  subst hc
  have := New_no h (-1) (by rw [us_fem]; decide)
  rwa [us_fem] at this
theorem new3 {w : World} {a : Ad} {c : Cf} (hc : c = us3) (h : Cin w a c) : Calls Tryz.prog 7 #[.agg #[.int .i64 c.F, .int .i64 c.C, .int .i64 c.W, .int .i64 c.S, .int .i64 c.V, .int .i64 c.T, .int .u64 c.k.l1, .int .u64 c.k.llc, .int .u64 c.k.mi, .int .u64 c.k.fa, .int .u64 c.k.st, .int .u64 c.k.di, .int .u64 c.sl, .int .u64 c.pd, .int .u64 c.ft, .slice a.ta c.tn a.tc, .slice a.pa c.pn a.pc], .int .i64 2] w fun e w' => e = .returned (.tuple #[.pointer none, .int .i64 5]) ∧ Below w.heap.size w w' := by
  subst hc
  have := New_no h 2 (by rw [us3_fe]; decide)
  rwa [us3_fe] at this
theorem new0 {w : World} {a : Ad} {c : Cf} (hc : c = us) (h : Cin w a c) : Calls Tryz.prog 7 #[.agg #[.int .i64 c.F, .int .i64 c.C, .int .i64 c.W, .int .i64 c.S, .int .i64 c.V, .int .i64 c.T, .int .u64 c.k.l1, .int .u64 c.k.llc, .int .u64 c.k.mi, .int .u64 c.k.fa, .int .u64 c.k.st, .int .u64 c.k.di, .int .u64 c.sl, .int .u64 c.pd, .int .u64 c.ft, .slice a.ta c.tn a.tc, .slice a.pa c.pn a.pc], .int .i64 0] w fun e w' => ∃ p F, e = .returned (.tuple #[.pointer (some ⟨p, 0, none⟩), .int .i64 0]) ∧ Po w' F p PU (fun _ => none) ∧ B.Kp (fun _ => False) F w w' := by
  subst hc
  exact New_p h 0 us_may (by decide)
theorem newl {w : World} {a : Ad} {c : Cf} (hc : c = lat) (h : Cin w a c) : Calls Tryz.prog 7 #[.agg #[.int .i64 c.F, .int .i64 c.C, .int .i64 c.W, .int .i64 c.S, .int .i64 c.V, .int .i64 c.T, .int .u64 c.k.l1, .int .u64 c.k.llc, .int .u64 c.k.mi, .int .u64 c.k.fa, .int .u64 c.k.st, .int .u64 c.k.di, .int .u64 c.sl, .int .u64 c.pd, .int .u64 c.ft, .slice a.ta c.tn a.tc, .slice a.pa c.pn a.pc], .int .i64 0] w fun e w' => ∃ p F, e = .returned (.tuple #[.pointer (some ⟨p, 0, none⟩), .int .i64 0]) ∧ Po w' F p PL (fun _ => none) ∧ B.Kp (fun _ => False) F w w' := by
  subst hc
  exact New_p h 0 lat_may (by decide)
/-- The box of a configuration with another number of colours. -/
theorem box3 {w : World} {a : Ad} {c : Cf} (hc : c = us) (h : Cin w a c) : Sev ((w.alloc (.cells #[.int .i64 c.F, .int .i64 c.C, .int .i64 c.W, .int .i64 c.S, .int .i64 c.V, .int .i64 c.T, .int .u64 c.k.l1, .int .u64 c.k.llc, .int .u64 c.k.mi, .int .u64 c.k.fa, .int .u64 c.k.st, .int .u64 c.k.di, .int .u64 c.sl, .int .u64 c.pd, .int .u64 c.ft, .slice a.ta c.tn a.tc, .slice a.pa c.pn a.pc] 28)).setCell ⟨w.heap.size, 1, none⟩ (.int .i64 3)) w.heap.size a us3 ∧ Cin ((w.alloc (.cells #[.int .i64 c.F, .int .i64 c.C, .int .i64 c.W, .int .i64 c.S, .int .i64 c.V, .int .i64 c.T, .int .u64 c.k.l1, .int .u64 c.k.llc, .int .u64 c.k.mi, .int .u64 c.k.fa, .int .u64 c.k.st, .int .u64 c.k.di, .int .u64 c.sl, .int .u64 c.pd, .int .u64 c.ft, .slice a.ta c.tn a.tc, .slice a.pa c.pn a.pc] 28)).setCell ⟨w.heap.size, 1, none⟩ (.int .i64 3)) a us3 ∧ Below w.heap.size w ((w.alloc (.cells #[.int .i64 c.F, .int .i64 c.C, .int .i64 c.W, .int .i64 c.S, .int .i64 c.V, .int .i64 c.T, .int .u64 c.k.l1, .int .u64 c.k.llc, .int .u64 c.k.mi, .int .u64 c.k.fa, .int .u64 c.k.st, .int .u64 c.k.di, .int .u64 c.sl, .int .u64 c.pd, .int .u64 c.ft, .slice a.ta c.tn a.tc, .slice a.pa c.pn a.pc] 28)).setCell ⟨w.heap.size, 1, none⟩ (.int .i64 3)) := by
  subst hc
  have q : Below w.heap.size w ((w.alloc (.cells #[.int .i64 us.F, .int .i64 us.C, .int .i64 us.W, .int .i64 us.S, .int .i64 us.V, .int .i64 us.T, .int .u64 us.k.l1, .int .u64 us.k.llc, .int .u64 us.k.mi, .int .u64 us.k.fa, .int .u64 us.k.st, .int .u64 us.k.di, .int .u64 us.sl, .int .u64 us.pd, .int .u64 us.ft, .slice a.ta us.tn a.tc, .slice a.pa us.pn a.pc] 28)).setCell ⟨w.heap.size, 1, none⟩ (.int .i64 3)) := (below_new w _).trans (below_setCell (Nat.le_refl _) (by simp) 1 _)
  refine ⟨?_, us3_cin (h.below q), q⟩
  exact Blk.sev (a := a) (c := us3) ((blk_new w (kL a us (.slice a.pa us.pn a.pc)) 28).set 1 (.int .i64 3))
/-! ### The four takes -/
def useK (j : Nat) : Nat := [2, 3, 3, 4].getD j 0
def frK (j : Nat) : Nat := [1, 5, 8, 9].getD j 0
def vs (j : Nat) : Us := if j = 0 then u1 else if j = 1 then v2 else if j = 2 then v3 else if j = 3 then v4 else v5
def Lj (j : Nat) : Nat → Nat → List Nat := if j = 0 then L1 else if j = 1 then L2 else if j = 2 then L3 else if j = 3 then L4 else L5
theorem four {j : Nat} (h : j < 4) : j = 0 ∨ j = 1 ∨ j = 2 ∨ j = 3 := by omega
theorem useK_in {j : Nat} (h : j < 4) : 2 ≤ useK j ∧ useK j ≤ 6 := by rcases four h with rfl | rfl | rfl | rfl <;> decide
theorem quotaK {j : Nat} (h : j < 4) : cU (vs j) (useK j) 4096 < PU.q (useK j) := by
  rcases four h with rfl | rfl | rfl | rfl
  · show cU u1 2 4096 < _
    rw [u1_c 2 (by omega)]; decide
  · show cU v2 3 4096 < _
    rw [v2_c, u1_c 3 (by omega)]; decide
  · show cU v3 3 4096 < _
    rw [v3_c3]; decide
  · show cU v4 4 4096 < _
    rw [v4_c4]; decide
theorem tkK {j g : Nat} {us' : Us} (h : j < 4) (hv : Lv PU (vs j) (Lj j)) (hT : Tkn PU (vs j) (useK j) g us') : g = frK j ∧ us' = vs (j + 1) ∧ Lv PU (vs (j + 1)) (Lj (j + 1)) := by
  rcases four h with rfl | rfl | rfl | rfl
  · obtain ⟨h1, h2, h3⟩ := u2_of hT
    subst h2
    exact ⟨h1, rfl, h3⟩
  · obtain ⟨h1, h2, h3⟩ := u3_of hv hT
    subst h2
    exact ⟨h1, rfl, h3⟩
  · obtain ⟨h1, h2, h3⟩ := u4_of hv hT
    subst h2
    exact ⟨h1, rfl, h3⟩
  · obtain ⟨h1, h2, h3⟩ := u5_of hv hT
    subst h2
    exact ⟨h1, rfl, h3⟩
/-- The pool, what was told of it, the literal of the uses. -/
structure Kq (w wr : World) (p gU bs : Nat) (F : Nat → Prop) (us : Us) (v : Value) (M : List Int) : Prop where
  be : Below w.heap.size w wr
  po : Po wr F p PU us
  fo : ∀ x, F x → w.heap.size ≤ x
  is : Is wr bs v M
  lo : w.heap.size ≤ bs
  bw : bs ≤ wr.heap.size
  no : ∀ k, v.ownBlock = some k → ¬ F k
  li : B.Blk wr gU 5 [.int .u8 2, .int .u8 3, .int .u8 3, .int .u8 4]
  ul : gU < bs
  uf : ¬ F gU
theorem Kq.take {w wr w' : World} {p gU bs : Nat} {F F' : Nat → Prop} {us us' : Us} {v : Value} {M : List Int} (h : Kq w wr p gU bs F us v M) (k : B.Kp F F' wr w') (hp : Po w' F' p PU us') : Kq w w' p gU bs F' us' v M := by
  have hbe := h.be.size
  refine ⟨h.be.trans (k.below _ h.be.size h.fo), hp, fun x hx => ?_, h.is.of_eq (fun g hg => k.block g (h.is.lt g hg).2 (h.no g hg)), h.lo, Nat.le_trans h.bw k.size, fun x hx z => ?_, h.li.of_eq (k.block _ h.li.lt h.uf), h.ul, fun z => ?_⟩
  · rcases k.new x hx with z | z
    · exact h.fo x z
    · omega
  · rcases k.new x z with q | q
    · exact h.no x hx q
    · have := (h.is.lt x hx).2; omega
  · rcases k.new _ z with q | q
    · exact h.uf q
    · have := h.li.lt; omega
theorem Kq.more {w wr w' : World} {p gU bs : Nat} {F : Nat → Prop} {us : Us} {v : Value} {M : List Int} (h : Kq w wr p gU bs F us v M) {x : Int} {g k : Nat} (hg : wr.grownBy w' v.ownBlock) (hi : Is w' bs (.slice (some ⟨g, 0, none⟩) (M.length + 1) k) (M ++ [x])) (hv : v.ownBlock = some g ∨ wr.heap.size ≤ g) : Kq w w' p gU bs F us (.slice (some ⟨g, 0, none⟩) (M.length + 1) k) (M ++ [x]) := by
  have hrow : ∀ y, v.ownBlock = some y → bs ≤ y := fun y hy => (h.is.lt y hy).1
  have hbe := h.be.size
  have hlo := h.lo
  have kk : B.Kp (fun y => v.ownBlock = some y) (fun y => v.ownBlock = some y) wr w' := ⟨hg.os, hg.tape, hg.output, hg.size, fun y hy hn => hg.block y hy (fun e => hn e.symm), fun y hy => Or.inl hy⟩
  refine ⟨h.be.trans (kk.below _ h.be.size (fun y hy => by have := hrow y hy; omega)), h.po.kept kk (fun y hy z => h.no y z hy), h.fo, hi, h.lo, Nat.le_trans h.bw hg.size, fun y hy z => ?_, h.li.of_eq (kk.block _ h.li.lt (fun e => by have := hrow _ e; have := h.ul; omega)), h.ul, h.uf⟩
  obtain rfl : g = y := by simpa [Value.ownBlock] using hy
  rcases hv with q | q
  · exact h.no _ q z
  · have := h.po.lt g z
    omega
theorem is_snoc' {w : World} {base g k : Nat} {l : List Int} {x : Int} (h : w.ownsRow base 3 1 (.slice (some ⟨g, 0, none⟩) (l.length + 1) k) (l.length + 1) (B.tv l ++ [.int .i64 x])) : Is w base (.slice (some ⟨g, 0, none⟩) (l.length + 1) k) (l ++ [x]) := is_snoc h
def toldL : List Int := [1, 5, 8, 9]
theorem told_succ {j : Nat} (h : j < 4) : toldL.take j ++ [(frK j : Int)] = toldL.take (j + 1) := by rcases four h with rfl | rfl | rfl | rfl <;> rfl
theorem liK {w : World} {gU j : Nat} (h : B.Blk w gU 5 [.int .u8 2, .int .u8 3, .int .u8 3, .int .u8 4]) (hj : j < 4) : w.cell? ⟨gU, j, none⟩ = some (.int .u8 (useK j : Nat)) := by
  rw [h.cell]
  rcases four hj with rfl | rfl | rfl | rfl <;> rfl
theorem enO5 : enO v5 [0, 1, 4, 5, 8, 9] = [.int .i64 0, .int .u8 1, .int .i64 1, .int .u8 2, .int .i64 4, .int .u8 1, .int .i64 5, .int .u8 3, .int .i64 8, .int .u8 3, .int .i64 9, .int .u8 4] := by rfl
theorem v5_0 : v5 0 = some 1 := by decide
theorem v5_1 : v5 1 = some 2 := by decide
theorem v5_2 : v5 2 = none := by decide
theorem v5_12 : v5 12 = none := by decide
theorem v6_1 : v6 1 = none := by decide
theorem v5_4096 : v5 4096 = none := by decide
end Go.Proofs.YtifchflbhdnfaaaGreat.P
