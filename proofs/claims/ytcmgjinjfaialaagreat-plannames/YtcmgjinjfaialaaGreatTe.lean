/- What PlanTells asks of both sides, under letters; and the arrays that it fills; no condition. -/
import Derived.Test.YtcmgjinjfaialaaGreatPc
namespace Go.Proofs.YtcmgjinjfaialaaGreat
open Go.ChangeShapes Go.WideShapes Go.ChangeAt Go.RowKit
set_option linter.unusedVariables false

/-- Both sides answer one and the same. -/
structure Tel (a : Ad) (c : Cf) (p : Int) (s0 s1 s2 s3 se tv te lv le bv be zv ze : Int) : Prop where
  sh : ∀ w b, Cin w b c → Calls Tryz.prog 24 #[.agg #[.int .i64 c.F, .int .i64 c.C, .int .i64 c.W, .int .i64 c.S, .int .i64 c.V, .int .i64 c.T, .int .u64 c.k.l1, .int .u64 c.k.llc, .int .u64 c.k.mi, .int .u64 c.k.fa, .int .u64 c.k.st, .int .u64 c.k.di, .int .u64 c.sl, .int .u64 c.pd, .int .u64 c.ft, .slice b.ta c.tn b.tc, .slice b.pa c.pn b.pc], .int .i64 p] w (One (.tuple #[.agg #[.int .i64 s0, .int .i64 s1, .int .i64 s2, .int .i64 s3], .int .i64 se]) w)
  rsh : ∀ w, Cin w a c → Calls Tryz.prog 25 #[.agg #[.int .i64 c.F, .int .i64 c.C, .int .i64 c.W, .int .i64 c.S, .int .i64 c.V, .int .i64 c.T, .int .u64 c.k.l1, .int .u64 c.k.llc, .int .u64 c.k.mi, .int .u64 c.k.fa, .int .u64 c.k.st, .int .u64 c.k.di, .int .u64 c.sl, .int .u64 c.pd, .int .u64 c.ft, .slice a.ta c.tn a.tc, .slice a.pa c.pn a.pc], .int .i64 p] w (One (.tuple #[.agg #[.int .i64 s0, .int .i64 s1, .int .i64 s2, .int .i64 s3], .int .i64 se]) w)
  tt : ∀ w b, Cin w b c → Calls Tryz.prog 26 #[.agg #[.int .i64 c.F, .int .i64 c.C, .int .i64 c.W, .int .i64 c.S, .int .i64 c.V, .int .i64 c.T, .int .u64 c.k.l1, .int .u64 c.k.llc, .int .u64 c.k.mi, .int .u64 c.k.fa, .int .u64 c.k.st, .int .u64 c.k.di, .int .u64 c.sl, .int .u64 c.pd, .int .u64 c.ft, .slice b.ta c.tn b.tc, .slice b.pa c.pn b.pc], .int .i64 p] w (Ti tv te w)
  rtt : ∀ w, Cin w a c → Calls Tryz.prog 30 #[.agg #[.int .i64 c.F, .int .i64 c.C, .int .i64 c.W, .int .i64 c.S, .int .i64 c.V, .int .i64 c.T, .int .u64 c.k.l1, .int .u64 c.k.llc, .int .u64 c.k.mi, .int .u64 c.k.fa, .int .u64 c.k.st, .int .u64 c.k.di, .int .u64 c.sl, .int .u64 c.pd, .int .u64 c.ft, .slice a.ta c.tn a.tc, .slice a.pa c.pn a.pc], .int .i64 p] w (Ti tv te w)
  li : ∀ w b, Cin w b c → Calls Tryz.prog 27 #[.agg #[.int .i64 c.F, .int .i64 c.C, .int .i64 c.W, .int .i64 c.S, .int .i64 c.V, .int .i64 c.T, .int .u64 c.k.l1, .int .u64 c.k.llc, .int .u64 c.k.mi, .int .u64 c.k.fa, .int .u64 c.k.st, .int .u64 c.k.di, .int .u64 c.sl, .int .u64 c.pd, .int .u64 c.ft, .slice b.ta c.tn b.tc, .slice b.pa c.pn b.pc], .int .i64 p] w (Ti lv le w)
  rli : ∀ w, Cin w a c → Calls Tryz.prog 31 #[.agg #[.int .i64 c.F, .int .i64 c.C, .int .i64 c.W, .int .i64 c.S, .int .i64 c.V, .int .i64 c.T, .int .u64 c.k.l1, .int .u64 c.k.llc, .int .u64 c.k.mi, .int .u64 c.k.fa, .int .u64 c.k.st, .int .u64 c.k.di, .int .u64 c.sl, .int .u64 c.pd, .int .u64 c.ft, .slice a.ta c.tn a.tc, .slice a.pa c.pn a.pc], .int .i64 p] w (Ti lv le w)
  ba : ∀ w b, Cin w b c → Calls Tryz.prog 28 #[.agg #[.int .i64 c.F, .int .i64 c.C, .int .i64 c.W, .int .i64 c.S, .int .i64 c.V, .int .i64 c.T, .int .u64 c.k.l1, .int .u64 c.k.llc, .int .u64 c.k.mi, .int .u64 c.k.fa, .int .u64 c.k.st, .int .u64 c.k.di, .int .u64 c.sl, .int .u64 c.pd, .int .u64 c.ft, .slice b.ta c.tn b.tc, .slice b.pa c.pn b.pc], .int .i64 p] w (Ti bv be w)
  rba : ∀ w, Cin w a c → Calls Tryz.prog 32 #[.agg #[.int .i64 c.F, .int .i64 c.C, .int .i64 c.W, .int .i64 c.S, .int .i64 c.V, .int .i64 c.T, .int .u64 c.k.l1, .int .u64 c.k.llc, .int .u64 c.k.mi, .int .u64 c.k.fa, .int .u64 c.k.st, .int .u64 c.k.di, .int .u64 c.sl, .int .u64 c.pd, .int .u64 c.ft, .slice a.ta c.tn a.tc, .slice a.pa c.pn a.pc], .int .i64 p] w (Ti bv be w)
  sl : ∀ w b, Cin w b c → Calls Tryz.prog 29 #[.agg #[.int .i64 c.F, .int .i64 c.C, .int .i64 c.W, .int .i64 c.S, .int .i64 c.V, .int .i64 c.T, .int .u64 c.k.l1, .int .u64 c.k.llc, .int .u64 c.k.mi, .int .u64 c.k.fa, .int .u64 c.k.st, .int .u64 c.k.di, .int .u64 c.sl, .int .u64 c.pd, .int .u64 c.ft, .slice b.ta c.tn b.tc, .slice b.pa c.pn b.pc]] w (Ti zv ze w)
  rsl : ∀ w, Cin w a c → Calls Tryz.prog 33 #[.agg #[.int .i64 c.F, .int .i64 c.C, .int .i64 c.W, .int .i64 c.S, .int .i64 c.V, .int .i64 c.T, .int .u64 c.k.l1, .int .u64 c.k.llc, .int .u64 c.k.mi, .int .u64 c.k.fa, .int .u64 c.k.st, .int .u64 c.k.di, .int .u64 c.sl, .int .u64 c.pd, .int .u64 c.ft, .slice a.ta c.tn a.tc, .slice a.pa c.pn a.pc]] w (Ti zv ze w)
theorem tells (a : Ad) (c : Cf) (p : Int) : ∃ s0 s1 s2 s3 se tv te lv le bv be zv ze, Tel a c p s0 s1 s2 s3 se tv te lv le bv be zv ze := by
  have hz : ∃ zv ze, (∀ w b, Cin w b c → Calls Tryz.prog 29 #[.agg #[.int .i64 c.F, .int .i64 c.C, .int .i64 c.W, .int .i64 c.S, .int .i64 c.V, .int .i64 c.T, .int .u64 c.k.l1, .int .u64 c.k.llc, .int .u64 c.k.mi, .int .u64 c.k.fa, .int .u64 c.k.st, .int .u64 c.k.di, .int .u64 c.sl, .int .u64 c.pd, .int .u64 c.ft, .slice b.ta c.tn b.tc, .slice b.pa c.pn b.pc]] w (Ti zv ze w)) ∧ (∀ w, Cin w a c → Calls Tryz.prog 33 #[.agg #[.int .i64 c.F, .int .i64 c.C, .int .i64 c.W, .int .i64 c.S, .int .i64 c.V, .int .i64 c.T, .int .u64 c.k.l1, .int .u64 c.k.llc, .int .u64 c.k.mi, .int .u64 c.k.fa, .int .u64 c.k.st, .int .u64 c.k.di, .int .u64 c.sl, .int .u64 c.pd, .int .u64 c.ft, .slice a.ta c.tn a.tc, .slice a.pa c.pn a.pc]] w (Ti zv ze w)) := by
    cases hm : may c
    · exact ⟨_, _, fun w b h => Slots_no h hm, fun w h => rSlots_no h hm⟩
    · exact ⟨_, _, fun w b h => Slots_ok h hm, fun w h => rSlots_ok h hm⟩
  obtain ⟨zv, ze, h1, h2⟩ := hz
  by_cases hf : fe c p = 0
  · obtain ⟨hm, q, rfl, hq⟩ := fe_zero hf
    exact ⟨_, _, _, _, _, _, _, _, _, _, _, zv, ze, fun w b h => Shape_ok h q hm hq, fun w h => rShape_ok h q hm hq, fun w b h => Total_ok h q hm hq, fun w h => rTotal_ok h q hm hq, fun w b h => Limit_ok h q hm hq, fun w h => rLimit_ok h q hm hq, fun w b h => Base_ok h q hm hq, fun w h => rBase_ok h q hm hq, h1, h2⟩
  · exact ⟨_, _, _, _, _, _, _, _, _, _, _, zv, ze, fun w b h => Shape_no h p hf, fun w h => rShape_no h p hf, fun w b h => Total_no h p hf, fun w h => rTotal_no h p hf, fun w b h => Limit_no h p hf, fun w h => rLimit_no h p hf, fun w b h => Base_no h p hf, fun w h => rBase_no h p hf, h1, h2⟩
theorem neS (x y z t : Int) (W : World) : (binOp .neq 53 (.agg #[.int .i64 x, .int .i64 y, .int .i64 z, .int .i64 t]) (.agg #[.int .i64 x, .int .i64 y, .int .i64 z, .int .i64 t])).run Tryz.prog W = .ok (.bool false) W := by
  simp only [run_neq_struct]
  rw [run_equalIn_agg W 9999 53 _ _ (by kernel_rfl) Tryz.stoodInHeld53]
  simp [go_sem, Program.fieldsOf, Tryz.underlying53]
theorem eqA (x y z t : Int) (W : World) : (binOp .eql 56 (.agg #[.int .i64 x, .int .i64 y, .int .i64 z, .int .i64 t]) (.agg #[.int .i64 x, .int .i64 y, .int .i64 z, .int .i64 t])).run Tryz.prog W = .ok (.bool true) W := by
  obtain ⟨i, hi⟩ : ∃ i, Tryz.prog.info? 3 = some i := Option.isSome_iff_exists.1 (by kernel_rfl)
  have hc : Tryz.prog.cellsOf 3 = 1 := by kernel_rfl
  rw [run_eql_struct, show (10000 : Nat) = 9999 + 1 from rfl, run_equalIn_array W 9999 _ _ (Tryz.underlying56) hi, hc]
  simp [Op.eqItems, List.range, List.range.loop, go_sem, part, Tryz.underlying3]
theorem eqE (x y z t : Int) (W : World) : (binOp .eql 57 (.agg #[.int .i64 x, .int .i64 y, .int .i64 z, .int .i64 t]) (.agg #[.int .i64 x, .int .i64 y, .int .i64 z, .int .i64 t])).run Tryz.prog W = .ok (.bool true) W := by
  obtain ⟨i, hi⟩ : ∃ i, Tryz.prog.info? 32 = some i := Option.isSome_iff_exists.1 (by kernel_rfl)
  have hc : Tryz.prog.cellsOf 32 = 1 := by kernel_rfl
  rw [run_eql_struct, show (10000 : Nat) = 9999 + 1 from rfl, run_equalIn_array W 9999 _ _ (Tryz.underlying57) hi, hc]
  simp [Op.eqItems, List.range, List.range.loop, go_sem, part, Tryz.underlying32]
/-- The four arrays. -/
structure Arr (wb w : World) (ga gb gc gd : Nat) (A B C D : List Value) : Prop where
  be : Below wb.heap.size wb w
  lo : wb.heap.size ≤ ga
  ab : ga < gb
  bc : gb < gc
  cd : gc < gd
  a : Blk w ga 56 A
  b : Blk w gb 56 B
  c : Blk w gc 57 C
  d : Blk w gd 57 D
theorem Arr.below {wb w w' : World} {ga gb gc gd : Nat} {A B C D : List Value} (h : Arr wb w ga gb gc gd A B C D) (k : Below w.heap.size w w') : Arr wb w' ga gb gc gd A B C D :=
  ⟨h.be.trans (k.mono h.be.size), h.lo, h.ab, h.bc, h.cd, h.a.below k, h.b.below k, h.c.below k, h.d.below k⟩
theorem Arr.one {wb w : World} {ga gb gc gd : Nat} {A B C D : List Value} (h : Arr wb w ga gb gc gd A B C D) (i : Nat) (x y : Value) : Arr wb ((w.setCell ⟨ga, i, none⟩ x).setCell ⟨gc, i, none⟩ y) ga gb gc gd (A.set i x) B (C.set i y) D := by
  have := h.lo; have := h.ab; have := h.bc; have := h.cd
  have hs := (grown_setCell' w ga i x).size
  refine ⟨(h.be.trans (below_setCell h.lo h.be.size i x)).trans (below_setCell (by omega) (Nat.le_trans h.be.size hs) i y), h.lo, h.ab, h.bc, h.cd, ?_, ?_, ?_, ?_⟩
  · exact setCell_blk_other (h.a.set i x) (by omega) i y
  · exact setCell_blk_other (setCell_blk_other h.b (by omega) i x) (by omega) i y
  · exact (setCell_blk_other h.c (by omega) i x).set i y
  · exact setCell_blk_other (setCell_blk_other h.d (by omega) i x) (by omega) i y
theorem Arr.two {wb w : World} {ga gb gc gd : Nat} {A B C D : List Value} (h : Arr wb w ga gb gc gd A B C D) (i : Nat) (x y : Value) : Arr wb ((w.setCell ⟨gb, i, none⟩ x).setCell ⟨gd, i, none⟩ y) ga gb gc gd A (B.set i x) C (D.set i y) := by
  have := h.lo; have := h.ab; have := h.bc; have := h.cd
  have hs := (grown_setCell' w gb i x).size
  refine ⟨(h.be.trans (below_setCell (by omega) h.be.size i x)).trans (below_setCell (by omega) (Nat.le_trans h.be.size hs) i y), h.lo, h.ab, h.bc, h.cd, ?_, ?_, ?_, ?_⟩
  · exact setCell_blk_other (setCell_blk_other h.a (by omega) i x) (by omega) i y
  · exact setCell_blk_other (h.b.set i x) (by omega) i y
  · exact setCell_blk_other (setCell_blk_other h.c (by omega) i x) (by omega) i y
  · exact (setCell_blk_other h.d (by omega) i x).set i y
end Go.Proofs.YtcmgjinjfaialaaGreat
