/- Laws of one store of a whole configuration, and of its load as a result; no condition. -/
import Derived.Test.YtifchflbhdnfaaaGreatVCo
import Derived.Laws.IdiomCopy
namespace Go.Proofs.YtifchflbhdnfaaaGreat
open Go.ChangeShapes Go.WideShapes Go.ChangeAt Go.RowKit
set_option linter.unusedVariables false

theorem Tryz.infoK : (Tryz.prog.info? 28).map (·.size) = some 17 := by kernel_rfl
def zC : Array Value := #[.int .i64 0, .int .i64 0, .int .i64 0, .int .i64 0, .int .i64 0, .int .i64 0, .int .u64 0, .int .u64 0, .int .u64 0, .int .u64 0, .int .u64 0, .int .u64 0, .int .u64 0, .int .u64 0, .int .u64 0, .slice none 0 0, .slice none 0 0]
theorem stK (w : World) (a : Ad) (c : Cf) : (Instr.storeAt 28 (.pointer (some ⟨w.heap.size, 0, none⟩)) (.agg #[.int .i64 c.F, .int .i64 c.C, .int .i64 c.W, .int .i64 c.S, .int .i64 c.V, .int .i64 c.T, .int .u64 c.k.l1, .int .u64 c.k.llc, .int .u64 c.k.mi, .int .u64 c.k.fa, .int .u64 c.k.st, .int .u64 c.k.di, .int .u64 c.sl, .int .u64 c.pd, .int .u64 c.ft, .slice a.ta c.tn a.tc, .slice a.pa c.pn a.pc])).run Tryz.prog (w.alloc (.cells #[.int .i64 0, .int .i64 0, .int .i64 0, .int .i64 0, .int .i64 0, .int .i64 0, .int .u64 0, .int .u64 0, .int .u64 0, .int .u64 0, .int .u64 0, .int .u64 0, .int .u64 0, .int .u64 0, .int .u64 0, .slice none 0 0, .slice none 0 0] 28)) = .ok () (w.alloc (.cells #[.int .i64 c.F, .int .i64 c.C, .int .i64 c.W, .int .i64 c.S, .int .i64 c.V, .int .i64 c.T, .int .u64 c.k.l1, .int .u64 c.k.llc, .int .u64 c.k.mi, .int .u64 c.k.fa, .int .u64 c.k.st, .int .u64 c.k.di, .int .u64 c.sl, .int .u64 c.pd, .int .u64 c.ft, .slice a.ta c.tn a.tc, .slice a.pa c.pn a.pc] 28)) :=
  run_storeAt_new w 28 zC _ Tryz.infoK rfl (by rw [← Array.all_toList]; rfl)
theorem stR {w : World} {g : Nat} {L M : List Value} (h : Blk w g 28 L) (hl : L.length = 17) (hm : M.length = 17) (h1 : M.all (·.oneCell') = true) :
    (Instr.storeAt 28 (.pointer (some ⟨g, 0, none⟩)) (.agg M.toArray)).run Tryz.prog w = .ok () (w.setRow g M.toArray) := by
  simp only [Instr.storeAt, Instr.sureAddr, Sem.run_bind, Sem.run_pure, Result.andThen]
  exact run_storeVar_row w g 28 28 L.toArray M.toArray h (by rw [Tryz.infoK, List.size_toArray, hm]) (by simp [hl, hm]) (by rw [← h1]; simp)
theorem Sev.lv {w : World} {g : Nat} {a : Ad} {c : Cf} (h : Sev w g a c) : (loadVar 28 ⟨g, 0, none⟩).run Tryz.prog w = .ok (.agg #[.int .i64 c.F, .int .i64 c.C, .int .i64 c.W, .int .i64 c.S, .int .i64 c.V, .int .i64 c.T, .int .u64 c.k.l1, .int .u64 c.k.llc, .int .u64 c.k.mi, .int .u64 c.k.fa, .int .u64 c.k.st, .int .u64 c.k.di, .int .u64 c.sl, .int .u64 c.pd, .int .u64 c.ft, .slice a.ta c.tn a.tc, .slice a.pa c.pn a.pc]) w := by
  have := h.ld
  simpa only [Instr.loadAt, Instr.sureAddr, Sem.run_bind, Sem.run_pure, Result.andThen] using this
/-- A configuration's cells. -/
def kL (a : Ad) (c : Cf) (v : Value) : List Value := [.int .i64 c.F, .int .i64 c.C, .int .i64 c.W, .int .i64 c.S, .int .i64 c.V, .int .i64 c.T, .int .u64 c.k.l1, .int .u64 c.k.llc, .int .u64 c.k.mi, .int .u64 c.k.fa, .int .u64 c.k.st, .int .u64 c.k.di, .int .u64 c.sl, .int .u64 c.pd, .int .u64 c.ft, .slice a.ta c.tn a.tc, v]
theorem Blk.sev {w : World} {g : Nat} {a : Ad} {c : Cf} (h : Blk w g 28 (kL a c (.slice a.pa c.pn a.pc))) : Sev w g a c :=
  ⟨h.lt, h.cell 0, h.cell 1, h.cell 2, h.cell 3, h.cell 4, h.cell 5, h.cell 6, h.cell 7, h.cell 8, h.cell 9, h.cell 10, h.cell 11, h.cell 12, h.cell 13, h.cell 14, h.cell 15, h.cell 16⟩
end Go.Proofs.YtifchflbhdnfaaaGreat
