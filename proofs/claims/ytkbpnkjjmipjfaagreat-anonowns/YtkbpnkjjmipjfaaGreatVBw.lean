/- The array of the kinds' bounds as package cost makes it, for costs and a shape that may be. -/
import Derived.Test.YtkbpnkjjmipjfaaGreatVFa
import Derived.Deep.Cut
namespace Go.Proofs.YtkbpnkjjmipjfaaGreat
open Go.ChangeShapes Go.WideShapes Go.ChangeAt Go.RowKit
set_option linter.unusedVariables false

theorem Tryz.info309 : (Tryz.prog.info? 309).map (·.size) = some 11 := by kernel_rfl
theorem wpList_load_at {P : Program} {w : World} {ops : Array Oper} {rest : List Oper} {o : Oper} {a : Act} {Q : Exit → Act → World → Prop} (hgd : o.guard = none) (t : TypeId) (x : Operand)
    (ho : o.op = .load t x) (u v : Value) (hx : a.eval x = u) (hrun : (Instr.loadAt t u).run P w = .ok v w) (h : wpList P ops Q rest (a.put o.dst v) w) : wpList P ops Q (o :: rest) a w := by
  refine wpList_plain hgd fun K hK => ?_
  unfold Oper.wp
  simp [execOp, ho, hx, hrun, Result.andThen]
  exact hK _ _ h
theorem wpList_store_at {P : Program} {w w' : World} {ops : Array Oper} {rest : List Oper} {o : Oper} {a : Act} {Q : Exit → Act → World → Prop} (hgd : o.guard = none) (t : TypeId) (x y : Operand)
    (ho : o.op = .store t x y) (u v : Value) (hx : a.eval x = u) (hy : a.eval y = v) (hrun : (Instr.storeAt t u v).run P w = .ok () w') (h : wpList P ops Q rest (a.put o.dst undef) w') : wpList P ops Q (o :: rest) a w := by
  refine wpList_plain hgd fun K hK => ?_
  unfold Oper.wp
  simp [execOp, ho, hx, hy, hrun, Result.andThen]
  exact hK _ _ h
theorem load_row {w : World} {g : Nat} {L : List Value} (h : Blk w g 309 L) (hl : L.length = 11) : (Instr.loadAt 309 (.pointer (some ⟨g, 0, none⟩))).run Tryz.prog w = .ok (.agg L.toArray) w := by
  simp only [Instr.loadAt, Instr.sureAddr, Sem.run_bind, Sem.run_pure, Result.andThen]
  exact run_loadVar_row _ _ 309 309 L.toArray (0, 0) _ h Tryz.underlying309 rfl (by rw [Tryz.info309, List.size_toArray, hl])
theorem res_row {w : World} {g : Nat} {L : List Value} {tmps : Array Value} (h : Blk w g 309 L) (hl : L.length = 11) (hp : tmps.getD 4 undef = .pointer (some ⟨g, 0, none⟩)) : (results Tryz.f251 tmps).run Tryz.prog w = .ok (.agg L.toArray) w :=
  results_cell_row Tryz.results251 tmps w g 309 L.toArray (0, 0) _ hp h Tryz.underlying309 rfl (by rw [Tryz.info309, List.size_toArray, hl])
theorem store_row {w : World} {g : Nat} {L M : List Value} (h : Blk w g 309 L) (hl : L.length = 11) (hm : M.length = 11) (h1 : M.all (·.oneCell') = true) :
    (Instr.storeAt 309 (.pointer (some ⟨g, 0, none⟩)) (.agg M.toArray)).run Tryz.prog w = .ok () (w.setRow g M.toArray) := by
  simp only [Instr.storeAt, Instr.sureAddr, Sem.run_bind, Sem.run_pure, Result.andThen]
  exact run_storeVar_row w g 309 309 L.toArray M.toArray h (by rw [Tryz.info309, List.size_toArray, hm]) (by simp [hl, hm]) (by rw [← h1]; simp)
def Bnd (c : Co) (s : Sh) (w : World) (x : Ending) (w' : World) : Prop :=
  ∃ gc gl gn ge gf gp go, x = .returned (.agg ([.func (.func 255) #[] #[.pointer (some ⟨ge, 0, none⟩)], .func (.func 256) #[] #[.pointer (some ⟨ge, 0, none⟩), .pointer (some ⟨gc, 0, none⟩)], .func (.func 257) #[] #[.pointer (some ⟨ge, 0, none⟩), .pointer (some ⟨gl, 0, none⟩), .pointer (some ⟨gp, 0, none⟩), .pointer (some ⟨gc, 0, none⟩)], .func (.func 258) #[] #[.pointer (some ⟨ge, 0, none⟩), .pointer (some ⟨gc, 0, none⟩), .pointer (some ⟨gn, 0, none⟩), .pointer (some ⟨gl, 0, none⟩), .pointer (some ⟨gp, 0, none⟩)], .func (.func 259) #[] #[.pointer (some ⟨ge, 0, none⟩), .pointer (some ⟨gc, 0, none⟩)], .func (.func 260) #[] #[.pointer (some ⟨ge, 0, none⟩), .pointer (some ⟨gp, 0, none⟩)], .func (.func 261) #[] #[.pointer (some ⟨ge, 0, none⟩), .pointer (some ⟨gc, 0, none⟩)], .func (.func 262) #[] #[.pointer (some ⟨go, 0, none⟩)], .func (.func 263) #[] #[.pointer (some ⟨ge, 0, none⟩), .pointer (some ⟨gc, 0, none⟩), .pointer (some ⟨gf, 0, none⟩)], .func (.func 264) #[] #[.pointer (some ⟨ge, 0, none⟩), .pointer (some ⟨gc, 0, none⟩), .pointer (some ⟨gf, 0, none⟩)], .func (.func 265) #[] #[.pointer (some ⟨ge, 0, none⟩)]]).toArray) ∧ Bn w' gc gl gn ge gf gp go c s ∧ Below w.heap.size w w'
abbrev fnL (gc gl gn ge gf gp go : Nat) : List Value := [.func (.func 255) #[] #[.pointer (some ⟨ge, 0, none⟩)], .func (.func 256) #[] #[.pointer (some ⟨ge, 0, none⟩), .pointer (some ⟨gc, 0, none⟩)], .func (.func 257) #[] #[.pointer (some ⟨ge, 0, none⟩), .pointer (some ⟨gl, 0, none⟩), .pointer (some ⟨gp, 0, none⟩), .pointer (some ⟨gc, 0, none⟩)], .func (.func 258) #[] #[.pointer (some ⟨ge, 0, none⟩), .pointer (some ⟨gc, 0, none⟩), .pointer (some ⟨gn, 0, none⟩), .pointer (some ⟨gl, 0, none⟩), .pointer (some ⟨gp, 0, none⟩)], .func (.func 259) #[] #[.pointer (some ⟨ge, 0, none⟩), .pointer (some ⟨gc, 0, none⟩)], .func (.func 260) #[] #[.pointer (some ⟨ge, 0, none⟩), .pointer (some ⟨gp, 0, none⟩)], .func (.func 261) #[] #[.pointer (some ⟨ge, 0, none⟩), .pointer (some ⟨gc, 0, none⟩)], .func (.func 262) #[] #[.pointer (some ⟨go, 0, none⟩)], .func (.func 263) #[] #[.pointer (some ⟨ge, 0, none⟩), .pointer (some ⟨gc, 0, none⟩), .pointer (some ⟨gf, 0, none⟩)], .func (.func 264) #[] #[.pointer (some ⟨ge, 0, none⟩), .pointer (some ⟨gc, 0, none⟩), .pointer (some ⟨gf, 0, none⟩)], .func (.func 265) #[] #[.pointer (some ⟨ge, 0, none⟩)]]
set_option maxRecDepth 20000 in
set_option maxHeartbeats 4000000 in
theorem bounds_any (c : Co) (s : Sh) (h : c.Ok) (k : s.Ok) (w : World) : Calls Tryz.prog 251 #[.agg #[.int .u64 c.l1, .int .u64 c.llc, .int .u64 c.mi, .int .u64 c.fa, .int .u64 c.st, .int .u64 c.di], .agg #[.int .i64 s.im, .int .i64 s.us, .int .i64 s.li, .int .i64 s.no]] w (Bnd c s w) := by
  have p := pt_of h k
  obtain ⟨e0, e1, f0, f1, p0, p1, lp0, lp1, nm0, nm1, us0, us1⟩ := p
  obtain ⟨a1, a2, a3, a4, b1, b2, d1, d2, e1', e2⟩ := h
  obtain ⟨im, u1, u2, l1, l2, n1, n2⟩ := k
  unfold ent fin pag at *
  go_enter Tryz.func251, Tryz.ntmps251
  go_wp2_with fail
  go_region
  all_goals go_upto_region 6 with fail
  · have T : Hid (Tw w ((((((((((w.alloc (.cells #[.int .u64 c.l1, .int .u64 c.llc, .int .u64 c.mi, .int .u64 c.fa, .int .u64 c.st, .int .u64 c.di] 24)).alloc (.cells #[.int .i64 s.im, .int .i64 s.us, .int .i64 s.li, .int .i64 s.no] 230)).alloc (.cells #[.nilFunc, .nilFunc, .nilFunc, .nilFunc, .nilFunc, .nilFunc, .nilFunc, .nilFunc, .nilFunc, .nilFunc, .nilFunc] 309)).alloc (.cells #[.int .u64 s.li] 22)).alloc (.cells #[.int .u64 s.no] 22)).alloc (.cells #[.int .u64 (s.im * c.mi)] 22)).alloc (.cells #[.int .u64 ((2 * s.us + 1) * c.st + c.di)] 22)).alloc (.cells #[.int .u64 (c.st + 2 * c.mi)] 22)).alloc (.cells #[.nilFunc, .nilFunc, .nilFunc, .nilFunc, .nilFunc, .nilFunc, .nilFunc, .nilFunc, .nilFunc, .nilFunc, .nilFunc] 309)).drew) (w.heap.size + 1 + 1 + 1) (w.heap.size + 1 + 1 + 1 + 1) c s) := tow_a w c s
    generalize ((((((((((w.alloc (.cells #[.int .u64 c.l1, .int .u64 c.llc, .int .u64 c.mi, .int .u64 c.fa, .int .u64 c.st, .int .u64 c.di] 24)).alloc (.cells #[.int .i64 s.im, .int .i64 s.us, .int .i64 s.li, .int .i64 s.no] 230)).alloc (.cells #[.nilFunc, .nilFunc, .nilFunc, .nilFunc, .nilFunc, .nilFunc, .nilFunc, .nilFunc, .nilFunc, .nilFunc, .nilFunc] 309)).alloc (.cells #[.int .u64 s.li] 22)).alloc (.cells #[.int .u64 s.no] 22)).alloc (.cells #[.int .u64 (s.im * c.mi)] 22)).alloc (.cells #[.int .u64 ((2 * s.us + 1) * c.st + c.di)] 22)).alloc (.cells #[.int .u64 (c.st + 2 * c.mi)] 22)).alloc (.cells #[.nilFunc, .nilFunc, .nilFunc, .nilFunc, .nilFunc, .nilFunc, .nilFunc, .nilFunc, .nilFunc, .nilFunc, .nilFunc] 309)).drew) = W at *
    clear e0 e1 f0 f1 p0 p1 lp0 lp1 nm0 nm1 us0 us1 a1 a2 a3 a4 b1 b2 d1 d2 e1' e2 im u1 u2 l1 l2 n1 n2
    obtain ⟨gc, hgc⟩ : ∃ gc, w.heap.size = gc := ⟨_, rfl⟩
    obtain ⟨go, hgo⟩ : ∃ go, w.heap.size + 1 + 1 + 1 + 1 + 1 + 1 + 1 + 1 = go := ⟨_, rfl⟩
    obtain ⟨gp, hgp⟩ : ∃ gp, w.heap.size + 1 + 1 + 1 + 1 + 1 + 1 + 1 = gp := ⟨_, rfl⟩
    obtain ⟨gf, hgf⟩ : ∃ gf, w.heap.size + 1 + 1 + 1 + 1 + 1 + 1 = gf := ⟨_, rfl⟩
    obtain ⟨ge, hge⟩ : ∃ ge, w.heap.size + 1 + 1 + 1 + 1 + 1 = ge := ⟨_, rfl⟩
    obtain ⟨gn, hg4⟩ : ∃ g, w.heap.size + 1 + 1 + 1 + 1 = g := ⟨_, rfl⟩
    obtain ⟨gl, hg3⟩ : ∃ g, w.heap.size + 1 + 1 + 1 = g := ⟨_, rfl⟩
    obtain ⟨gr, hgr⟩ : ∃ gr, w.heap.size + 1 + 1 = gr := ⟨_, rfl⟩
    have D : Hid (w.heap.size ≤ gr ∧ w.heap.size ≤ go ∧ go ≠ gc ∧ go ≠ gl ∧ go ≠ gn ∧ go ≠ ge ∧ go ≠ gf ∧ go ≠ gp ∧ go ≠ gr ∧ gr ≠ gc ∧ gr ≠ gl ∧ gr ≠ gn ∧ gr ≠ ge ∧ gr ≠ gf ∧ gr ≠ gp) := by unfold Hid; omega
    obtain ⟨tb, tc, tr, tl, tn, te, tf, tp, to⟩ := T.out
    rw [hgo] at to
    rw [hgp] at tp
    rw [hgf] at tf
    rw [hge] at te
    rw [hg4] at tn
    rw [hg3] at tl
    rw [hgr] at tr
    rw [hgo, hgp, hgf, hge, hg4, hg3, hgr, hgc]
    rw [hgc] at tc
    clear T hgo hgp hgf hge hg4 hg3 hgr
    have HS1 : Hid _ := store_row (M := fnL gc gl gn ge gf gp go) to rfl rfl rfl
    have hl := to.row (M := fnL gc gl gn ge gf gp go)
    have HL : Hid _ := load_row hl rfl
    have HS2 : Hid _ := store_row (M := fnL gc gl gn ge gf gp go) (tr.other (b := go) (M := (fnL gc gl gn ge gf gp go).toArray) D.out.2.2.2.2.2.2.2.2.1) rfl rfl rfl
    have hr := (tr.other (b := go) (M := (fnL gc gl gn ge gf gp go).toArray) D.out.2.2.2.2.2.2.2.2.1).row (M := fnL gc gl gn ge gf gp go)
    have FIN : Hid (Bn ((W.setRow go (fnL gc gl gn ge gf gp go).toArray).setRow gr (fnL gc gl gn ge gf gp go).toArray) gc gl gn ge gf gp go c s ∧ Below w.heap.size w ((W.setRow go (fnL gc gl gn ge gf gp go).toArray).setRow gr (fnL gc gl gn ge gf gp go).toArray)) := by
      obtain ⟨d1, d2, x1, x2, x3, x4, x5, x6, x7, y1, y2, y3, y4, y5, y6⟩ := D.out
      have qc := (tc.other (M := (fnL gc gl gn ge gf gp go).toArray) x1).other (M := (fnL gc gl gn ge gf gp go).toArray) y1
      have ql := (tl.other (M := (fnL gc gl gn ge gf gp go).toArray) x2).other (M := (fnL gc gl gn ge gf gp go).toArray) y2
      have qn := (tn.other (M := (fnL gc gl gn ge gf gp go).toArray) x3).other (M := (fnL gc gl gn ge gf gp go).toArray) y3
      have qe := (te.other (M := (fnL gc gl gn ge gf gp go).toArray) x4).other (M := (fnL gc gl gn ge gf gp go).toArray) y4
      have qf := (tf.other (M := (fnL gc gl gn ge gf gp go).toArray) x5).other (M := (fnL gc gl gn ge gf gp go).toArray) y5
      have qp := (tp.other (M := (fnL gc gl gn ge gf gp go).toArray) x6).other (M := (fnL gc gl gn ge gf gp go).toArray) y6
      have qo := hl.other (M := (fnL gc gl gn ge gf gp go).toArray) (Ne.symm x7)
      exact ⟨⟨qc.six, ql.lt, ql.cell 0, qn.lt, qn.cell 0, qe.lt, qe.cell 0, qf.lt, qf.cell 0, qp.lt, qp.cell 0, qo.lt, qo.cell 4, qo.cell 5⟩, below_row (below_row tb d2) d1⟩
    clear tb tc tr tl tn te tf tp to hl D
    go_wp2_with (first | (refine wpList_load_at rfl 309 (.tmp 10) rfl _ _ rfl HL.out ?_) | (refine wpList_store_at rfl 309 (.tmp 10) (.tmp 51) rfl _ _ rfl rfl HS1.out ?_) | (refine wpList_store_at rfl 309 (.tmp 4) (.tmp 52) rfl _ _ rfl rfl HS2.out ?_))
    refine bodyPost_ret (v := .agg (fnL gc gl gn ge gf gp go).toArray) ?_ rfl ⟨gc, gl, gn, ge, gf, gp, go, rfl, FIN.out⟩
    exact res_row hr rfl rfl
  · have T : Hid (Tw w ((((((((((w.alloc (.cells #[.int .u64 c.l1, .int .u64 c.llc, .int .u64 c.mi, .int .u64 c.fa, .int .u64 c.st, .int .u64 c.di] 24)).alloc (.cells #[.int .i64 s.im, .int .i64 s.us, .int .i64 s.li, .int .i64 s.no] 230)).alloc (.cells #[.nilFunc, .nilFunc, .nilFunc, .nilFunc, .nilFunc, .nilFunc, .nilFunc, .nilFunc, .nilFunc, .nilFunc, .nilFunc] 309)).alloc (.cells #[.int .u64 s.no] 22)).alloc (.cells #[.int .u64 s.li] 22)).alloc (.cells #[.int .u64 (s.im * c.mi)] 22)).alloc (.cells #[.int .u64 ((2 * s.us + 1) * c.st + c.di)] 22)).alloc (.cells #[.int .u64 (c.st + 2 * c.mi)] 22)).alloc (.cells #[.nilFunc, .nilFunc, .nilFunc, .nilFunc, .nilFunc, .nilFunc, .nilFunc, .nilFunc, .nilFunc, .nilFunc, .nilFunc] 309)).drew) (w.heap.size + 1 + 1 + 1 + 1) (w.heap.size + 1 + 1 + 1) c s) := tow_b w c s
    generalize ((((((((((w.alloc (.cells #[.int .u64 c.l1, .int .u64 c.llc, .int .u64 c.mi, .int .u64 c.fa, .int .u64 c.st, .int .u64 c.di] 24)).alloc (.cells #[.int .i64 s.im, .int .i64 s.us, .int .i64 s.li, .int .i64 s.no] 230)).alloc (.cells #[.nilFunc, .nilFunc, .nilFunc, .nilFunc, .nilFunc, .nilFunc, .nilFunc, .nilFunc, .nilFunc, .nilFunc, .nilFunc] 309)).alloc (.cells #[.int .u64 s.no] 22)).alloc (.cells #[.int .u64 s.li] 22)).alloc (.cells #[.int .u64 (s.im * c.mi)] 22)).alloc (.cells #[.int .u64 ((2 * s.us + 1) * c.st + c.di)] 22)).alloc (.cells #[.int .u64 (c.st + 2 * c.mi)] 22)).alloc (.cells #[.nilFunc, .nilFunc, .nilFunc, .nilFunc, .nilFunc, .nilFunc, .nilFunc, .nilFunc, .nilFunc, .nilFunc, .nilFunc] 309)).drew) = W at *
    clear e0 e1 f0 f1 p0 p1 lp0 lp1 nm0 nm1 us0 us1 a1 a2 a3 a4 b1 b2 d1 d2 e1' e2 im u1 u2 l1 l2 n1 n2
    obtain ⟨gc, hgc⟩ : ∃ gc, w.heap.size = gc := ⟨_, rfl⟩
    obtain ⟨go, hgo⟩ : ∃ go, w.heap.size + 1 + 1 + 1 + 1 + 1 + 1 + 1 + 1 = go := ⟨_, rfl⟩
    obtain ⟨gp, hgp⟩ : ∃ gp, w.heap.size + 1 + 1 + 1 + 1 + 1 + 1 + 1 = gp := ⟨_, rfl⟩
    obtain ⟨gf, hgf⟩ : ∃ gf, w.heap.size + 1 + 1 + 1 + 1 + 1 + 1 = gf := ⟨_, rfl⟩
    obtain ⟨ge, hge⟩ : ∃ ge, w.heap.size + 1 + 1 + 1 + 1 + 1 = ge := ⟨_, rfl⟩
    obtain ⟨gl, hg4⟩ : ∃ g, w.heap.size + 1 + 1 + 1 + 1 = g := ⟨_, rfl⟩
    obtain ⟨gn, hg3⟩ : ∃ g, w.heap.size + 1 + 1 + 1 = g := ⟨_, rfl⟩
    obtain ⟨gr, hgr⟩ : ∃ gr, w.heap.size + 1 + 1 = gr := ⟨_, rfl⟩
    have D : Hid (w.heap.size ≤ gr ∧ w.heap.size ≤ go ∧ go ≠ gc ∧ go ≠ gl ∧ go ≠ gn ∧ go ≠ ge ∧ go ≠ gf ∧ go ≠ gp ∧ go ≠ gr ∧ gr ≠ gc ∧ gr ≠ gl ∧ gr ≠ gn ∧ gr ≠ ge ∧ gr ≠ gf ∧ gr ≠ gp) := by unfold Hid; omega
    obtain ⟨tb, tc, tr, tl, tn, te, tf, tp, to⟩ := T.out
    rw [hgo] at to
    rw [hgp] at tp
    rw [hgf] at tf
    rw [hge] at te
    rw [hg4] at tl
    rw [hg3] at tn
    rw [hgr] at tr
    rw [hgo, hgp, hgf, hge, hg4, hg3, hgr, hgc]
    rw [hgc] at tc
    clear T hgo hgp hgf hge hg4 hg3 hgr
    have HS1 : Hid _ := store_row (M := fnL gc gl gn ge gf gp go) to rfl rfl rfl
    have hl := to.row (M := fnL gc gl gn ge gf gp go)
    have HL : Hid _ := load_row hl rfl
    have HS2 : Hid _ := store_row (M := fnL gc gl gn ge gf gp go) (tr.other (b := go) (M := (fnL gc gl gn ge gf gp go).toArray) D.out.2.2.2.2.2.2.2.2.1) rfl rfl rfl
    have hr := (tr.other (b := go) (M := (fnL gc gl gn ge gf gp go).toArray) D.out.2.2.2.2.2.2.2.2.1).row (M := fnL gc gl gn ge gf gp go)
    have FIN : Hid (Bn ((W.setRow go (fnL gc gl gn ge gf gp go).toArray).setRow gr (fnL gc gl gn ge gf gp go).toArray) gc gl gn ge gf gp go c s ∧ Below w.heap.size w ((W.setRow go (fnL gc gl gn ge gf gp go).toArray).setRow gr (fnL gc gl gn ge gf gp go).toArray)) := by
      obtain ⟨d1, d2, x1, x2, x3, x4, x5, x6, x7, y1, y2, y3, y4, y5, y6⟩ := D.out
      have qc := (tc.other (M := (fnL gc gl gn ge gf gp go).toArray) x1).other (M := (fnL gc gl gn ge gf gp go).toArray) y1
      have ql := (tl.other (M := (fnL gc gl gn ge gf gp go).toArray) x2).other (M := (fnL gc gl gn ge gf gp go).toArray) y2
      have qn := (tn.other (M := (fnL gc gl gn ge gf gp go).toArray) x3).other (M := (fnL gc gl gn ge gf gp go).toArray) y3
      have qe := (te.other (M := (fnL gc gl gn ge gf gp go).toArray) x4).other (M := (fnL gc gl gn ge gf gp go).toArray) y4
      have qf := (tf.other (M := (fnL gc gl gn ge gf gp go).toArray) x5).other (M := (fnL gc gl gn ge gf gp go).toArray) y5
      have qp := (tp.other (M := (fnL gc gl gn ge gf gp go).toArray) x6).other (M := (fnL gc gl gn ge gf gp go).toArray) y6
      have qo := hl.other (M := (fnL gc gl gn ge gf gp go).toArray) (Ne.symm x7)
      exact ⟨⟨qc.six, ql.lt, ql.cell 0, qn.lt, qn.cell 0, qe.lt, qe.cell 0, qf.lt, qf.cell 0, qp.lt, qp.cell 0, qo.lt, qo.cell 4, qo.cell 5⟩, below_row (below_row tb d2) d1⟩
    clear tb tc tr tl tn te tf tp to hl D
    go_wp2_with (first | (refine wpList_load_at rfl 309 (.tmp 10) rfl _ _ rfl HL.out ?_) | (refine wpList_store_at rfl 309 (.tmp 10) (.tmp 51) rfl _ _ rfl rfl HS1.out ?_) | (refine wpList_store_at rfl 309 (.tmp 4) (.tmp 52) rfl _ _ rfl rfl HS2.out ?_))
    refine bodyPost_ret (v := .agg (fnL gc gl gn ge gf gp go).toArray) ?_ rfl ⟨gc, gl, gn, ge, gf, gp, go, rfl, FIN.out⟩
    exact res_row hr rfl rfl
end Go.Proofs.YtkbpnkjjmipjfaaGreat
