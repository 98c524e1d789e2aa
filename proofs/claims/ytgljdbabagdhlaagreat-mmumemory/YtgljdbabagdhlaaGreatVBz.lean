/- The array of the kinds' bounds as package cost makes it, for costs and a shape that may be. -/
import Derived.Test.YtgljdbabagdhlaaGreatVFa
import Derived.Deep.Cut
import Derived.Deep.RegionHeld3
namespace Go.Proofs.YtgljdbabagdhlaaGreat
open Go.ChangeShapes Go.WideShapes Go.ChangeAt Go.RowKit
set_option linter.unusedVariables false
theorem Tryz.info277:(Tryz.prog.info? 277).map (·.size) = some 11:=by kernel_rfl
theorem wpList_load_at {P : Program} {w : World} {ops : Array Oper} {rest : List Oper} {o : Oper} {a : Act} {Q : Exit → Act → World → Prop} (hgd : o.guard = none) (t : TypeId) (x : Operand)
    (ho:o.op = .load t x) (u v:Value) (hx:a.eval x = u) (hrun:(Instr.loadAt t u).run P w = .ok v w) (h:wpList P ops Q rest (a.put o.dst v) w):wpList P ops Q (o :: rest) a w:=by
  refine wpList_plain hgd fun K hK => ?_
  unfold Oper.wp
  simp [execOp,ho,hx,hrun,Result.andThen]
  exact hK _ _ h
theorem wpList_store_at {P : Program} {w w' : World} {ops : Array Oper} {rest : List Oper} {o : Oper} {a : Act} {Q : Exit → Act → World → Prop} (hgd : o.guard = none) (t : TypeId) (x y : Operand)
    (ho:o.op = .store t x y) (u v:Value) (hx:a.eval x = u) (hy:a.eval y = v) (hrun:(Instr.storeAt t u v).run P w = .ok () w') (h:wpList P ops Q rest (a.put o.dst undef) w'):wpList P ops Q (o :: rest) a w:=by
  refine wpList_plain hgd fun K hK => ?_
  unfold Oper.wp
  simp [execOp,ho,hx,hy,hrun,Result.andThen]
  exact hK _ _ h
theorem load_row {w:World} {g:Nat} {L:List Value} (h:Blk w g 277 L) (hl:L.length = 11):(Instr.loadAt 277 (.pointer (some ⟨g,0,none⟩))).run Tryz.prog w = .ok (.agg L.toArray) w:=by
  simp only [Instr.loadAt,Instr.sureAddr,Sem.run_bind,Sem.run_pure,Result.andThen]
  exact run_loadVar_row _ _ 277 277 L.toArray (0,0) _ h Tryz.underlying277 rfl (by rw [Tryz.info277,List.size_toArray,hl])
theorem res_row {w:World} {g:Nat} {L:List Value} {tmps:Array Value} (h:Blk w g 277 L) (hl:L.length = 11) (hp:tmps.getD 4 undef = .pointer (some ⟨g,0,none⟩)):(results Tryz.f205 tmps).run Tryz.prog w = .ok (.agg L.toArray) w:=
  results_cell_row Tryz.results205 tmps w g 277 L.toArray (0,0) _ hp h Tryz.underlying277 rfl (by rw [Tryz.info277,List.size_toArray,hl])
theorem store_row {w : World} {g : Nat} {L M : List Value} (h : Blk w g 277 L) (hl : L.length = 11) (hm : M.length = 11) (h1 : M.all (·.oneCell') = true) :
    (Instr.storeAt 277 (.pointer (some ⟨g,0,none⟩)) (.agg M.toArray)).run Tryz.prog w = .ok () (w.setRow g M.toArray):=by
  simp only [Instr.storeAt,Instr.sureAddr,Sem.run_bind,Sem.run_pure,Result.andThen]
  exact run_storeVar_row w g 277 277 L.toArray M.toArray h (by rw [Tryz.info277,List.size_toArray,hm]) (by simp [hl,hm]) (by rw [← h1]; simp)
def Bnd (c:Co) (s:Sh) (w:World) (x:Ending) (w' : World):Prop:=
  ∃ gc gl gn ge gf gp go,x = .returned (.agg ([.func (.func 209) #[] #[.pointer (some ⟨ge,0,none⟩)],.func (.func 210) #[] #[.pointer (some ⟨ge,0,none⟩),.pointer (some ⟨gc,0,none⟩)],.func (.func 211) #[] #[.pointer (some ⟨ge,0,none⟩),.pointer (some ⟨gl,0,none⟩),.pointer (some ⟨gp,0,none⟩),.pointer (some ⟨gc,0,none⟩)],.func (.func 212) #[] #[.pointer (some ⟨ge,0,none⟩),.pointer (some ⟨gc,0,none⟩),.pointer (some ⟨gn,0,none⟩),.pointer (some ⟨gl,0,none⟩),.pointer (some ⟨gp,0,none⟩)],.func (.func 213) #[] #[.pointer (some ⟨ge,0,none⟩),.pointer (some ⟨gc,0,none⟩)],.func (.func 214) #[] #[.pointer (some ⟨ge,0,none⟩),.pointer (some ⟨gp,0,none⟩)],.func (.func 215) #[] #[.pointer (some ⟨ge,0,none⟩),.pointer (some ⟨gc,0,none⟩)],.func (.func 216) #[] #[.pointer (some ⟨go,0,none⟩)],.func (.func 217) #[] #[.pointer (some ⟨ge,0,none⟩),.pointer (some ⟨gc,0,none⟩),.pointer (some ⟨gf,0,none⟩)],.func (.func 218) #[] #[.pointer (some ⟨ge,0,none⟩),.pointer (some ⟨gc,0,none⟩),.pointer (some ⟨gf,0,none⟩)],.func (.func 219) #[] #[.pointer (some ⟨ge,0,none⟩)]]).toArray)∧Bn w' gc gl gn ge gf gp go c s∧Below w.heap.size w w'
abbrev fnL (gc gl gn ge gf gp go:Nat):List Value:=[.func (.func 209) #[] #[.pointer (some ⟨ge,0,none⟩)],.func (.func 210) #[] #[.pointer (some ⟨ge,0,none⟩),.pointer (some ⟨gc,0,none⟩)],.func (.func 211) #[] #[.pointer (some ⟨ge,0,none⟩),.pointer (some ⟨gl,0,none⟩),.pointer (some ⟨gp,0,none⟩),.pointer (some ⟨gc,0,none⟩)],.func (.func 212) #[] #[.pointer (some ⟨ge,0,none⟩),.pointer (some ⟨gc,0,none⟩),.pointer (some ⟨gn,0,none⟩),.pointer (some ⟨gl,0,none⟩),.pointer (some ⟨gp,0,none⟩)],.func (.func 213) #[] #[.pointer (some ⟨ge,0,none⟩),.pointer (some ⟨gc,0,none⟩)],.func (.func 214) #[] #[.pointer (some ⟨ge,0,none⟩),.pointer (some ⟨gp,0,none⟩)],.func (.func 215) #[] #[.pointer (some ⟨ge,0,none⟩),.pointer (some ⟨gc,0,none⟩)],.func (.func 216) #[] #[.pointer (some ⟨go,0,none⟩)],.func (.func 217) #[] #[.pointer (some ⟨ge,0,none⟩),.pointer (some ⟨gc,0,none⟩),.pointer (some ⟨gf,0,none⟩)],.func (.func 218) #[] #[.pointer (some ⟨ge,0,none⟩),.pointer (some ⟨gc,0,none⟩),.pointer (some ⟨gf,0,none⟩)],.func (.func 219) #[] #[.pointer (some ⟨ge,0,none⟩)]]
set_option maxRecDepth 20000 in
set_option maxHeartbeats 4000000 in
theorem bounds_any (c:Co) (s:Sh) (h:c.Ok) (k:s.Ok) (w:World):Calls Tryz.prog 205 #[.agg #[.int .u64 c.l1,.int .u64 c.llc,.int .u64 c.mi,.int .u64 c.fa,.int .u64 c.st,.int .u64 c.di],.agg #[.int .i64 s.im,.int .i64 s.us,.int .i64 s.li,.int .i64 s.no]] w (Bnd c s w):=by
  have p:=pt_of h k
  obtain ⟨e0,e1,f0,f1,p0,p1,lp0,lp1,nm0,nm1,us0,us1⟩:=p
  obtain ⟨a1,a2,a3,a4,b1,b2,d1,d2,e1',e2⟩:=h
  obtain ⟨im,u1,u2,l1,l2,n1,n2⟩:=k
  unfold ent fin pag at *
  go_enter Tryz.func205,Tryz.ntmps205
  go_wp2_with fail
  go_region
  all_goals go_upto_region 6 with fail
  · have T:Hid (Tw w ((((((((((w.alloc (.cells #[.int .u64 c.l1,.int .u64 c.llc,.int .u64 c.mi,.int .u64 c.fa,.int .u64 c.st,.int .u64 c.di] 63)).alloc (.cells #[.int .i64 s.im,.int .i64 s.us,.int .i64 s.li,.int .i64 s.no] 269)).alloc (.cells #[.nilFunc,.nilFunc,.nilFunc,.nilFunc,.nilFunc,.nilFunc,.nilFunc,.nilFunc,.nilFunc,.nilFunc,.nilFunc] 277)).alloc (.cells #[.int .u64 s.li] 38)).alloc (.cells #[.int .u64 s.no] 38)).alloc (.cells #[.int .u64 (s.im * c.mi)] 38)).alloc (.cells #[.int .u64 ((2 * s.us + 1) * c.st + c.di)] 38)).alloc (.cells #[.int .u64 (c.st + 2 * c.mi)] 38)).alloc (.cells #[.nilFunc,.nilFunc,.nilFunc,.nilFunc,.nilFunc,.nilFunc,.nilFunc,.nilFunc,.nilFunc,.nilFunc,.nilFunc] 277)).drew) (w.heap.size + 1 + 1 + 1) (w.heap.size + 1 + 1 + 1 + 1) c s):=tow_a w c s
    generalize ((((((((((w.alloc (.cells #[.int .u64 c.l1,.int .u64 c.llc,.int .u64 c.mi,.int .u64 c.fa,.int .u64 c.st,.int .u64 c.di] 63)).alloc (.cells #[.int .i64 s.im,.int .i64 s.us,.int .i64 s.li,.int .i64 s.no] 269)).alloc (.cells #[.nilFunc,.nilFunc,.nilFunc,.nilFunc,.nilFunc,.nilFunc,.nilFunc,.nilFunc,.nilFunc,.nilFunc,.nilFunc] 277)).alloc (.cells #[.int .u64 s.li] 38)).alloc (.cells #[.int .u64 s.no] 38)).alloc (.cells #[.int .u64 (s.im * c.mi)] 38)).alloc (.cells #[.int .u64 ((2 * s.us + 1) * c.st + c.di)] 38)).alloc (.cells #[.int .u64 (c.st + 2 * c.mi)] 38)).alloc (.cells #[.nilFunc,.nilFunc,.nilFunc,.nilFunc,.nilFunc,.nilFunc,.nilFunc,.nilFunc,.nilFunc,.nilFunc,.nilFunc] 277)).drew) = W at *
    clear e0 e1 f0 f1 p0 p1 lp0 lp1 nm0 nm1 us0 us1 a1 a2 a3 a4 b1 b2 d1 d2 e1' e2 im u1 u2 l1 l2 n1 n2
    obtain ⟨gc,hgc⟩:∃ gc,w.heap.size = gc:=⟨_,rfl⟩
    obtain ⟨go,hgo⟩:∃ go,w.heap.size + 1 + 1 + 1 + 1 + 1 + 1 + 1 + 1 = go:=⟨_,rfl⟩
    obtain ⟨gp,hgp⟩:∃ gp,w.heap.size + 1 + 1 + 1 + 1 + 1 + 1 + 1 = gp:=⟨_,rfl⟩
    obtain ⟨gf,hgf⟩:∃ gf,w.heap.size + 1 + 1 + 1 + 1 + 1 + 1 = gf:=⟨_,rfl⟩
    obtain ⟨ge,hge⟩:∃ ge,w.heap.size + 1 + 1 + 1 + 1 + 1 = ge:=⟨_,rfl⟩
    obtain ⟨gn,hg4⟩:∃ g,w.heap.size + 1 + 1 + 1 + 1 = g:=⟨_,rfl⟩
    obtain ⟨gl,hg3⟩:∃ g,w.heap.size + 1 + 1 + 1 = g:=⟨_,rfl⟩
    obtain ⟨gr,hgr⟩:∃ gr,w.heap.size + 1 + 1 = gr:=⟨_,rfl⟩
    have D:Hid (w.heap.size ≤ gr∧w.heap.size ≤ go∧go ≠ gc∧go ≠ gl∧go ≠ gn∧go ≠ ge∧go ≠ gf∧go ≠ gp∧go ≠ gr∧gr ≠ gc∧gr ≠ gl∧gr ≠ gn∧gr ≠ ge∧gr ≠ gf∧gr ≠ gp):=by unfold Hid; omega
    obtain ⟨tb,tc,tr,tl,tn,te,tf,tp,to⟩:=T.out
    rw [hgo] at to
    rw [hgp] at tp
    rw [hgf] at tf
    rw [hge] at te
    rw [hg4] at tn
    rw [hg3] at tl
    rw [hgr] at tr
    rw [hgo,hgp,hgf,hge,hg4,hg3,hgr,hgc]
    rw [hgc] at tc
    clear T hgo hgp hgf hge hg4 hg3 hgr
    have HS1:Hid _:=store_row (M:=fnL gc gl gn ge gf gp go) to rfl rfl rfl
    have hl:=to.row (M:=fnL gc gl gn ge gf gp go)
    have HL:Hid _:=load_row hl rfl
    have HS2:Hid _:=store_row (M:=fnL gc gl gn ge gf gp go) (tr.other (b:=go) (M:=(fnL gc gl gn ge gf gp go).toArray) D.out.2.2.2.2.2.2.2.2.1) rfl rfl rfl
    have hr:=(tr.other (b:=go) (M:=(fnL gc gl gn ge gf gp go).toArray) D.out.2.2.2.2.2.2.2.2.1).row (M:=fnL gc gl gn ge gf gp go)
    have FIN:Hid (Bn ((W.setRow go (fnL gc gl gn ge gf gp go).toArray).setRow gr (fnL gc gl gn ge gf gp go).toArray) gc gl gn ge gf gp go c s∧Below w.heap.size w ((W.setRow go (fnL gc gl gn ge gf gp go).toArray).setRow gr (fnL gc gl gn ge gf gp go).toArray)):=by
      obtain ⟨d1,d2,x1,x2,x3,x4,x5,x6,x7,y1,y2,y3,y4,y5,y6⟩:=D.out
      have qc:=(tc.other (M:=(fnL gc gl gn ge gf gp go).toArray) x1).other (M:=(fnL gc gl gn ge gf gp go).toArray) y1
      have ql:=(tl.other (M:=(fnL gc gl gn ge gf gp go).toArray) x2).other (M:=(fnL gc gl gn ge gf gp go).toArray) y2
      have qn:=(tn.other (M:=(fnL gc gl gn ge gf gp go).toArray) x3).other (M:=(fnL gc gl gn ge gf gp go).toArray) y3
      have qe:=(te.other (M:=(fnL gc gl gn ge gf gp go).toArray) x4).other (M:=(fnL gc gl gn ge gf gp go).toArray) y4
      have qf:=(tf.other (M:=(fnL gc gl gn ge gf gp go).toArray) x5).other (M:=(fnL gc gl gn ge gf gp go).toArray) y5
      have qp:=(tp.other (M:=(fnL gc gl gn ge gf gp go).toArray) x6).other (M:=(fnL gc gl gn ge gf gp go).toArray) y6
      have qo:=hl.other (M:=(fnL gc gl gn ge gf gp go).toArray) (Ne.symm x7)
      exact ⟨⟨qc.six,ql.lt,ql.cell 0,qn.lt,qn.cell 0,qe.lt,qe.cell 0,qf.lt,qf.cell 0,qp.lt,qp.cell 0,qo.lt,qo.cell 4,qo.cell 5⟩,below_row (below_row tb d2) d1⟩
    clear tb tc tr tl tn te tf tp to hl D
    go_wp2_with (first | (refine wpList_load_at rfl 277 (.tmp 10) rfl _ _ rfl HL.out ?_) | (refine wpList_store_at rfl 277 (.tmp 10) (.tmp 51) rfl _ _ rfl rfl HS1.out ?_) | (refine wpList_store_at rfl 277 (.tmp 4) (.tmp 52) rfl _ _ rfl rfl HS2.out ?_))
    refine bodyPost_ret (v:=.agg (fnL gc gl gn ge gf gp go).toArray) ?_ rfl ⟨gc,gl,gn,ge,gf,gp,go,rfl,FIN.out⟩
    exact res_row hr rfl rfl
  · have T:Hid (Tw w ((((((((((w.alloc (.cells #[.int .u64 c.l1,.int .u64 c.llc,.int .u64 c.mi,.int .u64 c.fa,.int .u64 c.st,.int .u64 c.di] 63)).alloc (.cells #[.int .i64 s.im,.int .i64 s.us,.int .i64 s.li,.int .i64 s.no] 269)).alloc (.cells #[.nilFunc,.nilFunc,.nilFunc,.nilFunc,.nilFunc,.nilFunc,.nilFunc,.nilFunc,.nilFunc,.nilFunc,.nilFunc] 277)).alloc (.cells #[.int .u64 s.no] 38)).alloc (.cells #[.int .u64 s.li] 38)).alloc (.cells #[.int .u64 (s.im * c.mi)] 38)).alloc (.cells #[.int .u64 ((2 * s.us + 1) * c.st + c.di)] 38)).alloc (.cells #[.int .u64 (c.st + 2 * c.mi)] 38)).alloc (.cells #[.nilFunc,.nilFunc,.nilFunc,.nilFunc,.nilFunc,.nilFunc,.nilFunc,.nilFunc,.nilFunc,.nilFunc,.nilFunc] 277)).drew) (w.heap.size + 1 + 1 + 1 + 1) (w.heap.size + 1 + 1 + 1) c s):=tow_b w c s
    generalize ((((((((((w.alloc (.cells #[.int .u64 c.l1,.int .u64 c.llc,.int .u64 c.mi,.int .u64 c.fa,.int .u64 c.st,.int .u64 c.di] 63)).alloc (.cells #[.int .i64 s.im,.int .i64 s.us,.int .i64 s.li,.int .i64 s.no] 269)).alloc (.cells #[.nilFunc,.nilFunc,.nilFunc,.nilFunc,.nilFunc,.nilFunc,.nilFunc,.nilFunc,.nilFunc,.nilFunc,.nilFunc] 277)).alloc (.cells #[.int .u64 s.no] 38)).alloc (.cells #[.int .u64 s.li] 38)).alloc (.cells #[.int .u64 (s.im * c.mi)] 38)).alloc (.cells #[.int .u64 ((2 * s.us + 1) * c.st + c.di)] 38)).alloc (.cells #[.int .u64 (c.st + 2 * c.mi)] 38)).alloc (.cells #[.nilFunc,.nilFunc,.nilFunc,.nilFunc,.nilFunc,.nilFunc,.nilFunc,.nilFunc,.nilFunc,.nilFunc,.nilFunc] 277)).drew) = W at *
    clear e0 e1 f0 f1 p0 p1 lp0 lp1 nm0 nm1 us0 us1 a1 a2 a3 a4 b1 b2 d1 d2 e1' e2 im u1 u2 l1 l2 n1 n2
    obtain ⟨gc,hgc⟩:∃ gc,w.heap.size = gc:=⟨_,rfl⟩
    obtain ⟨go,hgo⟩:∃ go,w.heap.size + 1 + 1 + 1 + 1 + 1 + 1 + 1 + 1 = go:=⟨_,rfl⟩
    obtain ⟨gp,hgp⟩:∃ gp,w.heap.size + 1 + 1 + 1 + 1 + 1 + 1 + 1 = gp:=⟨_,rfl⟩
    obtain ⟨gf,hgf⟩:∃ gf,w.heap.size + 1 + 1 + 1 + 1 + 1 + 1 = gf:=⟨_,rfl⟩
    obtain ⟨ge,hge⟩:∃ ge,w.heap.size + 1 + 1 + 1 + 1 + 1 = ge:=⟨_,rfl⟩
    obtain ⟨gl,hg4⟩:∃ g,w.heap.size + 1 + 1 + 1 + 1 = g:=⟨_,rfl⟩
    obtain ⟨gn,hg3⟩:∃ g,w.heap.size + 1 + 1 + 1 = g:=⟨_,rfl⟩
    obtain ⟨gr,hgr⟩:∃ gr,w.heap.size + 1 + 1 = gr:=⟨_,rfl⟩
    have D:Hid (w.heap.size ≤ gr∧w.heap.size ≤ go∧go ≠ gc∧go ≠ gl∧go ≠ gn∧go ≠ ge∧go ≠ gf∧go ≠ gp∧go ≠ gr∧gr ≠ gc∧gr ≠ gl∧gr ≠ gn∧gr ≠ ge∧gr ≠ gf∧gr ≠ gp):=by unfold Hid; omega
    obtain ⟨tb,tc,tr,tl,tn,te,tf,tp,to⟩:=T.out
    rw [hgo] at to
    rw [hgp] at tp
    rw [hgf] at tf
    rw [hge] at te
    rw [hg4] at tl
    rw [hg3] at tn
    rw [hgr] at tr
    rw [hgo,hgp,hgf,hge,hg4,hg3,hgr,hgc]
    rw [hgc] at tc
    clear T hgo hgp hgf hge hg4 hg3 hgr
    have HS1:Hid _:=store_row (M:=fnL gc gl gn ge gf gp go) to rfl rfl rfl
    have hl:=to.row (M:=fnL gc gl gn ge gf gp go)
    have HL:Hid _:=load_row hl rfl
    have HS2:Hid _:=store_row (M:=fnL gc gl gn ge gf gp go) (tr.other (b:=go) (M:=(fnL gc gl gn ge gf gp go).toArray) D.out.2.2.2.2.2.2.2.2.1) rfl rfl rfl
    have hr:=(tr.other (b:=go) (M:=(fnL gc gl gn ge gf gp go).toArray) D.out.2.2.2.2.2.2.2.2.1).row (M:=fnL gc gl gn ge gf gp go)
    have FIN:Hid (Bn ((W.setRow go (fnL gc gl gn ge gf gp go).toArray).setRow gr (fnL gc gl gn ge gf gp go).toArray) gc gl gn ge gf gp go c s∧Below w.heap.size w ((W.setRow go (fnL gc gl gn ge gf gp go).toArray).setRow gr (fnL gc gl gn ge gf gp go).toArray)):=by
      obtain ⟨d1,d2,x1,x2,x3,x4,x5,x6,x7,y1,y2,y3,y4,y5,y6⟩:=D.out
      have qc:=(tc.other (M:=(fnL gc gl gn ge gf gp go).toArray) x1).other (M:=(fnL gc gl gn ge gf gp go).toArray) y1
      have ql:=(tl.other (M:=(fnL gc gl gn ge gf gp go).toArray) x2).other (M:=(fnL gc gl gn ge gf gp go).toArray) y2
      have qn:=(tn.other (M:=(fnL gc gl gn ge gf gp go).toArray) x3).other (M:=(fnL gc gl gn ge gf gp go).toArray) y3
      have qe:=(te.other (M:=(fnL gc gl gn ge gf gp go).toArray) x4).other (M:=(fnL gc gl gn ge gf gp go).toArray) y4
      have qf:=(tf.other (M:=(fnL gc gl gn ge gf gp go).toArray) x5).other (M:=(fnL gc gl gn ge gf gp go).toArray) y5
      have qp:=(tp.other (M:=(fnL gc gl gn ge gf gp go).toArray) x6).other (M:=(fnL gc gl gn ge gf gp go).toArray) y6
      have qo:=hl.other (M:=(fnL gc gl gn ge gf gp go).toArray) (Ne.symm x7)
      exact ⟨⟨qc.six,ql.lt,ql.cell 0,qn.lt,qn.cell 0,qe.lt,qe.cell 0,qf.lt,qf.cell 0,qp.lt,qp.cell 0,qo.lt,qo.cell 4,qo.cell 5⟩,below_row (below_row tb d2) d1⟩
    clear tb tc tr tl tn te tf tp to hl D
    go_wp2_with (first | (refine wpList_load_at rfl 277 (.tmp 10) rfl _ _ rfl HL.out ?_) | (refine wpList_store_at rfl 277 (.tmp 10) (.tmp 51) rfl _ _ rfl rfl HS1.out ?_) | (refine wpList_store_at rfl 277 (.tmp 4) (.tmp 52) rfl _ _ rfl rfl HS2.out ?_))
    refine bodyPost_ret (v:=.agg (fnL gc gl gn ge gf gp go).toArray) ?_ rfl ⟨gc,gl,gn,ge,gf,gp,go,rfl,FIN.out⟩
    exact res_row hr rfl rfl
theorem cl0 {w:World} {gc gl gn ge gf gp go:Nat} {c:Co} {s:Sh} (B:Bn w gc gl gn ge gf gp go c s) (h:c.Ok) (k:s.Ok) (p:Pt c s):Calls Tryz.prog 209 #[.pointer (some ⟨ge,0,none⟩)] w fun e w'=>e = .returned (.int .u64 (bd c s 0))∧w' = w:=by
  obtain ⟨⟨_,_,_,m,fa,st,di⟩,_,l,_,n,_,e,_,f,_,p',_,_,_⟩:=B
  obtain ⟨e0,e1,f0,f1,p0,p1,lp0,lp1,nm0,nm1,us0,us1⟩:=p
  obtain ⟨a1,a2,a3,a4,b1,b2,d1,d2,e1',e2⟩:=h
  obtain ⟨_,u1,u2,l1,l2,n1,n2⟩:=k
  simp only [bd]
  generalize ent c s = E at *
  generalize fin c s = F at *
  generalize pag c = Q at *
  go_enter Tryz.func209,Tryz.ntmps209
  go_wp2
  go_ret
  exact ⟨ret_int (by first | rfl | go_num),rfl⟩
theorem cl1 {w:World} {gc gl gn ge gf gp go:Nat} {c:Co} {s:Sh} (B:Bn w gc gl gn ge gf gp go c s) (h:c.Ok) (k:s.Ok) (p:Pt c s):Calls Tryz.prog 210 #[.pointer (some ⟨ge,0,none⟩),.pointer (some ⟨gc,0,none⟩)] w fun e w'=>e = .returned (.int .u64 (bd c s 1))∧w' = w:=by
  obtain ⟨⟨_,_,_,m,fa,st,di⟩,_,l,_,n,_,e,_,f,_,p',_,_,_⟩:=B
  obtain ⟨e0,e1,f0,f1,p0,p1,lp0,lp1,nm0,nm1,us0,us1⟩:=p
  obtain ⟨a1,a2,a3,a4,b1,b2,d1,d2,e1',e2⟩:=h
  obtain ⟨_,u1,u2,l1,l2,n1,n2⟩:=k
  simp only [bd]
  generalize ent c s = E at *
  generalize fin c s = F at *
  generalize pag c = Q at *
  go_enter Tryz.func210,Tryz.ntmps210
  go_wp2
  go_ret
  exact ⟨ret_int (by first | rfl | go_num),rfl⟩
theorem cl2 {w:World} {gc gl gn ge gf gp go:Nat} {c:Co} {s:Sh} (B:Bn w gc gl gn ge gf gp go c s) (h:c.Ok) (k:s.Ok) (p:Pt c s):Calls Tryz.prog 211 #[.pointer (some ⟨ge,0,none⟩),.pointer (some ⟨gl,0,none⟩),.pointer (some ⟨gp,0,none⟩),.pointer (some ⟨gc,0,none⟩)] w fun e w'=>e = .returned (.int .u64 (bd c s 2))∧w' = w:=by
  obtain ⟨⟨_,_,_,m,fa,st,di⟩,_,l,_,n,_,e,_,f,_,p',_,_,_⟩:=B
  obtain ⟨e0,e1,f0,f1,p0,p1,lp0,lp1,nm0,nm1,us0,us1⟩:=p
  obtain ⟨a1,a2,a3,a4,b1,b2,d1,d2,e1',e2⟩:=h
  obtain ⟨_,u1,u2,l1,l2,n1,n2⟩:=k
  simp only [bd]
  generalize ent c s = E at *
  generalize fin c s = F at *
  generalize pag c = Q at *
  go_enter Tryz.func211,Tryz.ntmps211
  go_wp2
  go_ret
  exact ⟨ret_int (by first | rfl | go_num),rfl⟩
theorem cl3 {w:World} {gc gl gn ge gf gp go:Nat} {c:Co} {s:Sh} (B:Bn w gc gl gn ge gf gp go c s) (h:c.Ok) (k:s.Ok) (p:Pt c s):Calls Tryz.prog 212 #[.pointer (some ⟨ge,0,none⟩),.pointer (some ⟨gc,0,none⟩),.pointer (some ⟨gn,0,none⟩),.pointer (some ⟨gl,0,none⟩),.pointer (some ⟨gp,0,none⟩)] w fun e w'=>e = .returned (.int .u64 (bd c s 3))∧w' = w:=by
  obtain ⟨⟨_,_,_,m,fa,st,di⟩,_,l,_,n,_,e,_,f,_,p',_,_,_⟩:=B
  obtain ⟨e0,e1,f0,f1,p0,p1,lp0,lp1,nm0,nm1,us0,us1⟩:=p
  obtain ⟨a1,a2,a3,a4,b1,b2,d1,d2,e1',e2⟩:=h
  obtain ⟨_,u1,u2,l1,l2,n1,n2⟩:=k
  simp only [bd]
  generalize ent c s = E at *
  generalize fin c s = F at *
  generalize pag c = Q at *
  go_enter Tryz.func212,Tryz.ntmps212
  go_wp2
  go_ret
  exact ⟨ret_int (by first | rfl | go_num),rfl⟩
theorem cl4 {w:World} {gc gl gn ge gf gp go:Nat} {c:Co} {s:Sh} (B:Bn w gc gl gn ge gf gp go c s) (h:c.Ok) (k:s.Ok) (p:Pt c s):Calls Tryz.prog 213 #[.pointer (some ⟨ge,0,none⟩),.pointer (some ⟨gc,0,none⟩)] w fun e w'=>e = .returned (.int .u64 (bd c s 4))∧w' = w:=by
  obtain ⟨⟨_,_,_,m,fa,st,di⟩,_,l,_,n,_,e,_,f,_,p',_,_,_⟩:=B
  obtain ⟨e0,e1,f0,f1,p0,p1,lp0,lp1,nm0,nm1,us0,us1⟩:=p
  obtain ⟨a1,a2,a3,a4,b1,b2,d1,d2,e1',e2⟩:=h
  obtain ⟨_,u1,u2,l1,l2,n1,n2⟩:=k
  simp only [bd]
  generalize ent c s = E at *
  generalize fin c s = F at *
  generalize pag c = Q at *
  go_enter Tryz.func213,Tryz.ntmps213
  go_wp2
  go_ret
  exact ⟨ret_int (by first | rfl | go_num),rfl⟩
theorem cl5 {w:World} {gc gl gn ge gf gp go:Nat} {c:Co} {s:Sh} (B:Bn w gc gl gn ge gf gp go c s) (h:c.Ok) (k:s.Ok) (p:Pt c s):Calls Tryz.prog 214 #[.pointer (some ⟨ge,0,none⟩),.pointer (some ⟨gp,0,none⟩)] w fun e w'=>e = .returned (.int .u64 (bd c s 5))∧w' = w:=by
  obtain ⟨⟨_,_,_,m,fa,st,di⟩,_,l,_,n,_,e,_,f,_,p',_,_,_⟩:=B
  obtain ⟨e0,e1,f0,f1,p0,p1,lp0,lp1,nm0,nm1,us0,us1⟩:=p
  obtain ⟨a1,a2,a3,a4,b1,b2,d1,d2,e1',e2⟩:=h
  obtain ⟨_,u1,u2,l1,l2,n1,n2⟩:=k
  simp only [bd]
  generalize ent c s = E at *
  generalize fin c s = F at *
  generalize pag c = Q at *
  go_enter Tryz.func214,Tryz.ntmps214
  go_wp2
  go_ret
  exact ⟨ret_int (by first | rfl | go_num),rfl⟩
theorem cl6 {w:World} {gc gl gn ge gf gp go:Nat} {c:Co} {s:Sh} (B:Bn w gc gl gn ge gf gp go c s) (h:c.Ok) (k:s.Ok) (p:Pt c s):Calls Tryz.prog 215 #[.pointer (some ⟨ge,0,none⟩),.pointer (some ⟨gc,0,none⟩)] w fun e w'=>e = .returned (.int .u64 (bd c s 6))∧w' = w:=by
  obtain ⟨⟨_,_,_,m,fa,st,di⟩,_,l,_,n,_,e,_,f,_,p',_,_,_⟩:=B
  obtain ⟨e0,e1,f0,f1,p0,p1,lp0,lp1,nm0,nm1,us0,us1⟩:=p
  obtain ⟨a1,a2,a3,a4,b1,b2,d1,d2,e1',e2⟩:=h
  obtain ⟨_,u1,u2,l1,l2,n1,n2⟩:=k
  simp only [bd]
  generalize ent c s = E at *
  generalize fin c s = F at *
  generalize pag c = Q at *
  go_enter Tryz.func215,Tryz.ntmps215
  go_wp2
  go_ret
  exact ⟨ret_int (by first | rfl | go_num),rfl⟩
theorem cl8 {w:World} {gc gl gn ge gf gp go:Nat} {c:Co} {s:Sh} (B:Bn w gc gl gn ge gf gp go c s) (h:c.Ok) (k:s.Ok) (p:Pt c s):Calls Tryz.prog 217 #[.pointer (some ⟨ge,0,none⟩),.pointer (some ⟨gc,0,none⟩),.pointer (some ⟨gf,0,none⟩)] w fun e w'=>e = .returned (.int .u64 (bd c s 8))∧w' = w:=by
  obtain ⟨⟨_,_,_,m,fa,st,di⟩,_,l,_,n,_,e,_,f,_,p',_,_,_⟩:=B
  obtain ⟨e0,e1,f0,f1,p0,p1,lp0,lp1,nm0,nm1,us0,us1⟩:=p
  obtain ⟨a1,a2,a3,a4,b1,b2,d1,d2,e1',e2⟩:=h
  obtain ⟨_,u1,u2,l1,l2,n1,n2⟩:=k
  simp only [bd]
  generalize ent c s = E at *
  generalize fin c s = F at *
  generalize pag c = Q at *
  go_enter Tryz.func217,Tryz.ntmps217
  go_wp2
  go_ret
  exact ⟨ret_int (by first | rfl | go_num),rfl⟩
theorem cl9 {w:World} {gc gl gn ge gf gp go:Nat} {c:Co} {s:Sh} (B:Bn w gc gl gn ge gf gp go c s) (h:c.Ok) (k:s.Ok) (p:Pt c s):Calls Tryz.prog 218 #[.pointer (some ⟨ge,0,none⟩),.pointer (some ⟨gc,0,none⟩),.pointer (some ⟨gf,0,none⟩)] w fun e w'=>e = .returned (.int .u64 (bd c s 9))∧w' = w:=by
  obtain ⟨⟨_,_,_,m,fa,st,di⟩,_,l,_,n,_,e,_,f,_,p',_,_,_⟩:=B
  obtain ⟨e0,e1,f0,f1,p0,p1,lp0,lp1,nm0,nm1,us0,us1⟩:=p
  obtain ⟨a1,a2,a3,a4,b1,b2,d1,d2,e1',e2⟩:=h
  obtain ⟨_,u1,u2,l1,l2,n1,n2⟩:=k
  simp only [bd]
  generalize ent c s = E at *
  generalize fin c s = F at *
  generalize pag c = Q at *
  go_enter Tryz.func218,Tryz.ntmps218
  go_wp2
  go_ret
  exact ⟨ret_int (by first | rfl | go_num),rfl⟩
theorem cl10 {w:World} {gc gl gn ge gf gp go:Nat} {c:Co} {s:Sh} (B:Bn w gc gl gn ge gf gp go c s) (h:c.Ok) (k:s.Ok) (p:Pt c s):Calls Tryz.prog 219 #[.pointer (some ⟨ge,0,none⟩)] w fun e w'=>e = .returned (.int .u64 (bd c s 10))∧w' = w:=by
  obtain ⟨⟨_,_,_,m,fa,st,di⟩,_,l,_,n,_,e,_,f,_,p',_,_,_⟩:=B
  obtain ⟨e0,e1,f0,f1,p0,p1,lp0,lp1,nm0,nm1,us0,us1⟩:=p
  obtain ⟨a1,a2,a3,a4,b1,b2,d1,d2,e1',e2⟩:=h
  obtain ⟨_,u1,u2,l1,l2,n1,n2⟩:=k
  simp only [bd]
  generalize ent c s = E at *
  generalize fin c s = F at *
  generalize pag c = Q at *
  go_enter Tryz.func219,Tryz.ntmps219
  go_wp2
  go_ret
  exact ⟨ret_int (by first | rfl | go_num),rfl⟩
theorem below_drew (w:World) (B:Nat):Below B w w.drew:=(Below.refl B w).drew
theorem cl7 {w:World} {gc gl gn ge gf gp go:Nat} {c:Co} {s:Sh} (B:Bn w gc gl gn ge gf gp go c s) (h:c.Ok) (k:s.Ok) (p:Pt c s):Calls Tryz.prog 216 #[.pointer (some ⟨go,0,none⟩)] w fun e w'=>e = .returned (.int .u64 (bd c s 7))∧Below w.heap.size w w':=by
  have C4:Hid (Calls Tryz.prog 213 #[.pointer (some ⟨ge,0,none⟩),.pointer (some ⟨gc,0,none⟩)] w.drew fun e w'=>e = .returned (.int .u64 (bd c s 4))∧w' = w.drew):=cl4 (B.below (below_drew _ _)) h k p
  have C5:Hid (Calls Tryz.prog 214 #[.pointer (some ⟨ge,0,none⟩),.pointer (some ⟨gp,0,none⟩)] w.drew fun e w'=>e = .returned (.int .u64 (bd c s 5))∧w' = w.drew):=cl5 (B.below (below_drew _ _)) h k p
  obtain ⟨_,_,_,_,_,_,_,_,_,_,_,_,o4,o5⟩:=B
  clear h k p
  rw [show bd c s 7 = max (bd c s 4) (bd c s 5) from rfl]
  generalize bd c s 4 = x at *
  generalize bd c s 5 = y at *
  go_enter Tryz.func216,Tryz.ntmps216
  go_wp2_with fail
  go_region_held3 (fun W=>W.cell? ⟨go,4,none⟩ = some (.func (.func 213) #[] #[.pointer (some ⟨ge,0,none⟩),.pointer (some ⟨gc,0,none⟩)])∧W.cell? ⟨go,5,none⟩ = some (.func (.func 214) #[] #[.pointer (some ⟨ge,0,none⟩),.pointer (some ⟨gp,0,none⟩)]))
    (first | exact ⟨o4,o5⟩)
    (first | (go_at_call 213; refine C4.out.mono ?_; rintro e w' ⟨rfl,rfl⟩) | (go_at_call 214; refine C5.out.mono ?_; rintro e w' ⟨rfl,rfl⟩))
  all_goals go_wp2
  all_goals (go_ret; exact ⟨ret_int (by omega),below_drew _ _⟩)
structure Bx (w0 w:World) (b b' : Nat) (c:Co) (s:Sh):Prop where
  be:Below w0.heap.size w0 w
  cs:Six w b c
  ss:Fou w b' s
theorem Bx.below {w0 w w' : World} {b b' : Nat} {c:Co} {s:Sh} (h:Bx w0 w b b' c s) (k:Below w.heap.size w w'):Bx w0 w' b b' c s:=⟨h.be.trans (k.mono h.be.size),h.cs.below k,h.ss.below k⟩
theorem bx_new (w:World) (c:Co) (s:Sh):Bx w ((w.alloc (.cells #[.int .u64 c.l1,.int .u64 c.llc,.int .u64 c.mi,.int .u64 c.fa,.int .u64 c.st,.int .u64 c.di] 63)).alloc (.cells #[.int .i64 s.im,.int .i64 s.us,.int .i64 s.li,.int .i64 s.no] 269)) w.heap.size (w.heap.size + 1) c s:=
  ⟨below_two _ _ _,(six_new w c).below (below_new _ _),by simpa using fou_new (w.alloc (.cells #[.int .u64 c.l1,.int .u64 c.llc,.int .u64 c.mi,.int .u64 c.fa,.int .u64 c.st,.int .u64 c.di] 63)) s⟩
theorem Tryz.info260:(Tryz.prog.info? 260).map (·.size) = some 1:=by kernel_rfl
theorem run_index53 (cs:Array Value) (k:IntKind) (i:Nat) (v:Value) (hi:i < 11) (hv:cs[i]? = some v) (w:World):(Instr.index 277 (.agg cs) (.int k (i:Int))).run Tryz.prog w = .ok v w:=by
  have hz:(sizeOf 260).run Tryz.prog w = .ok 1 w:=by
    cases hq:Tryz.prog.info? 260 with
    | none=>have:=Tryz.info260; simp [hq] at this
    | some i=>have:=Tryz.info260; simp [hq] at this; simp [sizeOf,typeInfo,hq,this]
  have ha:(isAgg 260).run Tryz.prog w = .ok false w:=by simp [isAgg,run_underlying Tryz.underlying260]
  have hp:(part 260 cs i).run Tryz.prog w = .ok v w:=by simp [part,ha,hv]
  simp [Instr.index,run_underlying Tryz.underlying277,asIntOf,hz,hi,hp]
theorem ers_ok {c:Co} {s:Sh} (h:c.Ok) (k:s.Ok):ers c s = 0:=ers_t (okC_iff.2 h) (okS_iff.2 k)
def mx (c:Co) (s:Sh):Nat→Int
  | 0=>0
  | j + 1=>max (mx c s j) (bd c s j)
def iv:Value→Int
  | .int _ a=>a
  | _=>0
set_option maxHeartbeats 2000000 in
theorem Most_ok (c:Co) (s:Sh) (h:c.Ok) (k:s.Ok) (w:World):Calls Tryz.prog 194 #[.agg #[.int .u64 c.l1,.int .u64 c.llc,.int .u64 c.mi,.int .u64 c.fa,.int .u64 c.st,.int .u64 c.di],.agg #[.int .i64 s.im,.int .i64 s.us,.int .i64 s.li,.int .i64 s.no]] w (Two (mx c s 11) 0 w):=by
  have B0:Hid (Bx w ((w.alloc (.cells #[.int .u64 c.l1,.int .u64 c.llc,.int .u64 c.mi,.int .u64 c.fa,.int .u64 c.st,.int .u64 c.di] 63)).alloc (.cells #[.int .i64 s.im,.int .i64 s.us,.int .i64 s.li,.int .i64 s.no] 269)) w.heap.size (w.heap.size + 1) c s):=bx_new w c s
  have C:=check_any c s ((w.alloc (.cells #[.int .u64 c.l1,.int .u64 c.llc,.int .u64 c.mi,.int .u64 c.fa,.int .u64 c.st,.int .u64 c.di] 63)).alloc (.cells #[.int .i64 s.im,.int .i64 s.us,.int .i64 s.li,.int .i64 s.no] 269))
  rw [ers_ok h k] at C
  have p:=pt_of h k
  go_enter Tryz.func194,Tryz.ntmps194
  go_wp2_with fail
  refine C.mono ?_
  rintro e w1 ⟨rfl,k1⟩
  have B1:Hid (Bx w w1 w.heap.size (w.heap.size + 1) c s):=B0.out.below k1
  have C2:Hid (Calls Tryz.prog 205 #[.agg #[.int .u64 c.l1,.int .u64 c.llc,.int .u64 c.mi,.int .u64 c.fa,.int .u64 c.st,.int .u64 c.di],.agg #[.int .i64 s.im,.int .i64 s.us,.int .i64 s.li,.int .i64 s.no]] w1 (Bnd c s w1)):=bounds_any c s h k w1
  obtain ⟨_,c0,c1,c2,c3,c4,c5⟩:=B1.out.cs
  obtain ⟨_,s0,s1,s2,s3⟩:=B1.out.ss
  clear C k1 B0
  go_wp2_with fail
  refine C2.out.mono ?_
  rintro e w2 ⟨gc,gl,gn,ge,gf,gp,go,rfl,B,k2⟩
  have FIN:Hid (Below w.heap.size w w2):=B1.out.be.trans (k2.mono B1.out.be.size)
  have HB:Hid (Bn w2 gc gl gn ge gf gp go c s):=B
  clear C2 k2 B1 c0 c1 c2 c3 c4 c5 s0 s1 s2 s3 B
  go_wp2_with fail
  go_loopw [7,19] (fun m i wr=>∃ j:Nat,j ≤ 11∧i = .int .i64 j∧m = .int .u64 (mx c s j)∧Bn wr gc gl gn ge gf gp go c s∧Below w.heap.size w wr) (fun _ i _=>11 - (iv i).toNat)
  case atStart=>exact ⟨0,by omega,rfl,rfl,HB.out,FIN.out⟩
  case round=>
    clear FIN HB
    obtain ⟨j,hj,rfl,rfl,hB,hF⟩:=hrel
    have HB:Hid (Bn wr gc gl gn ge gf gp go c s):=hB
    have FIN:Hid (Below w.heap.size w wr):=hF
    clear hB hF
    by_cases hlt:j < 11
    · have hq:j = 0 ∨ j = 1 ∨ j = 2 ∨ j = 3 ∨ j = 4 ∨ j = 5 ∨ j = 6 ∨ j = 7 ∨ j = 8 ∨ j = 9 ∨ j = 10:=by omega
      clear hlt hj
      rcases hq with rfl | rfl | rfl | rfl | rfl | rfl | rfl | rfl | rfl | rfl | rfl
      · have hm:mx c s (0 + 1) = max (mx c s 0) (bd c s 0):=rfl
        have hix:∀ w,(Instr.index 277 (.agg (fnL gc gl gn ge gf gp go).toArray) (.int .i64 0)).run Tryz.prog w = .ok (.func (.func 209) #[] #[.pointer (some ⟨ge,0,none⟩)]) w:=fun w=>run_index53 _ _ 0 _ (by omega) rfl w
        generalize mx c s 0 = u at *
        go_wp2_with (go_at_call 209; refine (cl0 HB.out h k p).mono ?_; rintro e w3 ⟨rfl,rfl⟩)
        all_goals
          go_roundw
          case rel=>exact ⟨0 + 1,by omega,by go_num,by rw [hm]; congr 1; omega,HB.out,FIN.out⟩
          case measure=>simp [iv]
      · have hm:mx c s (1 + 1) = max (mx c s 1) (bd c s 1):=rfl
        have hix:∀ w,(Instr.index 277 (.agg (fnL gc gl gn ge gf gp go).toArray) (.int .i64 1)).run Tryz.prog w = .ok (.func (.func 210) #[] #[.pointer (some ⟨ge,0,none⟩),.pointer (some ⟨gc,0,none⟩)]) w:=fun w=>run_index53 _ _ 1 _ (by omega) rfl w
        generalize mx c s 1 = u at *
        go_wp2_with (go_at_call 210; refine (cl1 HB.out h k p).mono ?_; rintro e w3 ⟨rfl,rfl⟩)
        all_goals
          go_roundw
          case rel=>exact ⟨1 + 1,by omega,by go_num,by rw [hm]; congr 1; omega,HB.out,FIN.out⟩
          case measure=>simp [iv]
      · have hm:mx c s (2 + 1) = max (mx c s 2) (bd c s 2):=rfl
        have hix:∀ w,(Instr.index 277 (.agg (fnL gc gl gn ge gf gp go).toArray) (.int .i64 2)).run Tryz.prog w = .ok (.func (.func 211) #[] #[.pointer (some ⟨ge,0,none⟩),.pointer (some ⟨gl,0,none⟩),.pointer (some ⟨gp,0,none⟩),.pointer (some ⟨gc,0,none⟩)]) w:=fun w=>run_index53 _ _ 2 _ (by omega) rfl w
        generalize mx c s 2 = u at *
        go_wp2_with (go_at_call 211; refine (cl2 HB.out h k p).mono ?_; rintro e w3 ⟨rfl,rfl⟩)
        all_goals
          go_roundw
          case rel=>exact ⟨2 + 1,by omega,by go_num,by rw [hm]; congr 1; omega,HB.out,FIN.out⟩
          case measure=>simp [iv]
      · have hm:mx c s (3 + 1) = max (mx c s 3) (bd c s 3):=rfl
        have hix:∀ w,(Instr.index 277 (.agg (fnL gc gl gn ge gf gp go).toArray) (.int .i64 3)).run Tryz.prog w = .ok (.func (.func 212) #[] #[.pointer (some ⟨ge,0,none⟩),.pointer (some ⟨gc,0,none⟩),.pointer (some ⟨gn,0,none⟩),.pointer (some ⟨gl,0,none⟩),.pointer (some ⟨gp,0,none⟩)]) w:=fun w=>run_index53 _ _ 3 _ (by omega) rfl w
        generalize mx c s 3 = u at *
        go_wp2_with (go_at_call 212; refine (cl3 HB.out h k p).mono ?_; rintro e w3 ⟨rfl,rfl⟩)
        all_goals
          go_roundw
          case rel=>exact ⟨3 + 1,by omega,by go_num,by rw [hm]; congr 1; omega,HB.out,FIN.out⟩
          case measure=>simp [iv]
      · have hm:mx c s (4 + 1) = max (mx c s 4) (bd c s 4):=rfl
        have hix:∀ w,(Instr.index 277 (.agg (fnL gc gl gn ge gf gp go).toArray) (.int .i64 4)).run Tryz.prog w = .ok (.func (.func 213) #[] #[.pointer (some ⟨ge,0,none⟩),.pointer (some ⟨gc,0,none⟩)]) w:=fun w=>run_index53 _ _ 4 _ (by omega) rfl w
        generalize mx c s 4 = u at *
        go_wp2_with (go_at_call 213; refine (cl4 HB.out h k p).mono ?_; rintro e w3 ⟨rfl,rfl⟩)
        all_goals
          go_roundw
          case rel=>exact ⟨4 + 1,by omega,by go_num,by rw [hm]; congr 1; omega,HB.out,FIN.out⟩
          case measure=>simp [iv]
      · have hm:mx c s (5 + 1) = max (mx c s 5) (bd c s 5):=rfl
        have hix:∀ w,(Instr.index 277 (.agg (fnL gc gl gn ge gf gp go).toArray) (.int .i64 5)).run Tryz.prog w = .ok (.func (.func 214) #[] #[.pointer (some ⟨ge,0,none⟩),.pointer (some ⟨gp,0,none⟩)]) w:=fun w=>run_index53 _ _ 5 _ (by omega) rfl w
        generalize mx c s 5 = u at *
        go_wp2_with (go_at_call 214; refine (cl5 HB.out h k p).mono ?_; rintro e w3 ⟨rfl,rfl⟩)
        all_goals
          go_roundw
          case rel=>exact ⟨5 + 1,by omega,by go_num,by rw [hm]; congr 1; omega,HB.out,FIN.out⟩
          case measure=>simp [iv]
      · have hm:mx c s (6 + 1) = max (mx c s 6) (bd c s 6):=rfl
        have hix:∀ w,(Instr.index 277 (.agg (fnL gc gl gn ge gf gp go).toArray) (.int .i64 6)).run Tryz.prog w = .ok (.func (.func 215) #[] #[.pointer (some ⟨ge,0,none⟩),.pointer (some ⟨gc,0,none⟩)]) w:=fun w=>run_index53 _ _ 6 _ (by omega) rfl w
        generalize mx c s 6 = u at *
        go_wp2_with (go_at_call 215; refine (cl6 HB.out h k p).mono ?_; rintro e w3 ⟨rfl,rfl⟩)
        all_goals
          go_roundw
          case rel=>exact ⟨6 + 1,by omega,by go_num,by rw [hm]; congr 1; omega,HB.out,FIN.out⟩
          case measure=>simp [iv]
      · have hm:mx c s (7 + 1) = max (mx c s 7) (bd c s 7):=rfl
        have hix:∀ w,(Instr.index 277 (.agg (fnL gc gl gn ge gf gp go).toArray) (.int .i64 7)).run Tryz.prog w = .ok (.func (.func 216) #[] #[.pointer (some ⟨go,0,none⟩)]) w:=fun w=>run_index53 _ _ 7 _ (by omega) rfl w
        generalize mx c s 7 = u at *
        go_wp2_with (go_at_call 216; refine (cl7 HB.out h k p).mono ?_; rintro e w3 ⟨rfl,k3⟩)
        all_goals
          go_roundw
          case rel=>exact ⟨7 + 1,by omega,by go_num,by rw [hm]; congr 1; omega,HB.out.below k3,FIN.out.trans (k3.mono FIN.out.size)⟩
          case measure=>simp [iv]
      · have hm:mx c s (8 + 1) = max (mx c s 8) (bd c s 8):=rfl
        have hix:∀ w,(Instr.index 277 (.agg (fnL gc gl gn ge gf gp go).toArray) (.int .i64 8)).run Tryz.prog w = .ok (.func (.func 217) #[] #[.pointer (some ⟨ge,0,none⟩),.pointer (some ⟨gc,0,none⟩),.pointer (some ⟨gf,0,none⟩)]) w:=fun w=>run_index53 _ _ 8 _ (by omega) rfl w
        generalize mx c s 8 = u at *
        go_wp2_with (go_at_call 217; refine (cl8 HB.out h k p).mono ?_; rintro e w3 ⟨rfl,rfl⟩)
        all_goals
          go_roundw
          case rel=>exact ⟨8 + 1,by omega,by go_num,by rw [hm]; congr 1; omega,HB.out,FIN.out⟩
          case measure=>simp [iv]
      · have hm:mx c s (9 + 1) = max (mx c s 9) (bd c s 9):=rfl
        have hix:∀ w,(Instr.index 277 (.agg (fnL gc gl gn ge gf gp go).toArray) (.int .i64 9)).run Tryz.prog w = .ok (.func (.func 218) #[] #[.pointer (some ⟨ge,0,none⟩),.pointer (some ⟨gc,0,none⟩),.pointer (some ⟨gf,0,none⟩)]) w:=fun w=>run_index53 _ _ 9 _ (by omega) rfl w
        generalize mx c s 9 = u at *
        go_wp2_with (go_at_call 218; refine (cl9 HB.out h k p).mono ?_; rintro e w3 ⟨rfl,rfl⟩)
        all_goals
          go_roundw
          case rel=>exact ⟨9 + 1,by omega,by go_num,by rw [hm]; congr 1; omega,HB.out,FIN.out⟩
          case measure=>simp [iv]
      · have hm:mx c s (10 + 1) = max (mx c s 10) (bd c s 10):=rfl
        have hix:∀ w,(Instr.index 277 (.agg (fnL gc gl gn ge gf gp go).toArray) (.int .i64 10)).run Tryz.prog w = .ok (.func (.func 219) #[] #[.pointer (some ⟨ge,0,none⟩)]) w:=fun w=>run_index53 _ _ 10 _ (by omega) rfl w
        generalize mx c s 10 = u at *
        go_wp2_with (go_at_call 219; refine (cl10 HB.out h k p).mono ?_; rintro e w3 ⟨rfl,rfl⟩)
        all_goals
          go_roundw
          case rel=>exact ⟨10 + 1,by omega,by go_num,by rw [hm]; congr 1; omega,HB.out,FIN.out⟩
          case measure=>simp [iv]
    · obtain rfl:j = 11:=by omega
      go_wp2
      go_ret2
      exact ⟨rfl,FIN.out⟩
end Go.Proofs.YtgljdbabagdhlaaGreat
