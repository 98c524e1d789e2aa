/- The mmu's walk where it is done: the entry Accessed, the translation filled; no condition but those named. -/
import Derived.Test.YtgljdbabagdhlaaGreatVma
import Derived.Deep.DeepCutAuto
namespace Go.Proofs.YtgljdbabagdhlaaGreat.Pg
open P E Go.ChangeShapes Go.WideShapes Go.ChangeAt Go.RowKit
set_option linter.unusedVariables false
set_option maxRecDepth 8192
section
variable {Z:Nat→Prop} {w:World} {t c p:Nat} {h:Hw} {P:Par} {S:E.Sc × Us} {m:Nat→Option Nat}
set_option maxHeartbeats 4000000 in
theorem mwalk_ok (K : Zq Z w t c p h P S m) (O : Ok P (fun r => m r ≠ none) S) (hN : P.N * P.C ≤ h.n) (a : Int) {r pg : Nat} (hr : m r ≠ none) (hp : pg < 1048576) (wr : Bool) (hy : whyV (wd S.1.m) r pg wr = 0) :
    Calls Tryz.prog 83 #[.agg #[.pointer (some ⟨c,0,none⟩),.pointer (some ⟨t,0,none⟩),.int .i64 a,.int .i64 (r:Nat),.int .i64 (pg:Nat),.bool wr]] w fun e w'=>e = .returned (.tuple #[.agg #[.int .i64 (trV a pg (pw (wd S.1.m) r pg)).a,.int .i64 (trV a pg (pw (wd S.1.m) r pg)).p,.int .i64 (trV a pg (pw (wd S.1.m) r pg)).f,.bool (trV a pg (pw (wd S.1.m) r pg)).r,.bool (trV a pg (pw (wd S.1.m) r pg)).w,.bool (trV a pg (pw (wd S.1.m) r pg)).d],.agg #[.int .u64 0,.int .u8 0,.bool false,.bool false,.bool false]])∧Zq Z w' t c p h P (fillS h (wkS h S.1 r pg) a r pg (pw (wd S.1.m) r pg),S.2) m∧Ky Z w w':=by
  obtain ⟨Q,M0,BA,BT,BG⟩:=Mq.box3 K (acL c t a r pg wr) t0L g0L 93 67 44
  have hl:=lf_may (O.word hr pg)
  have hs:hasP (wd S.1.m) r pg = true:=why_has hy
  have hya:whyV (wd S.1.m) r pg wr = N.al (N.fb (pw (wd S.1.m) r pg) 1) (N.fb (pw (wd S.1.m) r pg) 2) (N.fb (pw (wd S.1.m) r pg) 4) (N.fb (pw (wd S.1.m) r pg) 8) wr:=rfl
  obtain ⟨b1,b2,b3,b4,b5,b6,v7,hec,hb1,hb2,hb3,hb4,hb5,hb6,hv7⟩:=ec_vals (pw (wd S.1.m) r pg)
  have hx:trV a pg (pw (wd S.1.m) r pg) = ⟨a,(pg:Nat),v7,b3,b4,b6⟩:=by unfold trV; rw [hb3,hb4,hb6,hv7]
  have HFS:Hid (∀ s:E.Sc,fillS h s a r pg (pw (wd S.1.m) r pg) = { setS s r pg (N.may b1 b2 b3 b4 true b6 v7) (N.lo b1 b2 b3 b4 true b6 + v7 * 256) with l:=T.filL h.t ⟨a,(pg:Nat),v7,b3,b4,b6⟩ (setS s r pg (N.may b1 b2 b3 b4 true b6 v7) (N.lo b1 b2 b3 b4 true b6 + v7 * 256)).l }):=fun s=>by
    unfold fillS mayA acc
    rw [hx, ← hb1, ← hb2, ← hb3, ← hb4, ← hb6, ← hv7]
  rw [← hb1, ← hb2, ← hb3, ← hb4, ← hb5, ← hb6, ← hv7] at hl
  rw [← hb1, ← hb2, ← hb3, ← hb4,hy] at hya
  have CA:Hid (∀ W,Calls Tryz.prog 117 #[.agg #[.bool b1,.bool b2,.bool b3,.bool b4,.bool b5,.bool b6,.int .i64 v7],.bool wr] W fun e w'=>e = .returned (.tuple #[.int .u8 0,.int .i64 0])∧Below W.heap.size W w'):=fun W=>by have q:=N.Allows_ok b1 b2 b3 b4 b5 b6 v7 wr hl W; rw [← hya] at q; exact q
  have CW:=walk_q M0.q O hN hr hp
  rw [hec,hs] at CW
  have CS:Hid (∀ Q' W,Zq Q' W t c p h P (wkS h S.1 r pg,S.2) m→Calls Tryz.prog 9 #[.pointer (some ⟨t,0,none⟩),.int .i64 (r:Nat),.int .i64 (pg:Nat),.agg #[.bool b1,.bool b2,.bool b3,.bool b4,.bool true,.bool b6,.int .i64 v7]] W fun e w'=>(∃ x,e = .returned (.int .i64 x))∧Zq Q' w' t c p h P (setS (wkS h S.1 r pg) r pg (N.may b1 b2 b3 b4 true b6 v7) (N.lo b1 b2 b3 b4 true b6 + v7 * 256),S.2) m∧Ky Q' W w'):=fun Q' W KW=>(set_q KW (O.m_eq (wk_m h S.1 r pg)) hN hr hp b1 b2 b3 b4 true b6 v7).mono fun e w' ⟨he,k1,k2⟩=>⟨⟨_,he⟩,k1,k2⟩
  rw [HFS.out,hx]
  obtain ⟨W0,hW0⟩:∃ W0,(((w.alloc (.cells (acL c t a r pg wr).toArray 93)).alloc (.cells t0L.toArray 67)).alloc (.cells g0L.toArray 44)) = W0:=⟨_,rfl⟩
  rw [hW0] at M0 BA BT BG CW
  have HM0:Hid (Mq Z Q w W0 t c p h P S m):=M0
  have HCW:Hid (Calls _ _ _ _ _):=CW
  have HBB:Hid (Bb Q w W0 w.heap.size 93 (acL c t a r pg wr)∧Bb Q w W0 (w.heap.size + 1) 67 t0L∧Bb Q w W0 (w.heap.size + 2) 44 g0L):=⟨BA,BT,BG⟩
  have x1:=BA.bk.cell 1
  have x3:=BA.bk.cell 3
  have x4:=BA.bk.cell 4
  simp only [acL,List.getElem?_cons_zero,List.getElem?_cons_succ] at x1 x3 x4
  simp only [acL,t0L,g0L] at hW0
  clear K O hl hec hb1 hb2 hb3 hb4 hb5 hb6 hv7 hya M0 BA BT BG CW hp hs hx HFS hy hr
  generalize ((pla (wd S.1.m) r pg:Nat):Int) = yp at *
  generalize setS (wkS h S.1 r pg) r pg (N.may b1 b2 b3 b4 true b6 v7) (N.lo b1 b2 b3 b4 true b6 + v7 * 256) = s2 at *
  generalize (wkS h S.1 r pg,S.2) = S1 at *
  generalize ((r:Nat):Int) = ri at *
  generalize ((pg:Nat):Int) = pi at *
  go_enter Tryz.func83,Tryz.ntmps83
  go_upto_region 1 with fail
  try rw [hW0]
  clear hW0
  go_wp2_with fail
  refine HCW.out.mono ?_
  rintro e w1 ⟨rfl,hK1,hy1⟩
  obtain ⟨Q1,hq1,M1,B4,l1⟩:=(HM0.out.turn hK1 hy1).box 32 [.bool b1,.bool b2,.bool b3,.bool b4,.bool b5,.bool b6,.int .i64 v7]
  have A1:=((HBB.out.1.ky hy1).below l1).wide hq1
  have T1:=((HBB.out.2.1.ky hy1).below l1).wide hq1
  have G1:=((HBB.out.2.2.ky hy1).below l1).wide hq1
  have hne:w.heap.size + 2 < w1.heap.size:=by
    have:=(HBB.out.2.2.ky hy1).bk.lt
    exact this
  obtain ⟨W1,hW1⟩:∃ W1,w1.alloc (.cells ([.bool b1,.bool b2,.bool b3,.bool b4,.bool b5,.bool b6,.int .i64 v7]:List Value).toArray 32) = W1:=⟨_,rfl⟩
  rw [hW1] at M1 B4 A1 T1 G1
  have HM1:Hid (Mq Z Q1 w W1 t c p h P S1 m):=M1
  have H1:Hid (Bb Q1 w W1 w.heap.size 93 (acL c t a ri pi wr)∧Bb Q1 w W1 (w.heap.size + 1) 67 t0L∧Bb Q1 w W1 (w.heap.size + 2) 44 g0L∧Bb Q1 w W1 w1.heap.size 32 [.bool b1,.bool b2,.bool b3,.bool b4,.bool b5,.bool b6,.int .i64 v7]):=⟨A1,T1,G1,B4⟩
  have x5:=A1.bk.cell 5
  have z0:=B4.bk.cell 0
  have z1:=B4.bk.cell 1
  have z2:=B4.bk.cell 2
  have z3:=B4.bk.cell 3
  have z4:=B4.bk.cell 4
  have z5:=B4.bk.cell 5
  have z6:=B4.bk.cell 6
  simp only [acL,List.getElem?_cons_zero,List.getElem?_cons_succ] at x5 z0 z1 z2 z3 z4 z5 z6
  clear hK1 hy1 l1 A1 T1 G1 B4 M1 HCW HBB x1 x3 x4 HM0
  go_upto_region 2 with fail
  try rw [hW1]
  clear hW1
  generalize w1.heap.size = b4x at *
  go_wp2_with fail
  refine (CA.out _).mono ?_
  rintro e w2 ⟨rfl,hb2⟩
  have M2:=HM1.out.below hb2
  have A2:=H1.out.1.below hb2
  have T2:=H1.out.2.1.below hb2
  have G2:=H1.out.2.2.1.below hb2
  have E2:=H1.out.2.2.2.below hb2
  have fz:w2.frozen? ⟨b4x,4,none⟩ = false:=E2.bk.frozen 4
  have z4':=E2.bk.cell 4
  obtain ⟨M3,E3,o3⟩:=M2.put E2 4 (.bool true)
  have A3:=o3 _ _ _ (by omega) A2
  have T3:=o3 _ _ _ (by omega) T2
  have G3:=o3 _ _ _ (by omega) G2
  obtain ⟨W3,hW3⟩:∃ W3,w2.setCell ⟨b4x,4,none⟩ (.bool true) = W3:=⟨_,rfl⟩
  rw [hW3] at M3 E3 A3 T3 G3
  simp only [List.set_cons_succ,List.set_cons_zero] at E3
  simp only [List.getElem?_cons_zero,List.getElem?_cons_succ] at z4'
  have CS3:Hid (Calls _ _ _ _ _):=CS.out Q1 W3 M3.q
  have HM3:Hid (Mq Z Q1 w W3 t c p h P S1 m):=M3
  have H3:Hid (Bb Q1 w W3 w.heap.size 93 (acL c t a ri pi wr)∧Bb Q1 w W3 (w.heap.size + 1) 67 t0L∧Bb Q1 w W3 (w.heap.size + 2) 44 g0L∧Bb Q1 w W3 b4x 32 [.bool b1,.bool b2,.bool b3,.bool b4,.bool true,.bool b6,.int .i64 v7]):=⟨A3,T3,G3,E3⟩
  clear hb2 M2 A2 T2 G2 E2 M3 E3 o3 A3 T3 G3 CA CS x5 z0 z1 z2 z3 z4 z5 z6 H1 HM1
  go_upto_region 8 with fail
  try rw [hW3]
  clear hW3 fz z4'
  have x1:=H3.out.1.bk.cell 1
  have x3:=H3.out.1.bk.cell 3
  have x4:=H3.out.1.bk.cell 4
  have z0:=H3.out.2.2.2.bk.cell 0
  have z1:=H3.out.2.2.2.bk.cell 1
  have z2:=H3.out.2.2.2.bk.cell 2
  have z3:=H3.out.2.2.2.bk.cell 3
  have z4:=H3.out.2.2.2.bk.cell 4
  have z5:=H3.out.2.2.2.bk.cell 5
  have z6:=H3.out.2.2.2.bk.cell 6
  simp only [acL,List.getElem?_cons_zero,List.getElem?_cons_succ] at x1 x3 x4 z0 z1 z2 z3 z4 z5 z6
  go_wp2_with fail
  refine CS3.out.mono ?_
  rintro e w4 ⟨⟨xe,rfl⟩,hK4,hy4⟩
  have M4:=HM3.out.turn hK4 hy4
  have A4:=H3.out.1.ky hy4
  have T4:=H3.out.2.1.ky hy4
  have G4:=H3.out.2.2.1.ky hy4
  have E4:=H3.out.2.2.2.ky hy4
  clear x1 x3 x4 z0 z1 z2 z3 z4 z5 z6
  have x2:=A4.bk.cell 2
  have x4:=A4.bk.cell 4
  have z2:=E4.bk.cell 2
  have z3:=E4.bk.cell 3
  have z5:=E4.bk.cell 5
  have z6:=E4.bk.cell 6
  simp only [acL,List.getElem?_cons_zero,List.getElem?_cons_succ] at x2 x4 z2 z3 z5 z6
  obtain ⟨Q5,hq5,M5,B5,l5⟩:=M4.box 67 [.int .i64 a,.int .i64 pi,.int .i64 v7,.bool b3,.bool b4,.bool b6]
  have A5:=(A4.below l5).wide hq5
  have T5:=(T4.below l5).wide hq5
  have G5:=(G4.below l5).wide hq5
  obtain ⟨W5,hW5⟩:∃ W5,w4.alloc (.cells ([.int .i64 a,.int .i64 pi,.int .i64 v7,.bool b3,.bool b4,.bool b6]:List Value).toArray 67) = W5:=⟨_,rfl⟩
  rw [hW5] at M5 B5 A5 T5 G5
  have hn5:w.heap.size + 2 < w4.heap.size:=G4.bk.lt
  have HM5:Hid (Mq Z Q5 w W5 t c p h P (s2,S.2) m):=M5
  have H5:Hid (Bb Q5 w W5 w.heap.size 93 (acL c t a ri pi wr)∧Bb Q5 w W5 (w.heap.size + 1) 67 t0L∧Bb Q5 w W5 (w.heap.size + 2) 44 g0L∧Bb Q5 w W5 w4.heap.size 67 [.int .i64 a,.int .i64 pi,.int .i64 v7,.bool b3,.bool b4,.bool b6]):=⟨A5,T5,G5,B5⟩
  clear hK4 hy4 l5 M4 A4 T4 G4 E4 CS3 HM3 H3 M5 A5 T5 G5 B5 S1
  go_upto_region 10 with fail
  try rw [hW5]
  clear hW5
  generalize w4.heap.size = b5x at *
  obtain ⟨pt,hpt⟩:=HM5.out.q.pt
  have hcl:=World.block_lt_of_cell? W5 _ hpt
  have CF:Hid (∀ W,Below W5.heap.size W5 W→Calls Tryz.prog 118 #[.pointer (some ⟨pt,0,none⟩),.agg #[.int .i64 a,.int .i64 pi,.int .i64 v7,.bool b3,.bool b4,.bool b6]] W fun e w'=>(∃ xf,e = .returned (.int .i64 xf))∧Zq Q5 w' t c p h P ({ s2 with l:=T.filL h.t ⟨a,pi,v7,b3,b4,b6⟩ s2.l },S.2) m∧Ky Q5 W5 w'∧w'.heap[c]? = W5.heap[c]?):=fun W b=>(fill_q (HM5.out.q.below b) ((b.cell (p:=⟨c,1,none⟩) hcl).trans hpt) ⟨a,pi,v7,b3,b4,b6⟩).mono fun e w' ⟨he,k1,k2,k3⟩=>⟨⟨_,he⟩,k1,(Ky.of_below b HM5.out.q.lt).trans k2,k3.trans (b.block c hcl)⟩
  have HCE:Hid (∀ W,Ky Q5 W5 W→W.heap[c]? = W5.heap[c]?→(W.cell? ⟨w.heap.size,0,none⟩ = some (.pointer (some ⟨c,0,none⟩))∧W.cell? ⟨c,1,none⟩ = some (.pointer (some ⟨pt,0,none⟩))∧W.cell? ⟨b5x,0,none⟩ = some (.int .i64 a)∧W.cell? ⟨b5x,1,none⟩ = some (.int .i64 pi)∧W.cell? ⟨b5x,2,none⟩ = some (.int .i64 v7)∧W.cell? ⟨b5x,3,none⟩ = some (.bool b3)∧W.cell? ⟨b5x,4,none⟩ = some (.bool b4)∧W.cell? ⟨b5x,5,none⟩ = some (.bool b6))):=fun W k e=>by
    have q:=(H5.out.2.2.2.ky k).bk
    exact ⟨(H5.out.1.ky k).bk.cell 0,(World.cell?_of_block (w:=W5) (a:=⟨c,1,none⟩) e).trans hpt,q.cell 0,q.cell 1,q.cell 2,q.cell 3,q.cell 4,q.cell 5⟩
  have HKD:Hid (Ky Q5 W5 W5.drew∧W5.drew.heap[c]? = W5.heap[c]?):=⟨Ky.of_below (Below.refl _ _).drew HM5.out.q.lt,rfl⟩
  clear hcl hpt
  go_region_held3 (fun W=>W.cell? ⟨w.heap.size,0,none⟩ = some (.pointer (some ⟨c,0,none⟩))∧W.cell? ⟨c,1,none⟩ = some (.pointer (some ⟨pt,0,none⟩))∧W.cell? ⟨b5x,0,none⟩ = some (.int .i64 a)∧W.cell? ⟨b5x,1,none⟩ = some (.int .i64 pi)∧W.cell? ⟨b5x,2,none⟩ = some (.int .i64 v7)∧W.cell? ⟨b5x,3,none⟩ = some (.bool b3)∧W.cell? ⟨b5x,4,none⟩ = some (.bool b4)∧W.cell? ⟨b5x,5,none⟩ = some (.bool b6))
    (first | (refine HCE.out _ ?_ ?_ <;> first | with_reducible exact HKD.out.1 | with_reducible exact HKD.out.2 | with_reducible exact HK6.out.1 | with_reducible exact HK6.out.2))
    (first
      | (go_at_call 118; refine (CF.out _ (by first | exact (Below.refl _ _).drew | exact Below.refl _ _)).mono ?_; rintro e w6 ⟨⟨xf,rfl⟩,hK6,hy6,hc6⟩; have HK6:Hid (Ky Q5 W5 w6∧w6.heap[c]? = W5.heap[c]?):=⟨hy6,hc6⟩; have HZ6:Hid (Zq Q5 w6 t c p h P ({ s2 with l:=T.filL h.t ⟨a,pi,v7,b3,b4,b6⟩ s2.l },S.2) m):=hK6; clear hK6 hy6 hc6))
  have M6:=HM5.out.turn HZ6.out HK6.out.1
  have T6:=H5.out.2.1.ky HK6.out.1
  have G6:=H5.out.2.2.1.ky HK6.out.1
  have HRG:Hid _:=(H5.out.2.2.2.ky HK6.out.1).bk.range
  obtain ⟨AT,HAT⟩:∃ AT:Array Value,Hid (AT = #[.int .i64 a,.int .i64 pi,.int .i64 v7,.bool b3,.bool b4,.bool b6]):=⟨_,rfl⟩
  obtain ⟨AG,HAG⟩:∃ AG:Array Value,Hid (AG = #[.int .u64 0,.int .u8 0,.bool false,.bool false,.bool false]):=⟨_,rfl⟩
  obtain ⟨tx,M7,T7,o7⟩:=M6.set T6 AT (by rw [HAT.out]; rfl)
  have G7:=o7 _ _ _ (by omega) G6
  obtain ⟨tg,M8,G8,o8⟩:=M7.set G7 AG (by rw [HAG.out]; rfl)
  have T8:=o8 _ _ _ (by omega) T7
  have HF:Hid _:=M8.fin
  have HTX:Hid _:=tx
  have HTG:Hid _:=tg
  have HR:Hid (_∧_):=(⟨T8.bk,G8.bk⟩:_∧_)
  clear M6 T6 G6 M7 T7 o7 G7 M8 G8 o8 T8 tx tg HM5 H5 HK6 HZ6 CF HCE HKD
  go_wp2_with (first
    | (refine wpList_load_mid rfl 67 (.tmp 10) rfl _ 0 rfl _ _ HRG.out Tryz.underlying67 rfl Tryz.sizeT ?_)
    | (refine wpList_store_mid rfl 67 (.tmp 2) (.tmp 68) rfl _ 0 AT rfl (congrArg Value.agg HAT.out.symm) HTX.out (by rw [HAT.out]; exact Tryz.sizeT) (by rw [HAT.out]; exact oneT ⟨a,pi,v7,b3,b4,b6⟩) ?_)
    | (refine wpList_store_mid rfl 44 (.tmp 3) (.tmp 69) rfl _ 0 AG rfl (congrArg Value.agg HAG.out.symm) HTG.out (by rw [HAG.out]; exact Tryz.sizeG) (by rw [HAG.out]; exact one5 _ _ _ _) ?_))
  exact bodyPost_ret (v:=.tuple #[.agg AT,.agg AG]) (res_tg rfl (by rw [HAT.out]; rfl) (by rw [HAG.out]; rfl) rfl rfl HR.out.1 HR.out.2) rfl ⟨by rw [HAT.out,HAG.out],HF.out⟩
end
end Go.Proofs.YtgljdbabagdhlaaGreat.Pg
namespace Go.Proofs.YtgljdbabagdhlaaGreat.Pg
open P E Go.ChangeShapes Go.WideShapes Go.ChangeAt Go.RowKit
set_option linter.unusedVariables false
set_option linter.unusedSimpArgs false
set_option maxRecDepth 100000
section
variable {Z:Nat→Prop} {w:World} {t c p:Nat} {h:Hw} {P:Par} {S:E.Sc × Us} {m:Nat→Option Nat}
theorem mwalk_q (K : Zq Z w t c p h P S m) (O : Ok P (fun r => m r ≠ none) S) (hN : P.N * P.C ≤ h.n) (a : Int) {r pg : Nat} (hr : m r ≠ none) (hp : pg < 1048576) (wr : Bool) :
    Calls Tryz.prog 83 #[.agg #[.pointer (some ⟨c,0,none⟩),.pointer (some ⟨t,0,none⟩),.int .i64 a,.int .i64 (r:Nat),.int .i64 (pg:Nat),.bool wr]] w fun e w'=>e = .returned (.tuple #[.agg #[.int .i64 (walkS h S.1 a r pg wr).2.1.a,.int .i64 (walkS h S.1 a r pg wr).2.1.p,.int .i64 (walkS h S.1 a r pg wr).2.1.f,.bool (walkS h S.1 a r pg wr).2.1.r,.bool (walkS h S.1 a r pg wr).2.1.w,.bool (walkS h S.1 a r pg wr).2.1.d],.agg #[.int .u64 0,.int .u8 (walkS h S.1 a r pg wr).2.2,.bool false,.bool false,.bool false]])∧Zq Z w' t c p h P ((walkS h S.1 a r pg wr).1,S.2) m∧Ky Z w w':=by
  by_cases hy:whyV (wd S.1.m) r pg wr = 0
  · rw [show walkS h S.1 a r pg wr = (fillS h (wkS h S.1 r pg) a r pg (pw (wd S.1.m) r pg),trV a pg (pw (wd S.1.m) r pg),0) by unfold walkS; rw [if_pos hy]]
    exact mwalk_ok K O hN a hr hp wr hy
  · rw [show walkS h S.1 a r pg wr = (wkS h S.1 r pg,T.z0,whyV (wd S.1.m) r pg wr) by unfold walkS; rw [if_neg hy]]
    exact mwalk_no K O hN a hr hp wr hy
structure Fm (Z Q:Nat→Prop) (w0 W0:World) (t c p:Nat) (h:Hw) (P:Par) (S:E.Sc × Us) (m:Nat→Option Nat) (l:List Value) (wx:World) (b:Nat) (Q5:Nat→Prop):Prop where
  mq:Mq Z Q5 w0 wx t c p h P S m
  sub:∀ k,Q k→Q5 k
  bb:Bb Q5 w0 wx b 67 l
  ky:Ky Q W0 wx
  hc:wx.heap[c]? = W0.heap[c]?
theorem fm_new {Q Qa:Nat→Prop} {w0 W0 wl:World} {S' : E.Sc × Us} (l:List Value) (M:Mq Z Q w0 W0 t c p h P S m) (hs:∀ k,Q k→Qa k) (K:Zq Qa wl t c p h P S' m) (k:Ky Q W0 wl) (hc:wl.heap[c]? = W0.heap[c]?) (hl:c < wl.heap.size):∃ Q5,Fm Z Q w0 W0 t c p h P S' m l (wl.alloc (.cells l.toArray 67)) wl.heap.size Q5:=by
  have hb:Below wl.heap.size wl (wl.alloc (.cells l.toArray 67)):=(Below.refl _ _).alloc (Nat.le_refl _) _
  have kk:Ky Q W0 (wl.alloc (.cells l.toArray 67)):=k.trans (Ky.of_below hb (fun i hi=>K.lt i (hs i hi)))
  exact ⟨fun i=>Qa i ∨ i = wl.heap.size,⟨K.box _,fun i hi=>Or.inl (hs i (M.zq i hi)),M.lo,M.ky.trans (kk.less M.zq)⟩,fun i hi=>Or.inl (hs i hi),⟨C.blk_new wl _ _,Or.inr rfl,Nat.le_trans M.ky.size k.size⟩,kk,(hb.block c hl).trans hc⟩
theorem fm_set {Q Qa : Nat → Prop} {w0 W0 wl : World} {S' : E.Sc × Us} (v0 v1 v2 v3 v4 v5 : Value) (M : Mq Z Q w0 W0 t c p h P S m) (hs : ∀ k, Q k → Qa k) (K : Zq Qa wl t c p h P S' m) (k : Ky Q W0 wl) (hc : wl.heap[c]? = W0.heap[c]?) {b : Nat} (hg : Qa b) (hn : ¬ Q b) (hcb : c ≠ b) (hlc : c < wl.heap.size) (hlo : w0.heap.size ≤ b) {u0 u1 u2 u3 u4 u5 : Value} (X : C.Blk wl b 67 [u0, u1, u2, u3, u4, u5]) :
    ∃ Q5,Fm Z Q w0 W0 t c p h P S' m [v0,v1,v2,v3,v4,v5] ((((((wl.setCell ⟨b,0,none⟩ v0).setCell ⟨b,1,none⟩ v1).setCell ⟨b,2,none⟩ v2).setCell ⟨b,3,none⟩ v3).setCell ⟨b,4,none⟩ v4).setCell ⟨b,5,none⟩ v5) b Q5:=by
  have gr:=((((((C.grown_setCell' wl b 0 v0).trans (C.grown_setCell' _ b 1 v1)).trans (C.grown_setCell' _ b 2 v2)).trans (C.grown_setCell' _ b 3 v3)).trans (C.grown_setCell' _ b 4 v4)).trans (C.grown_setCell' _ b 5 v5))
  have kk:=k.wrote (fun i hi=>K.lt i (hs i hi)) hn gr
  exact ⟨Qa,⟨K.wrote hg gr,fun i hi=>hs i (M.zq i hi),M.lo,M.ky.trans (kk.less M.zq)⟩,hs,⟨(((((X.set 0 v0).set 1 v1).set 2 v2).set 3 v3).set 4 v4).set 5 v5,hg,hlo⟩,kk,(gr.block c hlc (C.some_ne hcb)).trans hc⟩
theorem wpList_load_wm {P : Program} {w : World} {ops : Array Oper} {rest : List Oper} {o : Oper} {a : Act} {Q : Exit → Act → World → Prop} (hw : Region.wanted o (yielded ops a.tmps) = true) (t : TypeId) (x : Operand)
    (ho:o.op = .load t x) (u v:Value) (hx:a.eval x = u) (hrun:(Instr.loadAt t u).run P w = .ok v w) (h:wpList P ops Q rest (a.put o.dst v) w):wpList P ops Q (o :: rest) a w:=by
  unfold wpList
  rw [if_pos hw]
  left
  unfold Oper.wp
  simp [execOp,ho,hx,hrun,Result.andThen]
  exact h
theorem ld_ac {W:World} {b:Nat} {a r pg:Int} {wr:Bool} (h:C.Blk W b 93 (acL c t a r pg wr)):(Instr.loadAt 93 (.pointer (some ⟨b,0,none⟩))).run Tryz.prog W = .ok (.agg #[.pointer (some ⟨c,0,none⟩),.pointer (some ⟨t,0,none⟩),.int .i64 a,.int .i64 r,.int .i64 pg,.bool wr]) W:=by
  have c0:=h.cell 0
  have c1:=h.cell 1
  have c2:=h.cell 2
  have c3:=h.cell 3
  have c4:=h.cell 4
  have c5:=h.cell 5
  simp only [acL,List.getElem?_cons_zero,List.getElem?_cons_succ] at c0 c1 c2 c3 c4 c5
  clear h
  simp [go_sem, *]
theorem ld_tr {W:World} {b:Nat} {x1 x2 x3:Int} {x4 x5 x6:Bool} (h:C.Blk W b 67 [.int .i64 x1,.int .i64 x2,.int .i64 x3,.bool x4,.bool x5,.bool x6]):(Instr.loadAt 67 (.pointer (some ⟨b,0,none⟩))).run Tryz.prog W = .ok (.agg #[.int .i64 x1,.int .i64 x2,.int .i64 x3,.bool x4,.bool x5,.bool x6]) W:=by
  have c0:=h.cell 0
  have c1:=h.cell 1
  have c2:=h.cell 2
  have c3:=h.cell 3
  have c4:=h.cell 4
  have c5:=h.cell 5
  simp only [List.getElem?_cons_zero,List.getElem?_cons_succ] at c0 c1 c2 c3 c4 c5
  clear h
  simp [go_sem, *]
set_option maxHeartbeats 4000000 in
theorem mlook_hit (K : Zq Z w t c p h P S m) (O : Ok P (fun r => m r ≠ none) S) (hN : P.N * P.C ≤ h.n) (a : Int) {r pg : Nat} (hr : m r ≠ none) (hp : pg < 1048576) (wr : Bool) (hy : ((T.pk a pg S.1.l).2.1 && alw wr (T.pk a pg S.1.l).1) = true) :
    Calls Tryz.prog 39 #[.agg #[.pointer (some ⟨c,0,none⟩),.pointer (some ⟨t,0,none⟩),.int .i64 a,.int .i64 (r:Nat),.int .i64 (pg:Nat),.bool wr]] w fun e w'=>e = .returned (.tuple #[.agg #[.int .i64 (T.pk a pg S.1.l).1.a,.int .i64 (T.pk a pg S.1.l).1.p,.int .i64 (T.pk a pg S.1.l).1.f,.bool (T.pk a pg S.1.l).1.r,.bool (T.pk a pg S.1.l).1.w,.bool (T.pk a pg S.1.l).1.d],.agg #[.int .u64 0,.int .u8 0,.bool true,.bool false,.bool false]])∧Zq Z w' t c p h P ({ S.1 with l:=T.fd a pg S.1.l },S.2) m∧Ky Z w w':=by
  obtain ⟨Q,M0,BA,BT,BG⟩:=Mq.box3 K (acL c t a r pg wr) t0L g0L 93 67 44
  obtain ⟨W0,hW0⟩:∃ W0,(((w.alloc (.cells (acL c t a r pg wr).toArray 93)).alloc (.cells t0L.toArray 67)).alloc (.cells g0L.toArray 44)) = W0:=⟨_,rfl⟩
  rw [hW0] at M0 BA BT BG
  have HM0:Hid (Mq Z Q w W0 t c p h P S m):=M0
  have HBB:Hid (Bb Q w W0 w.heap.size 93 (acL c t a r pg wr)∧Bb Q w W0 (w.heap.size + 1) 67 t0L∧Bb Q w W0 (w.heap.size + 2) 44 g0L):=⟨BA,BT,BG⟩
  simp only [acL,t0L,g0L] at hW0
  obtain ⟨x1,x2,x3,x4,x5,x6,yb,er,hpk⟩:∃ x1 x2 x3 x4 x5 x6 yb er,T.pk a pg S.1.l = (⟨x1,x2,x3,x4,x5,x6⟩,yb,er):=⟨_,_,_,_,_,_,_,_,rfl⟩
  rw [hpk] at hy
  have hyb:yb = true:=by
    cases yb with
    | true=>rfl
    | false=>simp at hy
  subst hyb
  have hya:alw wr ⟨x1,x2,x3,x4,x5,x6⟩ = true:=by simpa using hy
  obtain ⟨pt,hpt⟩:=HM0.out.q.pt
  have hcl:=World.block_lt_of_cell? W0 _ hpt
  obtain ⟨S1,hS1⟩:∃ S1:E.Sc × Us,({ S.1 with l:=T.fd a pg S.1.l },S.2) = S1:=⟨_,rfl⟩
  have HPG:Hid (∀ W,Below W0.heap.size W0 W→Calls Tryz.prog 81 #[.pointer (some ⟨pt,0,none⟩),.int .i64 a,.int .i64 (pg:Nat)] W fun e w'=>e = .returned (.tuple #[.agg #[.int .i64 x1,.int .i64 x2,.int .i64 x3,.bool x4,.bool x5,.bool x6],.bool true,.int .i64 er])∧Zq (fun k=>Q k ∨ (W0.heap.size ≤ k∧k < W.heap.size)) w' t c p h P S1 m∧Ky Q W0 w'∧Ky (fun k=>Q k ∨ (W0.heap.size ≤ k∧k < W.heap.size)) W w'∧w'.heap[c]? = W0.heap[c]?∧c < w'.heap.size):=fun W b=>by
    rw [show (.tuple #[.agg #[.int .i64 x1,.int .i64 x2,.int .i64 x3,.bool x4,.bool x5,.bool x6],.bool true,.int .i64 er]:Value) = .tuple #[.agg #[.int .i64 (T.pk a pg S.1.l).1.a,.int .i64 (T.pk a pg S.1.l).1.p,.int .i64 (T.pk a pg S.1.l).1.f,.bool (T.pk a pg S.1.l).1.r,.bool (T.pk a pg S.1.l).1.w,.bool (T.pk a pg S.1.l).1.d],.bool (T.pk a pg S.1.l).2.1,.int .i64 (T.pk a pg S.1.l).2.2] by rw [hpk], ← hS1]
    exact (find_q (HM0.out.q.more b (fun _ z=>z)) ((b.cell (p:=⟨c,1,none⟩) hcl).trans hpt) a pg).mono fun e w' ⟨he,k1,k2,k3⟩=>⟨he,k1,(Ky.of_below b HM0.out.q.lt).trans (k2.less (fun _=>Or.inl)),k2,k3.trans (b.block c hcl),Nat.lt_of_lt_of_le (Nat.lt_of_lt_of_le hcl b.size) k2.size⟩
  rw [hpk,hS1]
  simp only
  clear hpk hS1 hy K O M0 BA BT BG hr
  generalize ((r:Nat):Int) = ri at *
  generalize ((pg:Nat):Int) = pi at *
  have HCE:Hid (∀ W,Ky Q W0 W→W.heap[c]? = W0.heap[c]?→(W.cell? ⟨w.heap.size,0,none⟩ = some (.pointer (some ⟨c,0,none⟩))∧W.cell? ⟨c,1,none⟩ = some (.pointer (some ⟨pt,0,none⟩))∧W.cell? ⟨w.heap.size,2,none⟩ = some (.int .i64 a)∧W.cell? ⟨w.heap.size,4,none⟩ = some (.int .i64 pi))):=fun W k e=>by
    have q:=(HBB.out.1.ky k).bk
    exact ⟨q.cell 0,(World.cell?_of_block (w:=W0) (a:=⟨c,1,none⟩) e).trans hpt,q.cell 2,q.cell 4⟩
  have HDW:Hid (Below W0.heap.size W0 W0.drew):=(Below.refl _ _).drew
  have HAL:Hid (Below W0.heap.size W0 (W0.alloc (Obj.cells #[.int .i64 0,.int .i64 0,.int .i64 0,.bool false,.bool false,.bool false] 67)).drew):=((Below.refl _ _).alloc (Nat.le_refl _) _).drew
  have HKD:Hid (Ky Q W0 W0.drew∧W0.drew.heap[c]? = W0.heap[c]?):=⟨Ky.of_below HDW.out HM0.out.q.lt,rfl⟩
  have HKL:Hid (Ky Q W0 (W0.alloc (Obj.cells #[.int .i64 0,.int .i64 0,.int .i64 0,.bool false,.bool false,.bool false] 67)).drew∧(W0.alloc (Obj.cells #[.int .i64 0,.int .i64 0,.int .i64 0,.bool false,.bool false,.bool false] 67)).drew.heap[c]? = W0.heap[c]?):=⟨Ky.of_below HAL.out HM0.out.q.lt,HAL.out.block c hcl⟩
  have HNZ:Hid (¬ Q W0.heap.size):=fun z=>Nat.lt_irrefl _ (HM0.out.q.lt _ z)
  have HXB:Hid (C.Blk (W0.alloc (Obj.cells #[.int .i64 0,.int .i64 0,.int .i64 0,.bool false,.bool false,.bool false] 67)).drew W0.heap.size 67 [.int .i64 0,.int .i64 0,.int .i64 0,.bool false,.bool false,.bool false]):=C.blk_new W0 _ _
  have HCN:Hid (c ≠ W0.heap.size∧w.heap.size ≤ W0.heap.size):=⟨Nat.ne_of_lt hcl,HM0.out.ky.size⟩
  clear hpt hcl
  go_enter Tryz.func39,Tryz.ntmps39
  go_upto_region 1 with fail
  try rw [hW0]
  clear hW0
  go_cut [4,5,6] from 8 to 20 (fun ta7 ta8 ta9 wx=>∃ b5 Q5,ta7 = .pointer (some ⟨b5,0,none⟩)∧ta8 = .bool true∧ta9 = .int .i64 er∧Fm Z Q w W0 t c p h P S1 m [.int .i64 x1,.int .i64 x2,.int .i64 x3,.bool x4,.bool x5,.bool x6] wx b5 Q5)
  case first=>
    go_region_held3 (fun W=>W.cell? ⟨w.heap.size,0,none⟩ = some (.pointer (some ⟨c,0,none⟩))∧W.cell? ⟨c,1,none⟩ = some (.pointer (some ⟨pt,0,none⟩))∧W.cell? ⟨w.heap.size,2,none⟩ = some (.int .i64 a)∧W.cell? ⟨w.heap.size,4,none⟩ = some (.int .i64 pi))
      (first | (refine HCE.out _ ?_ ?_ <;> first | with_reducible exact HKD.out.1 | with_reducible exact HKD.out.2 | with_reducible exact HKL.out.1 | with_reducible exact HKL.out.2 | with_reducible exact HK1.out.1 | with_reducible exact HK1.out.2 | with_reducible exact HA1.out.1 | with_reducible exact HA1.out.2 | with_reducible exact HA2.out.1 | with_reducible exact HA2.out.2 | with_reducible exact HS6.out.1 | with_reducible exact HS6.out.2))
      (first
        | (go_at_call 81; refine (HPG.out _ (by first | with_reducible exact HDW.out | with_reducible exact HAL.out)).mono ?_; rintro e wl ⟨rfl,hB1,hK1,hK2,hc1,hl1⟩; have HK1:Hid (Ky Q W0 wl∧wl.heap[c]? = W0.heap[c]?):=⟨hK1,hc1⟩; have HA1:Hid (Ky Q W0 (wl.alloc (Obj.cells #[.int .i64 0,.int .i64 0,.int .i64 0,.bool false,.bool false,.bool false] 67))∧(wl.alloc (Obj.cells #[.int .i64 0,.int .i64 0,.int .i64 0,.bool false,.bool false,.bool false] 67)).heap[c]? = W0.heap[c]?):=⟨hK1.trans (Ky.of_below ((Below.refl _ _).alloc (Nat.le_refl _) _) (fun k hk=>hB1.lt k (Or.inl hk))),(heap_alloc_old _ _ hl1).trans hc1⟩; obtain ⟨Qx,hFA⟩:=fm_new [.int .i64 x1,.int .i64 x2,.int .i64 x3,.bool x4,.bool x5,.bool x6] HM0.out (fun _ h=>Or.inl h) hB1 hK1 hc1 hl1; have HFA:Hid (∃ Qz,Fm Z Q w W0 t c p h P S1 m [.int .i64 x1,.int .i64 x2,.int .i64 x3,.bool x4,.bool x5,.bool x6] (wl.alloc (Obj.cells #[.int .i64 x1,.int .i64 x2,.int .i64 x3,.bool x4,.bool x5,.bool x6] 67)) wl.heap.size Qz):=⟨Qx,hFA⟩; have HA2:Hid (Ky Q W0 (wl.alloc (Obj.cells #[.int .i64 x1,.int .i64 x2,.int .i64 x3,.bool x4,.bool x5,.bool x6] 67))∧(wl.alloc (Obj.cells #[.int .i64 x1,.int .i64 x2,.int .i64 x3,.bool x4,.bool x5,.bool x6] 67)).heap[c]? = W0.heap[c]?):=⟨hFA.ky,hFA.hc⟩; clear hFA; (try (have X5:=HXB.out.of_eq (hK2.block W0.heap.size (Or.inr ⟨Nat.le_refl _,by simp⟩)); obtain ⟨Qy,hFB⟩:=fm_set (.int .i64 x1) (.int .i64 x2) (.int .i64 x3) (.bool x4) (.bool x5) (.bool x6) HM0.out (fun _ h=>Or.inl h) hB1 hK1 hc1 (Or.inr ⟨Nat.le_refl _,by simp⟩) HNZ.out HCN.out.1 hl1 HCN.out.2 X5; have HFB:Hid (∃ Qz,Fm Z Q w W0 t c p h P S1 m [.int .i64 x1,.int .i64 x2,.int .i64 x3,.bool x4,.bool x5,.bool x6] ((((((wl.setCell ⟨W0.heap.size,0,none⟩ (.int .i64 x1)).setCell ⟨W0.heap.size,1,none⟩ (.int .i64 x2)).setCell ⟨W0.heap.size,2,none⟩ (.int .i64 x3)).setCell ⟨W0.heap.size,3,none⟩ (.bool x4)).setCell ⟨W0.heap.size,4,none⟩ (.bool x5)).setCell ⟨W0.heap.size,5,none⟩ (.bool x6)) W0.heap.size Qz):=⟨Qy,hFB⟩; have HS6:Hid (Ky Q W0 ((((((wl.setCell ⟨W0.heap.size,0,none⟩ (.int .i64 x1)).setCell ⟨W0.heap.size,1,none⟩ (.int .i64 x2)).setCell ⟨W0.heap.size,2,none⟩ (.int .i64 x3)).setCell ⟨W0.heap.size,3,none⟩ (.bool x4)).setCell ⟨W0.heap.size,4,none⟩ (.bool x5)).setCell ⟨W0.heap.size,5,none⟩ (.bool x6))∧((((((wl.setCell ⟨W0.heap.size,0,none⟩ (.int .i64 x1)).setCell ⟨W0.heap.size,1,none⟩ (.int .i64 x2)).setCell ⟨W0.heap.size,2,none⟩ (.int .i64 x3)).setCell ⟨W0.heap.size,3,none⟩ (.bool x4)).setCell ⟨W0.heap.size,4,none⟩ (.bool x5)).setCell ⟨W0.heap.size,5,none⟩ (.bool x6)).heap[c]? = W0.heap[c]?):=⟨hFB.ky,hFB.hc⟩; have c0:=X5.cell 0; have c1:=X5.cell 1; have c2:=X5.cell 2; have c3:=X5.cell 3; have c4:=X5.cell 4; have c5:=X5.cell 5; simp only [List.getElem?_cons_zero,List.getElem?_cons_succ] at c0 c1 c2 c3 c4 c5; have f0:=X5.frozen 0; have f1:=X5.frozen 1; have f2:=X5.frozen 2; have f3:=X5.frozen 3; have f4:=X5.frozen 4; have f5:=X5.frozen 5; clear X5 hFB)); clear hB1 hK1 hK2 hc1 hl1))
    all_goals
      go_wp2_with fail
      go_meet
      case rel=>
        first
          | (obtain ⟨Qz,hF⟩:=HFB.out; with_reducible exact ⟨_,Qz,rfl,rfl,rfl,hF⟩)
          | (obtain ⟨Qz,hF⟩:=HFA.out; with_reducible exact ⟨_,Qz,rfl,rfl,rfl,hF⟩)
  case rest=>
    obtain ⟨b5,Q5,rfl,rfl,rfl,hF⟩:=hcut
    have HF5:Hid (Fm Z Q w W0 t c p h P S1 m [.int .i64 x1,.int .i64 x2,.int .i64 x3,.bool x4,.bool x5,.bool x6] wc b5 Q5):=hF
    have A5:=(HBB.out.1.ky hF.ky).wide hF.sub
    have T5:=(HBB.out.2.1.ky hF.ky).wide hF.sub
    have G5:=(HBB.out.2.2.ky hF.ky).wide hF.sub
    have H5:Hid (Bb Q5 w wc w.heap.size 93 (acL c t a ri pi wr)∧Bb Q5 w wc (w.heap.size + 1) 67 t0L∧Bb Q5 w wc (w.heap.size + 2) 44 g0L∧Bb Q5 w wc b5 67 [.int .i64 x1,.int .i64 x2,.int .i64 x3,.bool x4,.bool x5,.bool x6]):=⟨A5,T5,G5,hF.bb⟩
    have HM5:Hid (Mq Z Q5 w wc t c p h P S1 m):=hF.mq
    have hla:(Instr.loadAt 93 (.pointer (some ⟨w.heap.size,0,none⟩))).run Tryz.prog wc = _:=ld_ac A5.bk
    have hlt:(Instr.loadAt 67 (.pointer (some ⟨b5,0,none⟩))).run Tryz.prog wc = _:=ld_tr hF.bb.bk
    have CAL:Hid (Calls _ _ _ _ _):=allowed_any c t a ri pi wr ⟨x1,x2,x3,x4,x5,x6⟩ wc
    clear hF A5 T5 G5 HPG HCE HDW HAL HKD HKL HNZ HXB HCN HBB HM0 HF5
    rw [hya] at CAL
    clear hya
    go_wp2_with (first
      | (refine wpList_load_wm rfl 93 (.tmp 1) rfl _ _ rfl hla ?_)
      | (refine wpList_load_wm rfl 67 (.tmp 4) rfl _ _ rfl hlt ?_)
      | (go_at_call 82; refine CAL.out.mono ?_; rintro e w2 ⟨rfl,hb2⟩; have M2:=HM5.out.below hb2; have T2:=H5.out.2.1.below hb2; have G2:=H5.out.2.2.1.below hb2; have hlt2:(Instr.loadAt 67 (.pointer (some ⟨b5,0,none⟩))).run Tryz.prog w2 = _:=ld_tr (H5.out.2.2.2.below hb2).bk; obtain ⟨AT,HAT⟩:∃ AT:Array Value,Hid (AT = #[.int .i64 x1,.int .i64 x2,.int .i64 x3,.bool x4,.bool x5,.bool x6]):=⟨_,rfl⟩; obtain ⟨AG,HAG⟩:∃ AG:Array Value,Hid (AG = #[.int .u64 0,.int .u8 0,.bool true,.bool false,.bool false]):=⟨_,rfl⟩; obtain ⟨tx,M3,T3,o3⟩:=M2.set T2 AT (by rw [HAT.out]; rfl); have G3:=o3 _ _ _ (by omega) G2; obtain ⟨tg,M4,G4,o4⟩:=M3.set G3 AG (by rw [HAG.out]; rfl); have T4:=o4 _ _ _ (by omega) T3; have HF:Hid _:=M4.fin; have HTX:Hid _:=tx; have HTG:Hid _:=tg; have HR:Hid (_∧_):=(⟨T4.bk,G4.bk⟩:_∧_); clear hb2 M2 T2 G2 M3 T3 o3 G3 M4 G4 o4 T4 tx tg)
      | (refine wpList_load_wm rfl 67 (.tmp 4) rfl _ _ rfl hlt2 ?_)
      | (refine wpList_store_mid rfl 67 (.tmp 2) (.tmp 27) rfl _ 0 AT rfl (congrArg Value.agg HAT.out.symm) HTX.out (by rw [HAT.out]; exact Tryz.sizeT) (by rw [HAT.out]; exact oneT ⟨x1,x2,x3,x4,x5,x6⟩) ?_)
      | (refine wpList_store_mid rfl 44 (.tmp 3) (.tmp 28) rfl _ 0 AG rfl (congrArg Value.agg HAG.out.symm) HTG.out (by rw [HAG.out]; exact Tryz.sizeG) (by rw [HAG.out]; exact one5 _ _ _ _) ?_))
    exact bodyPost_ret (v:=.tuple #[.agg AT,.agg AG]) (res_tg rfl (by rw [HAT.out]; rfl) (by rw [HAG.out]; rfl) rfl rfl HR.out.1 HR.out.2) rfl ⟨by rw [HAT.out,HAG.out],HF.out⟩
set_option maxHeartbeats 4000000 in
theorem mlook_miss (K : Zq Z w t c p h P S m) (O : Ok P (fun r => m r ≠ none) S) (hN : P.N * P.C ≤ h.n) (a : Int) {r pg : Nat} (hr : m r ≠ none) (hp : pg < 1048576) (wr : Bool) (hy : ((T.pk a pg S.1.l).2.1 && alw wr (T.pk a pg S.1.l).1) = false) :
    Calls Tryz.prog 39 #[.agg #[.pointer (some ⟨c,0,none⟩),.pointer (some ⟨t,0,none⟩),.int .i64 a,.int .i64 (r:Nat),.int .i64 (pg:Nat),.bool wr]] w fun e w'=>e = .returned (.tuple #[.agg #[.int .i64 (walkS h ({ S.1 with l:=T.rmL a pg (T.fd a pg S.1.l) }:E.Sc) a r pg wr).2.1.a,.int .i64 (walkS h ({ S.1 with l:=T.rmL a pg (T.fd a pg S.1.l) }:E.Sc) a r pg wr).2.1.p,.int .i64 (walkS h ({ S.1 with l:=T.rmL a pg (T.fd a pg S.1.l) }:E.Sc) a r pg wr).2.1.f,.bool (walkS h ({ S.1 with l:=T.rmL a pg (T.fd a pg S.1.l) }:E.Sc) a r pg wr).2.1.r,.bool (walkS h ({ S.1 with l:=T.rmL a pg (T.fd a pg S.1.l) }:E.Sc) a r pg wr).2.1.w,.bool (walkS h ({ S.1 with l:=T.rmL a pg (T.fd a pg S.1.l) }:E.Sc) a r pg wr).2.1.d],.agg #[.int .u64 0,.int .u8 (walkS h ({ S.1 with l:=T.rmL a pg (T.fd a pg S.1.l) }:E.Sc) a r pg wr).2.2,.bool false,.bool false,.bool false]])∧Zq Z w' t c p h P ((walkS h ({ S.1 with l:=T.rmL a pg (T.fd a pg S.1.l) }:E.Sc) a r pg wr).1,S.2) m∧Ky Z w w':=by
  obtain ⟨Q,M0,BA,BT,BG⟩:=Mq.box3 K (acL c t a r pg wr) t0L g0L 93 67 44
  obtain ⟨W0,hW0⟩:∃ W0,(((w.alloc (.cells (acL c t a r pg wr).toArray 93)).alloc (.cells t0L.toArray 67)).alloc (.cells g0L.toArray 44)) = W0:=⟨_,rfl⟩
  rw [hW0] at M0 BA BT BG
  have HM0:Hid (Mq Z Q w W0 t c p h P S m):=M0
  have HBB:Hid (Bb Q w W0 w.heap.size 93 (acL c t a r pg wr)∧Bb Q w W0 (w.heap.size + 1) 67 t0L∧Bb Q w W0 (w.heap.size + 2) 44 g0L):=⟨BA,BT,BG⟩
  simp only [acL,t0L,g0L] at hW0
  obtain ⟨x1,x2,x3,x4,x5,x6,yb,er,hpk⟩:∃ x1 x2 x3 x4 x5 x6 yb er,T.pk a pg S.1.l = (⟨x1,x2,x3,x4,x5,x6⟩,yb,er):=⟨_,_,_,_,_,_,_,_,rfl⟩
  rw [hpk] at hy
  have hya:(yb && alw wr ⟨x1,x2,x3,x4,x5,x6⟩) = false:=hy
  obtain ⟨pt,hpt⟩:=HM0.out.q.pt
  have hcl:=World.block_lt_of_cell? W0 _ hpt
  obtain ⟨S1,hS1⟩:∃ S1:E.Sc × Us,({ S.1 with l:=T.fd a pg S.1.l },S.2) = S1:=⟨_,rfl⟩
  have HPG:Hid (∀ W,Below W0.heap.size W0 W→Calls Tryz.prog 81 #[.pointer (some ⟨pt,0,none⟩),.int .i64 a,.int .i64 (pg:Nat)] W fun e w'=>e = .returned (.tuple #[.agg #[.int .i64 x1,.int .i64 x2,.int .i64 x3,.bool x4,.bool x5,.bool x6],.bool yb,.int .i64 er])∧Zq (fun k=>Q k ∨ (W0.heap.size ≤ k∧k < W.heap.size)) w' t c p h P S1 m∧Ky Q W0 w'∧Ky (fun k=>Q k ∨ (W0.heap.size ≤ k∧k < W.heap.size)) W w'∧w'.heap[c]? = W0.heap[c]?∧c < w'.heap.size):=fun W b=>by
    rw [show (.tuple #[.agg #[.int .i64 x1,.int .i64 x2,.int .i64 x3,.bool x4,.bool x5,.bool x6],.bool yb,.int .i64 er]:Value) = .tuple #[.agg #[.int .i64 (T.pk a pg S.1.l).1.a,.int .i64 (T.pk a pg S.1.l).1.p,.int .i64 (T.pk a pg S.1.l).1.f,.bool (T.pk a pg S.1.l).1.r,.bool (T.pk a pg S.1.l).1.w,.bool (T.pk a pg S.1.l).1.d],.bool (T.pk a pg S.1.l).2.1,.int .i64 (T.pk a pg S.1.l).2.2] by rw [hpk], ← hS1]
    exact (find_q (HM0.out.q.more b (fun _ z=>z)) ((b.cell (p:=⟨c,1,none⟩) hcl).trans hpt) a pg).mono fun e w' ⟨he,k1,k2,k3⟩=>⟨he,k1,(Ky.of_below b HM0.out.q.lt).trans (k2.less (fun _=>Or.inl)),k2,k3.trans (b.block c hcl),Nat.lt_of_lt_of_le (Nat.lt_of_lt_of_le hcl b.size) k2.size⟩
  have CDR:Hid (∀ Q' W pt',Zq Q' W t c p h P S1 m→W.cell? ⟨c,1,none⟩ = some (.pointer (some ⟨pt',0,none⟩))→Calls Tryz.prog 15 #[.pointer (some ⟨pt',0,none⟩),.int .i64 a,.int .i64 (pg:Nat)] W fun e w'=>(∃ bb e',e = .returned (.tuple #[.bool bb,.int .i64 e']))∧Zq Q' w' t c p h P (({ S.1 with l:=T.rmL a pg (T.fd a pg S.1.l) }:E.Sc),S.2) m∧Ky Q' W w'∧w'.heap[c]? = W.heap[c]?):=fun Q' W pt' KW hc=>by
    subst hS1
    exact (drop_q KW hc a pg).mono fun e w' ⟨he,k1,k2,k3⟩=>⟨⟨_,_,he⟩,k1,k2,k3⟩
  have CWK:Hid (∀ Q' W,Zq Q' W t c p h P (({ S.1 with l:=T.rmL a pg (T.fd a pg S.1.l) }:E.Sc),S.2) m→Calls Tryz.prog 83 _ W _):=fun Q' W KW=>mwalk_q KW (O.m_eq rfl) hN a hr hp wr
  obtain ⟨y1,y2,y3,y4,y5,y6,yw,s3,hyw,hyx,hys⟩:∃ y1 y2 y3 y4 y5 y6 yw s3,(walkS h ({ S.1 with l:=T.rmL a pg (T.fd a pg S.1.l) }:E.Sc) a r pg wr).2.2 = yw∧(walkS h ({ S.1 with l:=T.rmL a pg (T.fd a pg S.1.l) }:E.Sc) a r pg wr).2.1 = ⟨y1,y2,y3,y4,y5,y6⟩∧(walkS h ({ S.1 with l:=T.rmL a pg (T.fd a pg S.1.l) }:E.Sc) a r pg wr).1 = s3:=⟨_,_,_,_,_,_,_,_,rfl,rfl,rfl⟩
  simp only [hyw,hyx,hys] at CWK ⊢
  generalize ({ S.1 with l:=T.rmL a pg (T.fd a pg S.1.l) }:E.Sc) = s2 at *
  clear hpk hS1 hy K O M0 BA BT BG hr hyw hyx hys
  generalize ((r:Nat):Int) = ri at *
  generalize ((pg:Nat):Int) = pi at *
  have HCE:Hid (∀ W,Ky Q W0 W→W.heap[c]? = W0.heap[c]?→(W.cell? ⟨w.heap.size,0,none⟩ = some (.pointer (some ⟨c,0,none⟩))∧W.cell? ⟨c,1,none⟩ = some (.pointer (some ⟨pt,0,none⟩))∧W.cell? ⟨w.heap.size,2,none⟩ = some (.int .i64 a)∧W.cell? ⟨w.heap.size,4,none⟩ = some (.int .i64 pi))):=fun W k e=>by
    have q:=(HBB.out.1.ky k).bk
    exact ⟨q.cell 0,(World.cell?_of_block (w:=W0) (a:=⟨c,1,none⟩) e).trans hpt,q.cell 2,q.cell 4⟩
  have HDW:Hid (Below W0.heap.size W0 W0.drew):=(Below.refl _ _).drew
  have HAL:Hid (Below W0.heap.size W0 (W0.alloc (Obj.cells #[.int .i64 0,.int .i64 0,.int .i64 0,.bool false,.bool false,.bool false] 67)).drew):=((Below.refl _ _).alloc (Nat.le_refl _) _).drew
  have HKD:Hid (Ky Q W0 W0.drew∧W0.drew.heap[c]? = W0.heap[c]?):=⟨Ky.of_below HDW.out HM0.out.q.lt,rfl⟩
  have HKL:Hid (Ky Q W0 (W0.alloc (Obj.cells #[.int .i64 0,.int .i64 0,.int .i64 0,.bool false,.bool false,.bool false] 67)).drew∧(W0.alloc (Obj.cells #[.int .i64 0,.int .i64 0,.int .i64 0,.bool false,.bool false,.bool false] 67)).drew.heap[c]? = W0.heap[c]?):=⟨Ky.of_below HAL.out HM0.out.q.lt,HAL.out.block c hcl⟩
  have HNZ:Hid (¬ Q W0.heap.size):=fun z=>Nat.lt_irrefl _ (HM0.out.q.lt _ z)
  have HXB:Hid (C.Blk (W0.alloc (Obj.cells #[.int .i64 0,.int .i64 0,.int .i64 0,.bool false,.bool false,.bool false] 67)).drew W0.heap.size 67 [.int .i64 0,.int .i64 0,.int .i64 0,.bool false,.bool false,.bool false]):=C.blk_new W0 _ _
  have HCN:Hid (c ≠ W0.heap.size∧w.heap.size ≤ W0.heap.size):=⟨Nat.ne_of_lt hcl,HM0.out.ky.size⟩
  clear hpt hcl
  go_enter Tryz.func39,Tryz.ntmps39
  go_upto_region 1 with fail
  try rw [hW0]
  clear hW0
  go_cut [4,5,6] from 8 to 20 (fun ta7 ta8 ta9 wx=>∃ b5 Q5,ta7 = .pointer (some ⟨b5,0,none⟩)∧ta8 = .bool yb∧ta9 = .int .i64 er∧Fm Z Q w W0 t c p h P S1 m [.int .i64 x1,.int .i64 x2,.int .i64 x3,.bool x4,.bool x5,.bool x6] wx b5 Q5)
  case first=>
    go_region_held3 (fun W=>W.cell? ⟨w.heap.size,0,none⟩ = some (.pointer (some ⟨c,0,none⟩))∧W.cell? ⟨c,1,none⟩ = some (.pointer (some ⟨pt,0,none⟩))∧W.cell? ⟨w.heap.size,2,none⟩ = some (.int .i64 a)∧W.cell? ⟨w.heap.size,4,none⟩ = some (.int .i64 pi))
      (first | (refine HCE.out _ ?_ ?_ <;> first | with_reducible exact HKD.out.1 | with_reducible exact HKD.out.2 | with_reducible exact HKL.out.1 | with_reducible exact HKL.out.2 | with_reducible exact HK1.out.1 | with_reducible exact HK1.out.2 | with_reducible exact HA1.out.1 | with_reducible exact HA1.out.2 | with_reducible exact HA2.out.1 | with_reducible exact HA2.out.2 | with_reducible exact HS6.out.1 | with_reducible exact HS6.out.2))
      (first
        | (go_at_call 81; refine (HPG.out _ (by first | with_reducible exact HDW.out | with_reducible exact HAL.out)).mono ?_; rintro e wl ⟨rfl,hB1,hK1,hK2,hc1,hl1⟩; have HK1:Hid (Ky Q W0 wl∧wl.heap[c]? = W0.heap[c]?):=⟨hK1,hc1⟩; have HA1:Hid (Ky Q W0 (wl.alloc (Obj.cells #[.int .i64 0,.int .i64 0,.int .i64 0,.bool false,.bool false,.bool false] 67))∧(wl.alloc (Obj.cells #[.int .i64 0,.int .i64 0,.int .i64 0,.bool false,.bool false,.bool false] 67)).heap[c]? = W0.heap[c]?):=⟨hK1.trans (Ky.of_below ((Below.refl _ _).alloc (Nat.le_refl _) _) (fun k hk=>hB1.lt k (Or.inl hk))),(heap_alloc_old _ _ hl1).trans hc1⟩; obtain ⟨Qx,hFA⟩:=fm_new [.int .i64 x1,.int .i64 x2,.int .i64 x3,.bool x4,.bool x5,.bool x6] HM0.out (fun _ h=>Or.inl h) hB1 hK1 hc1 hl1; have HFA:Hid (∃ Qz,Fm Z Q w W0 t c p h P S1 m [.int .i64 x1,.int .i64 x2,.int .i64 x3,.bool x4,.bool x5,.bool x6] (wl.alloc (Obj.cells #[.int .i64 x1,.int .i64 x2,.int .i64 x3,.bool x4,.bool x5,.bool x6] 67)) wl.heap.size Qz):=⟨Qx,hFA⟩; have HA2:Hid (Ky Q W0 (wl.alloc (Obj.cells #[.int .i64 x1,.int .i64 x2,.int .i64 x3,.bool x4,.bool x5,.bool x6] 67))∧(wl.alloc (Obj.cells #[.int .i64 x1,.int .i64 x2,.int .i64 x3,.bool x4,.bool x5,.bool x6] 67)).heap[c]? = W0.heap[c]?):=⟨hFA.ky,hFA.hc⟩; clear hFA; (try (have X5:=HXB.out.of_eq (hK2.block W0.heap.size (Or.inr ⟨Nat.le_refl _,by simp⟩)); obtain ⟨Qy,hFB⟩:=fm_set (.int .i64 x1) (.int .i64 x2) (.int .i64 x3) (.bool x4) (.bool x5) (.bool x6) HM0.out (fun _ h=>Or.inl h) hB1 hK1 hc1 (Or.inr ⟨Nat.le_refl _,by simp⟩) HNZ.out HCN.out.1 hl1 HCN.out.2 X5; have HFB:Hid (∃ Qz,Fm Z Q w W0 t c p h P S1 m [.int .i64 x1,.int .i64 x2,.int .i64 x3,.bool x4,.bool x5,.bool x6] ((((((wl.setCell ⟨W0.heap.size,0,none⟩ (.int .i64 x1)).setCell ⟨W0.heap.size,1,none⟩ (.int .i64 x2)).setCell ⟨W0.heap.size,2,none⟩ (.int .i64 x3)).setCell ⟨W0.heap.size,3,none⟩ (.bool x4)).setCell ⟨W0.heap.size,4,none⟩ (.bool x5)).setCell ⟨W0.heap.size,5,none⟩ (.bool x6)) W0.heap.size Qz):=⟨Qy,hFB⟩; have HS6:Hid (Ky Q W0 ((((((wl.setCell ⟨W0.heap.size,0,none⟩ (.int .i64 x1)).setCell ⟨W0.heap.size,1,none⟩ (.int .i64 x2)).setCell ⟨W0.heap.size,2,none⟩ (.int .i64 x3)).setCell ⟨W0.heap.size,3,none⟩ (.bool x4)).setCell ⟨W0.heap.size,4,none⟩ (.bool x5)).setCell ⟨W0.heap.size,5,none⟩ (.bool x6))∧((((((wl.setCell ⟨W0.heap.size,0,none⟩ (.int .i64 x1)).setCell ⟨W0.heap.size,1,none⟩ (.int .i64 x2)).setCell ⟨W0.heap.size,2,none⟩ (.int .i64 x3)).setCell ⟨W0.heap.size,3,none⟩ (.bool x4)).setCell ⟨W0.heap.size,4,none⟩ (.bool x5)).setCell ⟨W0.heap.size,5,none⟩ (.bool x6)).heap[c]? = W0.heap[c]?):=⟨hFB.ky,hFB.hc⟩; have c0:=X5.cell 0; have c1:=X5.cell 1; have c2:=X5.cell 2; have c3:=X5.cell 3; have c4:=X5.cell 4; have c5:=X5.cell 5; simp only [List.getElem?_cons_zero,List.getElem?_cons_succ] at c0 c1 c2 c3 c4 c5; have f0:=X5.frozen 0; have f1:=X5.frozen 1; have f2:=X5.frozen 2; have f3:=X5.frozen 3; have f4:=X5.frozen 4; have f5:=X5.frozen 5; clear X5 hFB)); clear hB1 hK1 hK2 hc1 hl1))
    all_goals
      go_wp2_with fail
      go_meet
      case rel=>
        first
          | (obtain ⟨Qz,hF⟩:=HFB.out; with_reducible exact ⟨_,Qz,rfl,rfl,rfl,hF⟩)
          | (obtain ⟨Qz,hF⟩:=HFA.out; with_reducible exact ⟨_,Qz,rfl,rfl,rfl,hF⟩)
  case rest=>
    obtain ⟨b5,Q5,rfl,rfl,rfl,hF⟩:=hcut
    have HF5:Hid (Fm Z Q w W0 t c p h P S1 m [.int .i64 x1,.int .i64 x2,.int .i64 x3,.bool x4,.bool x5,.bool x6] wc b5 Q5):=hF
    have A5:=(HBB.out.1.ky hF.ky).wide hF.sub
    have T5:=(HBB.out.2.1.ky hF.ky).wide hF.sub
    have G5:=(HBB.out.2.2.ky hF.ky).wide hF.sub
    have H5:Hid (Bb Q5 w wc w.heap.size 93 (acL c t a ri pi wr)∧Bb Q5 w wc (w.heap.size + 1) 67 t0L∧Bb Q5 w wc (w.heap.size + 2) 44 g0L∧Bb Q5 w wc b5 67 [.int .i64 x1,.int .i64 x2,.int .i64 x3,.bool x4,.bool x5,.bool x6]):=⟨A5,T5,G5,hF.bb⟩
    have HM5:Hid (Mq Z Q5 w wc t c p h P S1 m):=hF.mq
    have hla:(Instr.loadAt 93 (.pointer (some ⟨w.heap.size,0,none⟩))).run Tryz.prog wc = _:=ld_ac A5.bk
    have hlt:(Instr.loadAt 67 (.pointer (some ⟨b5,0,none⟩))).run Tryz.prog wc = _:=ld_tr hF.bb.bk
    have CAL:Hid (Calls _ _ _ _ _):=allowed_any c t a ri pi wr ⟨x1,x2,x3,x4,x5,x6⟩ wc
    clear hF A5 T5 G5 HPG HCE HDW HAL HKD HKL HNZ HXB HCN HBB HM0 HF5
    go_upto_region 2 with fail
    go_cut [26] from 21 to 25 (fun ta wx=>ta = .bool false∧Below wc.heap.size wc wx)
    case first=>
      cases yb
      case' true=>
        rw [show alw wr ⟨x1,x2,x3,x4,x5,x6⟩ = false by simpa using hya] at CAL
      all_goals
        have HB0' : Hid (Below wc.heap.size wc wc):=Below.refl _ _
        clear hya
        go_wp2_with (first
          | (refine wpList_load_wm rfl 93 (.tmp 1) rfl _ _ rfl hla ?_)
          | (refine wpList_load_wm rfl 67 (.tmp 4) rfl _ _ rfl hlt ?_)
          | (go_at_call 82; refine CAL.out.mono ?_; rintro e w2 ⟨rfl,hb2⟩; have HB2' : Hid (Below wc.heap.size wc w2):=hb2; clear hb2))
        go_meet
        case rel=>exact ⟨rfl,by first | exact HB2'.out | exact HB0'.out⟩
    case rest=>
      obtain ⟨rfl,hb2⟩:=hcut
      have HM6:Hid (Mq Z Q5 w wc t c p h P S1 m):=HM5.out.below hb2
      have H6:Hid (Bb Q5 w wc w.heap.size 93 (acL c t a ri pi wr)∧Bb Q5 w wc (w.heap.size + 1) 67 t0L∧Bb Q5 w wc (w.heap.size + 2) 44 g0L):=⟨H5.out.1.below hb2,H5.out.2.1.below hb2,H5.out.2.2.1.below hb2⟩
      clear hla hlt CAL hya HM5 H5 hb2
      obtain ⟨pt',hpt⟩:=HM6.out.q.pt
      have hcl:=World.block_lt_of_cell? wc _ hpt
      have HPG:Hid (∀ W,Below wc.heap.size wc W→Calls Tryz.prog 15 #[.pointer (some ⟨pt',0,none⟩),.int .i64 a,.int .i64 pi] W fun e w'=>(∃ bb e',e = .returned (.tuple #[.bool bb,.int .i64 e']))∧Zq Q5 w' t c p h P (s2,S.2) m∧Ky Q5 wc w'∧w'.heap[c]? = wc.heap[c]?):=fun W b=>(CDR.out Q5 W pt' (HM6.out.q.below b) ((b.cell (p:=⟨c,1,none⟩) hcl).trans hpt)).mono fun e w' ⟨he,k1,k2,k3⟩=>⟨he,k1,(Ky.of_below b HM6.out.q.lt).trans k2,k3.trans (b.block c hcl)⟩
      have HCE:Hid (∀ W,Ky Q5 wc W→W.heap[c]? = wc.heap[c]?→(W.cell? ⟨w.heap.size,0,none⟩ = some (.pointer (some ⟨c,0,none⟩))∧W.cell? ⟨c,1,none⟩ = some (.pointer (some ⟨pt',0,none⟩))∧W.cell? ⟨w.heap.size,2,none⟩ = some (.int .i64 a)∧W.cell? ⟨w.heap.size,4,none⟩ = some (.int .i64 pi))):=fun W k e=>by
        have q:=(H6.out.1.ky k).bk
        exact ⟨q.cell 0,(World.cell?_of_block (w:=wc) (a:=⟨c,1,none⟩) e).trans hpt,q.cell 2,q.cell 4⟩
      have HKD:Hid (Ky Q5 wc wc.drew∧wc.drew.heap[c]? = wc.heap[c]?):=⟨Ky.of_below (Below.refl _ _).drew HM6.out.q.lt,rfl⟩
      clear hcl hpt CDR
      go_upto_region 4 with fail
      go_region_held3 (fun W=>W.cell? ⟨w.heap.size,0,none⟩ = some (.pointer (some ⟨c,0,none⟩))∧W.cell? ⟨c,1,none⟩ = some (.pointer (some ⟨pt',0,none⟩))∧W.cell? ⟨w.heap.size,2,none⟩ = some (.int .i64 a)∧W.cell? ⟨w.heap.size,4,none⟩ = some (.int .i64 pi))
        (first | (refine HCE.out _ ?_ ?_ <;> first | with_reducible exact HKD.out.1 | with_reducible exact HKD.out.2 | with_reducible exact HK7.out.1 | with_reducible exact HK7.out.2))
        (first
          | (go_at_call 15; refine (HPG.out _ (by first | exact (Below.refl _ _).drew | exact Below.refl _ _)).mono ?_; rintro e w7 ⟨⟨bb,e',rfl⟩,hK7,hy7,hc7⟩; have HK7:Hid (Ky Q5 wc w7∧w7.heap[c]? = wc.heap[c]?):=⟨hy7,hc7⟩; have HZ7:Hid (Zq Q5 w7 t c p h P (s2,S.2) m):=hK7; clear hK7 hy7 hc7))
      have HM7:Hid (Mq Z Q5 w w7 t c p h P (s2,S.2) m):=HM6.out.turn HZ7.out HK7.out.1
      have H7:Hid (Bb Q5 w w7 (w.heap.size + 1) 67 t0L∧Bb Q5 w w7 (w.heap.size + 2) 44 g0L):=⟨H6.out.2.1.ky HK7.out.1,H6.out.2.2.ky HK7.out.1⟩
      have hla:(Instr.loadAt 93 (.pointer (some ⟨w.heap.size,0,none⟩))).run Tryz.prog w7 = _:=ld_ac (H6.out.1.ky HK7.out.1).bk
      have CW7:Hid (Calls _ _ _ _ _):=CWK.out Q5 w7 HM7.out.q
      clear HM6 H6 HPG HCE HKD HK7 HZ7 CWK
      go_wp2_with (refine wpList_load_wm rfl 93 (.tmp 1) rfl _ _ rfl hla ?_)
      refine CW7.out.mono ?_
      rintro e w8 ⟨rfl,hK8,hy8⟩
      have M8:=HM7.out.turn hK8 hy8
      have T8:=H7.out.1.ky hy8
      have G8:=H7.out.2.ky hy8
      obtain ⟨AT,HAT⟩:∃ AT:Array Value,Hid (AT = #[.int .i64 y1,.int .i64 y2,.int .i64 y3,.bool y4,.bool y5,.bool y6]):=⟨_,rfl⟩
      obtain ⟨AG,HAG⟩:∃ AG:Array Value,Hid (AG = #[.int .u64 0,.int .u8 yw,.bool false,.bool false,.bool false]):=⟨_,rfl⟩
      obtain ⟨tx,M9,T9,o9⟩:=M8.set T8 AT (by rw [HAT.out]; rfl)
      have G9:=o9 _ _ _ (by omega) G8
      obtain ⟨tg,Ma,Ga,oa⟩:=M9.set G9 AG (by rw [HAG.out]; rfl)
      have Ta:=oa _ _ _ (by omega) T9
      have HF:Hid _:=Ma.fin
      have HTX:Hid _:=tx
      have HTG:Hid _:=tg
      have HR:Hid (_∧_):=(⟨Ta.bk,Ga.bk⟩:_∧_)
      clear hK8 hy8 M8 T8 G8 M9 T9 o9 G9 Ma Ga oa Ta tx tg HM7 H7 CW7 hla
      go_wp2_with (first
        | (refine wpList_store_mid rfl 67 (.tmp 2) (.tmp 41) rfl _ 0 AT rfl (congrArg Value.agg HAT.out.symm) HTX.out (by rw [HAT.out]; exact Tryz.sizeT) (by rw [HAT.out]; exact oneT ⟨y1,y2,y3,y4,y5,y6⟩) ?_)
        | (refine wpList_store_mid rfl 44 (.tmp 3) (.tmp 42) rfl _ 0 AG rfl (congrArg Value.agg HAG.out.symm) HTG.out (by rw [HAG.out]; exact Tryz.sizeG) (by rw [HAG.out]; exact one5 _ _ _ _) ?_))
      exact bodyPost_ret (v:=.tuple #[.agg AT,.agg AG]) (res_tg rfl (by rw [HAT.out]; rfl) (by rw [HAG.out]; rfl) rfl rfl HR.out.1 HR.out.2) rfl ⟨by rw [HAT.out,HAG.out],HF.out⟩
theorem mlook_q (K : Zq Z w t c p h P S m) (O : Ok P (fun r => m r ≠ none) S) (hN : P.N * P.C ≤ h.n) (a : Int) {r pg : Nat} (hr : m r ≠ none) (hp : pg < 1048576) (wr : Bool) :
    Calls Tryz.prog 39 #[.agg #[.pointer (some ⟨c,0,none⟩),.pointer (some ⟨t,0,none⟩),.int .i64 a,.int .i64 (r:Nat),.int .i64 (pg:Nat),.bool wr]] w fun e w'=>e = .returned (.tuple #[.agg #[.int .i64 (lookS h S.1 a r pg wr).2.1.a,.int .i64 (lookS h S.1 a r pg wr).2.1.p,.int .i64 (lookS h S.1 a r pg wr).2.1.f,.bool (lookS h S.1 a r pg wr).2.1.r,.bool (lookS h S.1 a r pg wr).2.1.w,.bool (lookS h S.1 a r pg wr).2.1.d],.agg #[.int .u64 0,.int .u8 (lookS h S.1 a r pg wr).2.2.2,.bool (lookS h S.1 a r pg wr).2.2.1,.bool false,.bool false]])∧Zq Z w' t c p h P ((lookS h S.1 a r pg wr).1,S.2) m∧Ky Z w w':=by
  cases hy:((T.pk a pg S.1.l).2.1 && alw wr (T.pk a pg S.1.l).1) with
  | true=>
    rw [show lookS h S.1 a r pg wr = ({ S.1 with l:=T.fd a pg S.1.l },(T.pk a pg S.1.l).1,true,0) by unfold lookS; rw [if_pos hy]]
    exact mlook_hit K O hN a hr hp wr hy
  | false=>
    rw [show lookS h S.1 a r pg wr = ((walkS h { S.1 with l:=T.rmL a pg (T.fd a pg S.1.l) } a r pg wr).1,(walkS h { S.1 with l:=T.rmL a pg (T.fd a pg S.1.l) } a r pg wr).2.1,false,(walkS h { S.1 with l:=T.rmL a pg (T.fd a pg S.1.l) } a r pg wr).2.2) by unfold lookS; rw [if_neg (by rw [hy]; exact Bool.false_ne_true)]]
    exact mlook_miss K O hN a hr hp wr hy
end
end Go.Proofs.YtgljdbabagdhlaaGreat.Pg
