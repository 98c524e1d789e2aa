/- The mmu's soil: the page's entry made Dirty, if it has a place; its translation marked; no condition but those named. -/
import Derived.Test.YtgljdbabagdhlaaGreatVmb
namespace Go.Proofs.YtgljdbabagdhlaaGreat.Pg
open P E Go.ChangeShapes Go.WideShapes Go.ChangeAt Go.RowKit
set_option linter.unusedVariables false
set_option linter.unusedSimpArgs false
set_option maxRecDepth 100000
section
variable {Z:Nat→Prop} {w:World} {t c p:Nat} {h:Hw} {P:Par} {S:E.Sc × Us} {m:Nat→Option Nat}
theorem pla_lt {R:Nat→Prop} (hP:P.Ok) (O:Ok P R S) (hN:P.N * P.C ≤ h.n) {r pg:Nat} (hr:R r) (hs:hasP (wd S.1.m) r pg = true):pla (wd S.1.m) r pg < h.n * 256:=by
  obtain ⟨f,h1,h2,_⟩:=hasP_t hs
  have:=(O.lt hP hN hr (Nat.le_refl 3) h1).1
  rw [h2]
  omega
theorem Ok.setS {R:Nat→Prop} (O:Ok P R S) {r:Nat} (hr:R r) (pg:Nat) (b1 b2 b3 b4 b5 b6:Bool) (x:Int):Ok P R (Pg.setS S.1 r pg (N.may b1 b2 b3 b4 b5 b6 x) (N.lo b1 b2 b3 b4 b5 b6 + x * 256),S.2):=by
  cases hmy:N.may b1 b2 b3 b4 b5 b6 x with
  | false=>
    have:Pg.setS S.1 r pg false (N.lo b1 b2 b3 b4 b5 b6 + x * 256) = S.1:=by unfold Pg.setS; rfl
    rw [this]
    exact ⟨O.fo,O.va⟩
  | true=>
    have hb:=may_at2 hmy
    have hl:=N.lo_range b1 b2 b3 b4 b5 b6
    have hL:Lf (N.lo b1 b2 b3 b4 b5 b6 + x * 256):=⟨(N.mayW_word _ _ _ _ _ _ _ hb.1 hb.2).trans hmy,by omega,by omega⟩
    cases hf:tb (wd S.1.m) r 3 (pg / 32) with
    | none=>
      have:Pg.setS S.1 r pg true (N.lo b1 b2 b3 b4 b5 b6 + x * 256) = S.1:=by unfold Pg.setS; rw [hf]
      rw [this]
      exact ⟨O.fo,O.va⟩
    | some f=>
      have:Pg.setS S.1 r pg true (N.lo b1 b2 b3 b4 b5 b6 + x * 256) = lk S.1 f (pg % 32) (N.lo b1 b2 b3 b4 b5 b6 + x * 256):=by unfold Pg.setS; rw [hf]
      rw [this]
      refine ⟨?_,O.va⟩
      show Fo (wd (lk S.1 f (pg % 32) (N.lo b1 b2 b3 b4 b5 b6 + x * 256)).m) _ _ _
      unfold lk
      rw [wd_put _ _ (Nat.mod_lt _ (by decide)) hL.2.1 hL.2.2]
      exact (O.fo.leaf hr hf _ hL).1
set_option maxHeartbeats 4000000 in
theorem msoil_q (K : Zq Z w t c p h P S m) (O : Ok P (fun r => m r ≠ none) S) (hN : P.N * P.C ≤ h.n) (a : Int) {r pg : Nat} (hr : m r ≠ none) (hp : pg < 1048576) (wr : Bool) :
    Calls Tryz.prog 65 #[.agg #[.pointer (some ⟨c,0,none⟩),.pointer (some ⟨t,0,none⟩),.int .i64 a,.int .i64 (r:Nat),.int .i64 (pg:Nat),.bool wr]] w fun e w'=>e = .returned (.tuple #[])∧Zq Z w' t c p h P (soilS h S.1 a r pg,S.2) m∧Ky Z w w':=by
  have hplt:hasP (wd S.1.m) r pg = true→pla (wd S.1.m) r pg < h.n * 256:=fun q=>pla_lt K.par.1 O hN hr q
  obtain ⟨Q,hq0,M0,BA,l0⟩:=(Mq.start K).box 93 (acL c t a r pg wr)
  obtain ⟨W0,hW0⟩:∃ W0,w.alloc (.cells (acL c t a r pg wr).toArray 93) = W0:=⟨_,rfl⟩
  rw [hW0] at M0 BA
  have HM0:Hid (Mq Z Q w W0 t c p h P S m):=M0
  have HBA:Hid (Bb Q w W0 w.heap.size 93 (acL c t a r pg wr)):=BA
  have CP:Hid (Calls _ _ _ _ _):=place_q M0.q O hN hr hp
  obtain ⟨b1,b2,b3,b4,b5,b6,v7,hec,hb1,hb2,hb3,hb4,hb5,hb6,hv7⟩:=ec_vals (pw (wd S.1.m) r pg)
  have CG:Hid (∀ Q' W,Zq Q' W t c p h P S m→Calls Tryz.prog 12 #[.pointer (some ⟨t,0,none⟩),.int .i64 (r:Nat),.int .i64 (pg:Nat)] W fun e w'=>e = .returned (.tuple #[.agg #[.bool b1,.bool b2,.bool b3,.bool b4,.bool b5,.bool b6,.int .i64 v7],.int .i64 0])∧Zq Q' w' t c p h P S m∧Ky Q' W w'):=fun Q' W KW=>by rw [← hec]; exact get_q KW O hN hr hp
  obtain ⟨s1,hs1⟩:∃ s1,setS S.1 r pg (N.may b1 b2 b3 b4 b5 true v7) (N.lo b1 b2 b3 b4 b5 true + v7 * 256) = s1:=⟨_,rfl⟩
  have CS:Hid (∀ Q' W,Zq Q' W t c p h P S m→Calls Tryz.prog 9 #[.pointer (some ⟨t,0,none⟩),.int .i64 (r:Nat),.int .i64 (pg:Nat),.agg #[.bool b1,.bool b2,.bool b3,.bool b4,.bool b5,.bool true,.int .i64 v7]] W fun e w'=>(∃ x,e = .returned (.int .i64 x))∧Zq Q' w' t c p h P (s1,S.2) m∧Ky Q' W w'):=fun Q' W KW=>by rw [← hs1]; exact (set_q KW O hN hr hp b1 b2 b3 b4 b5 true v7).mono fun e w' ⟨he,k1,k2⟩=>⟨⟨_,he⟩,k1,k2⟩
  have hso:soilS h S.1 a r pg = { (if hasP (wd S.1.m) r pg then tou h s1 (pla (wd S.1.m) r pg) else S.1) with l:=T.mrkL a pg (if hasP (wd S.1.m) r pg then tou h s1 (pla (wd S.1.m) r pg) else S.1).l }:=by
    unfold soilS soil0 mayD drt
    rw [← hb1, ← hb2, ← hb3, ← hb4, ← hb5, ← hv7,hs1]
  rw [hso]
  obtain ⟨s2,hs2⟩:∃ s2,(if hasP (wd S.1.m) r pg = true then tou h s1 (pla (wd S.1.m) r pg) else S.1) = s2:=⟨_,rfl⟩
  rw [hs2]
  have CMK:Hid (∀ Q' W s pt',Zq Q' W t c p h P (s,S.2) m→W.cell? ⟨c,1,none⟩ = some (.pointer (some ⟨pt',0,none⟩))→Calls Tryz.prog 108 #[.pointer (some ⟨pt',0,none⟩),.int .i64 a,.int .i64 (pg:Nat)] W fun e w'=>(∃ bb e',e = .returned (.tuple #[.bool bb,.int .i64 e']))∧Zq Q' w' t c p h P ({ s with l:=T.mrkL a pg s.l },S.2) m∧Ky Q' W w'∧w'.heap[c]? = W.heap[c]?):=fun Q' W s pt' KW hc=>(mark_q KW hc a pg).mono fun e w' ⟨he,k1,k2,k3⟩=>⟨⟨_,_,he⟩,k1,k2,k3⟩
  have x1:=BA.bk.cell 1
  have x3:=BA.bk.cell 3
  have x4:=BA.bk.cell 4
  simp only [acL,List.getElem?_cons_zero,List.getElem?_cons_succ] at x1 x3 x4
  simp only [acL] at hW0
  clear K O hec hb1 hb2 hb3 hb4 hb5 hb6 hv7 hs1 hso M0 BA hp hr l0 hq0
  generalize ((r:Nat):Int) = ri at *
  generalize ((pg:Nat):Int) = pi at *
  generalize pla (wd S.1.m) r pg = pl at *
  generalize hasP (wd S.1.m) r pg = hs at *
  go_enter Tryz.func65,Tryz.ntmps65
  go_upto_region 1 with fail
  try rw [hW0]
  clear hW0
  go_wp2_with fail
  refine CP.out.mono ?_
  rintro e w1 ⟨rfl,hK1,hy1⟩
  have HM1:Hid (Mq Z Q w w1 t c p h P S m):=HM0.out.turn hK1 hy1
  have HA1:Hid (Bb Q w w1 w.heap.size 93 (acL c t a ri pi wr)):=HBA.out.ky hy1
  clear hK1 hy1 CP HM0 HBA x1 x3 x4
  cases hs
  case' false=>
    have hs3:S.1 = s2:=hs2
    have HM6:Hid (Mq Z Q w w1 t c p h P (s2,S.2) m):=by rw [← hs3]; exact HM1.out
    have H6:Hid (Bb Q w w1 w.heap.size 93 (acL c t a ri pi wr)):=HA1.out
    clear CG CS HM1 HA1 hplt hs2 hs3
    generalize w1 = w5 at *
    generalize Q = Q2 at *
  case' true=>
    have hpl:=hplt rfl
    have CG1:Hid (Calls _ _ _ _ _):=CG.out Q w1 HM1.out.q
    have x1:=HA1.out.bk.cell 1
    have x3:=HA1.out.bk.cell 3
    have x4:=HA1.out.bk.cell 4
    simp only [acL,List.getElem?_cons_zero,List.getElem?_cons_succ] at x1 x3 x4
    clear hplt CG
    go_wp2_with fail
    refine CG1.out.mono ?_
    rintro e w2 ⟨rfl,hK2,hy2⟩
    obtain ⟨Q1,hq1,M1,B5,l1⟩:=(HM1.out.turn hK2 hy2).box 32 [.bool b1,.bool b2,.bool b3,.bool b4,.bool b5,.bool b6,.int .i64 v7]
    have A1:=((HA1.out.ky hy2).below l1).wide hq1
    have hne:w.heap.size < w2.heap.size:=(HA1.out.ky hy2).bk.lt
    have fz:=B5.bk.frozen 5
    have z5:=B5.bk.cell 5
    simp only [List.getElem?_cons_zero,List.getElem?_cons_succ] at z5
    obtain ⟨M3,E3,o3⟩:=M1.put B5 5 (.bool true)
    have A3:=o3 _ _ _ (by omega) A1
    obtain ⟨W2,hW2⟩:∃ W2,w2.alloc (.cells ([.bool b1,.bool b2,.bool b3,.bool b4,.bool b5,.bool b6,.int .i64 v7]:List Value).toArray 32) = W2:=⟨_,rfl⟩
    rw [hW2] at M3 E3 A3 fz z5
    obtain ⟨W3,hW3⟩:∃ W3,W2.setCell ⟨w2.heap.size,5,none⟩ (.bool true) = W3:=⟨_,rfl⟩
    rw [hW3] at M3 E3 A3
    simp only [List.set_cons_succ,List.set_cons_zero] at E3
    have HM3:Hid (Mq Z Q1 w W3 t c p h P S m):=M3
    have HA3:Hid (Bb Q1 w W3 w.heap.size 93 (acL c t a ri pi wr)):=A3
    have CS3:Hid (Calls _ _ _ _ _):=CS.out Q1 W3 M3.q
    have HE3:Hid (Bb Q1 w W3 w2.heap.size 32 [.bool b1,.bool b2,.bool b3,.bool b4,.bool b5,.bool true,.int .i64 v7]):=E3
    clear hK2 hy2 l1 A1 B5 M1 o3 A3 E3 M3 CG1 CS HM1 HA1 x1 x3 x4
    go_upto_region 5 with fail
    clear hW2 hW3 fz z5
    have x1:=HA3.out.bk.cell 1
    have x3:=HA3.out.bk.cell 3
    have x4:=HA3.out.bk.cell 4
    have z0:=HE3.out.bk.cell 0
    have z1:=HE3.out.bk.cell 1
    have z2:=HE3.out.bk.cell 2
    have z3:=HE3.out.bk.cell 3
    have z4:=HE3.out.bk.cell 4
    have z5:=HE3.out.bk.cell 5
    have z6:=HE3.out.bk.cell 6
    simp only [acL,List.getElem?_cons_zero,List.getElem?_cons_succ] at x1 x3 x4 z0 z1 z2 z3 z4 z5 z6
    go_wp2_with fail
    refine CS3.out.mono ?_
    rintro e w4 ⟨⟨xe,rfl⟩,hK4,hy4⟩
    have HM4:Hid (Mq Z Q1 w w4 t c p h P (s1,S.2) m):=HM3.out.turn hK4 hy4
    have HA4:Hid (Bb Q1 w w4 w.heap.size 93 (acL c t a ri pi wr)):=HA3.out.ky hy4
    have CT:Hid (Calls _ _ _ _ _):=touch1_q HM4.out.q hpl
    clear hK4 hy4 CS3 HM3 HA3 HE3 x1 x3 x4 z0 z1 z2 z3 z4 z5 z6
    have x0:=HA4.out.bk.cell 0
    simp only [acL,List.getElem?_cons_zero,List.getElem?_cons_succ] at x0
    go_wp2_with fail
    refine CT.out.mono ?_
    rintro e w5 ⟨rfl,hK5,hy5⟩
    have hs3:tou h s1 pl = s2:=hs2
    have HM6:Hid (Mq Z Q1 w w5 t c p h P (s2,S.2) m):=by rw [← hs3]; exact HM4.out.turn hK5 hy5
    have H6:Hid (Bb Q1 w w5 w.heap.size 93 (acL c t a ri pi wr)):=HA4.out.ky hy5
    clear hK5 hy5 HM4 HA4 CT x0 hs2 hs3 hpl hne
    generalize Q1 = Q2 at *
  all_goals
    obtain ⟨pt,hpt⟩:=HM6.out.q.pt
    have hcl:=World.block_lt_of_cell? w5 _ hpt
    have HPG:Hid (∀ W,Below w5.heap.size w5 W→Calls Tryz.prog 108 #[.pointer (some ⟨pt,0,none⟩),.int .i64 a,.int .i64 pi] W fun e w'=>(∃ bb e',e = .returned (.tuple #[.bool bb,.int .i64 e']))∧Zq Q2 w' t c p h P ({ s2 with l:=T.mrkL a pi s2.l },S.2) m∧Ky Q2 w5 w'∧w'.heap[c]? = w5.heap[c]?):=fun W b=>(CMK.out Q2 W s2 pt (HM6.out.q.below b) ((b.cell (p:=⟨c,1,none⟩) hcl).trans hpt)).mono fun e w' ⟨he,k1,k2,k3⟩=>⟨he,k1,(Ky.of_below b HM6.out.q.lt).trans k2,k3.trans (b.block c hcl)⟩
    have HCE:Hid (∀ W,Ky Q2 w5 W→W.heap[c]? = w5.heap[c]?→(W.cell? ⟨w.heap.size,0,none⟩ = some (.pointer (some ⟨c,0,none⟩))∧W.cell? ⟨c,1,none⟩ = some (.pointer (some ⟨pt,0,none⟩))∧W.cell? ⟨w.heap.size,2,none⟩ = some (.int .i64 a)∧W.cell? ⟨w.heap.size,4,none⟩ = some (.int .i64 pi))):=fun W k e=>by
      have q:=(H6.out.ky k).bk
      exact ⟨q.cell 0,(World.cell?_of_block (w:=w5) (a:=⟨c,1,none⟩) e).trans hpt,q.cell 2,q.cell 4⟩
    have HKD:Hid (Ky Q2 w5 w5.drew∧w5.drew.heap[c]? = w5.heap[c]?):=⟨Ky.of_below (Below.refl _ _).drew HM6.out.q.lt,rfl⟩
    clear hcl hpt CMK
    go_upto_region 7 with fail
    go_region_held3 (fun W=>W.cell? ⟨w.heap.size,0,none⟩ = some (.pointer (some ⟨c,0,none⟩))∧W.cell? ⟨c,1,none⟩ = some (.pointer (some ⟨pt,0,none⟩))∧W.cell? ⟨w.heap.size,2,none⟩ = some (.int .i64 a)∧W.cell? ⟨w.heap.size,4,none⟩ = some (.int .i64 pi))
      (first | (refine HCE.out _ ?_ ?_ <;> first | with_reducible exact HKD.out.1 | with_reducible exact HKD.out.2 | with_reducible exact HK7.out.1 | with_reducible exact HK7.out.2))
      (first
        | (go_at_call 108; refine (HPG.out _ (by first | exact (Below.refl _ _).drew | exact Below.refl _ _)).mono ?_; rintro e w7 ⟨⟨bb,e',rfl⟩,hK7,hy7,hc7⟩; have HK7:Hid (Ky Q2 w5 w7∧w7.heap[c]? = w5.heap[c]?):=⟨hy7,hc7⟩; have HZ7:Hid (Zq Q2 w7 t c p h P ({ s2 with l:=T.mrkL a pi s2.l },S.2) m):=hK7; clear hK7 hy7 hc7))
    all_goals
      have HF:Hid _:=(HM6.out.turn HZ7.out HK7.out.1).fin
      clear HM6 H6 HPG HCE HKD HK7 HZ7
      go_wp2
      go_end0
      exact ⟨rfl,HF.out⟩
end
section
variable {Z:Nat→Prop} {w:World} {t c p:Nat} {h:Hw} {P:Par} {S:E.Sc × Us} {m:Nat→Option Nat}
theorem Ok.fill {R:Nat→Prop} {s:E.Sc} {us:Us} (O:Ok P R (s,us)) (h:Hw) (a:Int) {r:Nat} (hr:R r) (pg:Nat) (v:Int):Ok P R (fillS h s a r pg v,us):=(O.setS hr pg _ _ _ _ _ _ _).m_eq (s:=fillS h s a r pg v) rfl
theorem Ok.walk {R:Nat→Prop} {s:E.Sc} {us:Us} (O:Ok P R (s,us)) (h:Hw) (a:Int) {r:Nat} (hr:R r) (pg:Nat) (wr:Bool):Ok P R ((walkS h s a r pg wr).1,us):=by
  have O1:Ok P R (wkS h s r pg,us):=O.m_eq (s:=wkS h s r pg) (wk_m h s r pg)
  unfold walkS
  split
  · exact O1.fill h a hr pg _
  · exact O1
theorem Ok.look {R:Nat→Prop} (O:Ok P R S) (h:Hw) (a:Int) {r:Nat} (hr:R r) (pg:Nat) (wr:Bool):Ok P R ((lookS h S.1 a r pg wr).1,S.2):=by
  unfold lookS
  split
  · exact O.m_eq rfl
  · exact Ok.walk (O.m_eq (s:={ S.1 with l:=T.rmL a pg (T.fd a pg S.1.l) }) rfl) h a hr pg wr
theorem res_ug {fn : Func} {p q : Tmp} (h : fn.results = #[.tmp p, .cell q 44]) {tmps : Array Value} {w : World} {s : Nat} {v : Value} {B : Array Value} (hB : B.size = 5) (hp : tmps.getD p undef = v) (hq : tmps.getD q undef = .pointer (some ⟨s, 0, none⟩)) (hc : C.Blk w s 44 B.toList) :
    (results fn tmps).run Tryz.prog w = .ok (.tuple #[v,.agg B]) w:=by
  have hl2:(loadVar 44 ⟨s,0,none⟩).run Tryz.prog w = .ok (.agg B) w:=run_loadVar_row w s 44 44 B (0,0) _ hc Tryz.underlying44 rfl (by rw [hB]; exact Tryz.sizeG)
  simp only [results,h]
  simp only [Array.getD_eq_getD_getElem?] at hp hq
  simp [Result.andThen,hp,hq,asAddr,hl2]
theorem Bb.congr {Q:Nat→Prop} {w0 W:World} {b:Nat} {ty:TypeId} {L L' : List Value} (B:Bb Q w0 W b ty L) (e:L = L'):Bb Q w0 W b ty L':=e ▸ B
theorem Mq.put5 {Q:Nat→Prop} {w0 W:World} {b:Nat} {ty:TypeId} {u0 u1 u2 u3 u4:Value} (M:Mq Z Q w0 W t c p h P S m) (B:Bb Q w0 W b ty [u0,u1,u2,u3,u4]) (v0 v1 v2 v3 v4:Value):Mq Z Q w0 (((((W.setCell ⟨b,0,none⟩ v0).setCell ⟨b,1,none⟩ v1).setCell ⟨b,2,none⟩ v2).setCell ⟨b,3,none⟩ v3).setCell ⟨b,4,none⟩ v4) t c p h P S m∧Bb Q w0 (((((W.setCell ⟨b,0,none⟩ v0).setCell ⟨b,1,none⟩ v1).setCell ⟨b,2,none⟩ v2).setCell ⟨b,3,none⟩ v3).setCell ⟨b,4,none⟩ v4) b ty [v0,v1,v2,v3,v4]:=by
  obtain ⟨M1,B1,_⟩:=M.put B 0 v0
  obtain ⟨M2,B2,_⟩:=M1.put B1 1 v1
  obtain ⟨M3,B3,_⟩:=M2.put B2 2 v2
  obtain ⟨M4,B4,_⟩:=M3.put B3 3 v3
  obtain ⟨M5,B5,_⟩:=M4.put B4 4 v4
  exact ⟨M5,B5⟩
set_option maxHeartbeats 1000000 in
theorem mreach_no (K : Zq Z w t c p h P S m) (O : Ok P (fun r => m r ≠ none) S) (hN : P.N * P.C ≤ h.n) (a : Int) {r pg : Nat} (hr : m r ≠ none) (hp : pg < 1048576) (wr : Bool) (off : Int) (hy : (lookS h S.1 a r pg wr).2.2.2 ≠ 0) :
    Calls Tryz.prog 27 #[.agg #[.pointer (some ⟨c,0,none⟩),.pointer (some ⟨t,0,none⟩),.int .i64 a,.int .i64 (r:Nat),.int .i64 (pg:Nat),.bool wr],.int .i64 off] w fun e w'=>e = .returned (.tuple #[.int .u64 0,.agg #[.int .u64 0,.int .u8 (lookS h S.1 a r pg wr).2.2.2,.bool (lookS h S.1 a r pg wr).2.2.1,.bool false,.bool false]])∧Zq Z w' t c p h P ((lookS h S.1 a r pg wr).1,S.2) m∧Ky Z w w':=by
  obtain ⟨Q,M0,BA,BG⟩:=Mq.box2 K (acL c t a r pg wr) g0L 93 44
  obtain ⟨W0,hW0⟩:∃ W0,((w.alloc (.cells (acL c t a r pg wr).toArray 93)).alloc (.cells g0L.toArray 44)) = W0:=⟨_,rfl⟩
  rw [hW0] at M0 BA BG
  have HM0:Hid (Mq Z Q w W0 t c p h P S m):=M0
  have HBB:Hid (Bb Q w W0 w.heap.size 93 (acL c t a r pg wr)∧Bb Q w W0 (w.heap.size + 1) 44 g0L):=⟨BA,BG⟩
  have CL:=mlook_q M0.q O hN a hr hp wr
  obtain ⟨s1,x1,x2,x3,x4,x5,x6,tl,y,hlk⟩:∃ s1 x1 x2 x3 x4 x5 x6 tl y,lookS h S.1 a r pg wr = (s1,⟨x1,x2,x3,x4,x5,x6⟩,tl,y):=⟨_,_,_,_,_,_,_,_,_,rfl⟩
  rw [hlk] at CL hy ⊢
  simp only at CL hy ⊢
  clear hlk O hr hp
  have HCL:Hid (Calls _ _ _ _ _):=CL
  have hla:(Instr.loadAt 93 (.pointer (some ⟨w.heap.size,0,none⟩))).run Tryz.prog W0 = _:=ld_ac BA.bk
  simp only [acL,g0L] at hW0
  clear K M0 BA BG CL
  generalize ((r:Nat):Int) = ri at *
  generalize ((pg:Nat):Int) = pi at *
  go_enter Tryz.func27,Tryz.ntmps27
  go_upto_region 1 with fail
  try rw [hW0]
  clear hW0
  go_wp2_with (refine wpList_load_wm rfl 93 (.tmp 2) rfl _ _ rfl hla ?_)
  refine HCL.out.mono ?_
  rintro e w1 ⟨rfl,hK1,hy1⟩
  obtain ⟨Q1,hq1,M1,B6,l1⟩:=(HM0.out.turn hK1 hy1).box 67 t0L
  obtain ⟨Q2,hq2,M2,B7,l2⟩:=M1.box 44 g0L
  have A2:=(((HBB.out.1.ky hy1).below l1).wide hq1 |>.below l2).wide hq2
  have G2:=(((HBB.out.2.ky hy1).below l1).wide hq1 |>.below l2).wide hq2
  have B6':=(B6.below l2).wide hq2
  have e1:(w1.alloc (.cells (t0L:List Value).toArray 67)).heap.size = w1.heap.size + 1:=by simp
  rw [e1] at B7
  have hne:w.heap.size + 1 < w1.heap.size:=(HBB.out.2.ky hy1).bk.lt
  obtain ⟨W2,hW2⟩:∃ W2,(w1.alloc (.cells (t0L:List Value).toArray 67)).alloc (.cells (g0L:List Value).toArray 44) = W2:=⟨_,rfl⟩
  rw [hW2] at M2 B7 A2 G2 B6'
  simp only [t0L,g0L] at hW2
  obtain ⟨AT,HAT⟩:∃ AT:Array Value,Hid (AT = #[.int .i64 x1,.int .i64 x2,.int .i64 x3,.bool x4,.bool x5,.bool x6]):=⟨_,rfl⟩
  obtain ⟨AG,HAG⟩:∃ AG:Array Value,Hid (AG = #[.int .u64 0,.int .u8 y,.bool tl,.bool false,.bool false]):=⟨_,rfl⟩
  obtain ⟨tx,M3,T3,o3⟩:=M2.set B6' AT (by rw [HAT.out]; rfl)
  have A3:=o3 _ _ _ (by omega) A2
  have G3:=o3 _ _ _ (by omega) G2
  have B3:=o3 _ _ _ (by omega) B7
  obtain ⟨tg,M4,B4,o4⟩:=M3.set B3 AG (by rw [HAG.out]; rfl)
  have A4:=o4 _ _ _ (by omega) A3
  have G4:=o4 _ _ _ (by omega) G3
  have T4:=o4 _ _ _ (by omega) T3
  have HTX:Hid _:=tx
  have HTG:Hid _:=tg
  have k1:=(B4.bk.cell 1).trans (show AG.toList[1]? = some (.int .u8 y) by rw [HAG.out]; rfl)
  have T4:=T4.congr (show AT.toList = [.int .i64 x1,.int .i64 x2,.int .i64 x3,.bool x4,.bool x5,.bool x6] by rw [HAT.out])
  have B4:=B4.congr (show AG.toList = [.int .u64 0,.int .u8 y,.bool tl,.bool false,.bool false] by rw [HAG.out])
  have HW4:Hid (Mq Z Q2 w ((W2.setCells w1.heap.size 0 AT.toList).setCells (w1.heap.size + 1) 0 AG.toList) t c p h P (s1,S.2) m∧Bb Q2 w ((W2.setCells w1.heap.size 0 AT.toList).setCells (w1.heap.size + 1) 0 AG.toList) w.heap.size 93 (acL c t a ri pi wr)∧Bb Q2 w ((W2.setCells w1.heap.size 0 AT.toList).setCells (w1.heap.size + 1) 0 AG.toList) (w.heap.size + 1) 44 g0L∧Bb Q2 w ((W2.setCells w1.heap.size 0 AT.toList).setCells (w1.heap.size + 1) 0 AG.toList) w1.heap.size 67 [.int .i64 x1,.int .i64 x2,.int .i64 x3,.bool x4,.bool x5,.bool x6]∧Bb Q2 w ((W2.setCells w1.heap.size 0 AT.toList).setCells (w1.heap.size + 1) 0 AG.toList) (w1.heap.size + 1) 44 [.int .u64 0,.int .u8 y,.bool tl,.bool false,.bool false]):=⟨M4,A4,G4,T4,B4⟩
  clear hK1 hy1 l1 l2 M1 M2 A2 G2 B6 B6' B7 HCL hla HM0 HBB e1 M3 T3 o3 A3 G3 B3 M4 B4 o4 A4 G4 T4 tx tg
  have hyn:(y != 0) = true:=by simp [hy]
  go_upto_region 2 with (first
    | (refine wpList_store_mid rfl 67 (.tmp 6) (.tmp 13) rfl _ 0 AT rfl (congrArg Value.agg HAT.out.symm) HTX.out (by rw [HAT.out]; exact Tryz.sizeT) (by rw [HAT.out]; exact oneT ⟨x1,x2,x3,x4,x5,x6⟩) ?_)
    | (refine wpList_store_mid rfl 44 (.tmp 7) (.tmp 14) rfl _ 0 AG rfl (congrArg Value.agg HAG.out.symm) HTG.out (by rw [HAG.out]; exact Tryz.sizeG) (by rw [HAG.out]; exact one5 _ _ _ _) ?_))
  clear hW2 HTX HTG
  generalize (W2.setCells w1.heap.size 0 AT.toList).setCells (w1.heap.size + 1) 0 AG.toList = W4 at *
  go_wp2_with fail
  clear k1
  obtain ⟨M4,G4⟩:=HW4.out.1.put5 HW4.out.2.2.1 (.int .u64 0) (.int .u8 y) (.bool tl) (.bool false) (.bool false)
  have M5:=M4.below (Below.refl _ _).drew
  have G5:=G4.below (Below.refl _ _).drew
  have HF:Hid _:=M5.fin
  have HR:Hid (C.Blk _ _ _ _):=G5.bk
  have r0:=HW4.out.2.2.1.bk.cell 0
  have r1:=HW4.out.2.2.1.bk.cell 1
  have r2:=HW4.out.2.2.1.bk.cell 2
  have r3:=HW4.out.2.2.1.bk.cell 3
  have r4:=HW4.out.2.2.1.bk.cell 4
  have rf0:=HW4.out.2.2.1.bk.frozen 0
  have rf1:=HW4.out.2.2.1.bk.frozen 1
  have rf2:=HW4.out.2.2.1.bk.frozen 2
  have rf3:=HW4.out.2.2.1.bk.frozen 3
  have rf4:=HW4.out.2.2.1.bk.frozen 4
  have k0:=HW4.out.2.2.2.2.bk.cell 0
  have k1:=HW4.out.2.2.2.2.bk.cell 1
  have k2:=HW4.out.2.2.2.2.bk.cell 2
  have k3:=HW4.out.2.2.2.2.bk.cell 3
  have k4:=HW4.out.2.2.2.2.bk.cell 4
  simp only [g0L,List.getElem?_cons_zero,List.getElem?_cons_succ] at r0 r1 r2 r3 r4 k0 k1 k2 k3 k4
  clear M4 G4 M5 G5 HW4 hy
  go_region
  go_wp2_with fail
  exact bodyPost_ret (v:=.tuple #[.int .u64 0,.agg #[.int .u64 0,.int .u8 y,.bool tl,.bool false,.bool false]]) (res_ug rfl rfl rfl rfl HR.out) rfl ⟨rfl,HF.out⟩
end
section
variable {Z:Nat→Prop} {w:World} {t c p:Nat} {h:Hw} {P:Par} {S:E.Sc × Us} {m:Nat→Option Nat}
set_option maxHeartbeats 2000000 in
theorem mreach_f (K : Zq Z w t c p h P S m) (O : Ok P (fun r => m r ≠ none) S) (hN : P.N * P.C ≤ h.n) (hn : h.n ≤ 4096) (a : Int) {r pg : Nat} (hr : m r ≠ none) (hp : pg < 1048576) {f o : Nat} (hy : (lookS h S.1 a r pg false).2.2.2 = 0) (hf : (lookS h S.1 a r pg false).2.1.f = (f : Nat)) (hfn : f < h.n) (ho : o < 256) :
    Calls Tryz.prog 27 #[.agg #[.pointer (some ⟨c,0,none⟩),.pointer (some ⟨t,0,none⟩),.int .i64 a,.int .i64 (r:Nat),.int .i64 (pg:Nat),.bool false],.int .i64 (o:Nat)] w fun e w'=>e = .returned (.tuple #[.int .u64 ((f * 256 + o:Nat):Int),.agg #[.int .u64 0,.int .u8 0,.bool (lookS h S.1 a r pg false).2.2.1,.bool (hA h (aheadS h S.1 a r pg false) (f * 256 + o)),.bool (hB h (aheadS h S.1 a r pg false) (f * 256 + o))]])∧Zq Z w' t c p h P (tou h (aheadS h S.1 a r pg false) (f * 256 + o),S.2) m∧Ky Z w w':=by
  have hah:aheadS h S.1 a r pg false = (lookS h S.1 a r pg false).1:=by
    unfold aheadS
    simp
  rw [hah]
  clear hah
  have O1:=O.look h a hr pg false
  obtain ⟨Q,M0,BA,BG⟩:=Mq.box2 K (acL c t a r pg false) g0L 93 44
  obtain ⟨W0,hW0⟩:∃ W0,((w.alloc (.cells (acL c t a r pg false).toArray 93)).alloc (.cells g0L.toArray 44)) = W0:=⟨_,rfl⟩
  rw [hW0] at M0 BA BG
  have HM0:Hid (Mq Z Q w W0 t c p h P S m):=M0
  have HBB:Hid (Bb Q w W0 w.heap.size 93 (acL c t a r pg false)∧Bb Q w W0 (w.heap.size + 1) 44 g0L):=⟨BA,BG⟩
  have CL:=mlook_q M0.q O hN a hr hp false
  obtain ⟨s1,x1,x2,x3,x4,x5,x6,tl,y,hlk⟩:∃ s1 x1 x2 x3 x4 x5 x6 tl y,lookS h S.1 a r pg false = (s1,⟨x1,x2,x3,x4,x5,x6⟩,tl,y):=⟨_,_,_,_,_,_,_,_,_,rfl⟩
  rw [hlk] at CL hy hf O1 ⊢
  simp only at CL hy hf O1 ⊢
  subst hy hf
  have hpa:f * 256 + o < h.n * 256:=by omega
  have CP:Hid (∀ W,Calls Tryz.prog 66 #[.int .i64 (f:Nat),.int .i64 (o:Nat)] W fun e w'=>e = .returned (.tuple #[.int .u64 ((f * 256 + o:Nat):Int),.int .i64 0])∧w' = W):=fun W=>(A.Place_ok (f:Nat) (o:Nat) (by omega) (by omega) (by omega) (by omega) W).mono fun e w' ⟨he,hw⟩=>⟨by rw [he]; simp,hw⟩
  clear hlk O O1 hr hp
  generalize ((f:Nat):Int) = x3 at *
  generalize ((o:Nat):Int) = oi at *
  generalize f * 256 + o = pa at *
  obtain ⟨ha,hha⟩:∃ ha,hA h s1 pa = ha:=⟨_,rfl⟩
  obtain ⟨hb,hhb⟩:∃ hb,hB h s1 pa = hb:=⟨_,rfl⟩
  rw [hha,hhb]
  have HH:Hid (hA h s1 pa = ha∧hB h s1 pa = hb):=⟨hha,hhb⟩
  clear hha hhb
  have HCL:Hid (Calls _ _ _ _ _):=CL
  have hla:(Instr.loadAt 93 (.pointer (some ⟨w.heap.size,0,none⟩))).run Tryz.prog W0 = _:=ld_ac BA.bk
  simp only [acL,g0L] at hW0
  clear K M0 BA BG CL
  generalize ((r:Nat):Int) = ri at *
  generalize ((pg:Nat):Int) = pi at *
  go_enter Tryz.func27,Tryz.ntmps27
  go_upto_region 1 with fail
  try rw [hW0]
  clear hW0
  go_wp2_with (refine wpList_load_wm rfl 93 (.tmp 2) rfl _ _ rfl hla ?_)
  refine HCL.out.mono ?_
  rintro e w1 ⟨rfl,hK1,hy1⟩
  obtain ⟨Q1,hq1,M1,B6,l1⟩:=(HM0.out.turn hK1 hy1).box 67 t0L
  obtain ⟨Q2,hq2,M2,B7,l2⟩:=M1.box 44 g0L
  have A2:=(((HBB.out.1.ky hy1).below l1).wide hq1 |>.below l2).wide hq2
  have G2:=(((HBB.out.2.ky hy1).below l1).wide hq1 |>.below l2).wide hq2
  have B6':=(B6.below l2).wide hq2
  have e1:(w1.alloc (.cells (t0L:List Value).toArray 67)).heap.size = w1.heap.size + 1:=by simp
  rw [e1] at B7
  have hne:w.heap.size + 1 < w1.heap.size:=(HBB.out.2.ky hy1).bk.lt
  obtain ⟨W2,hW2⟩:∃ W2,(w1.alloc (.cells (t0L:List Value).toArray 67)).alloc (.cells (g0L:List Value).toArray 44) = W2:=⟨_,rfl⟩
  rw [hW2] at M2 B7 A2 G2 B6'
  simp only [t0L,g0L] at hW2
  obtain ⟨AT,HAT⟩:∃ AT:Array Value,Hid (AT = #[.int .i64 x1,.int .i64 x2,.int .i64 x3,.bool x4,.bool x5,.bool x6]):=⟨_,rfl⟩
  obtain ⟨AG,HAG⟩:∃ AG:Array Value,Hid (AG = #[.int .u64 0,.int .u8 0,.bool tl,.bool false,.bool false]):=⟨_,rfl⟩
  obtain ⟨tx,M3,T3,o3⟩:=M2.set B6' AT (by rw [HAT.out]; rfl)
  have A3:=o3 _ _ _ (by omega) A2
  have G3:=o3 _ _ _ (by omega) G2
  have B3:=o3 _ _ _ (by omega) B7
  obtain ⟨tg,M4,B4,o4⟩:=M3.set B3 AG (by rw [HAG.out]; rfl)
  have A4:=o4 _ _ _ (by omega) A3
  have G4:=o4 _ _ _ (by omega) G3
  have T4:=o4 _ _ _ (by omega) T3
  have HTX:Hid _:=tx
  have HTG:Hid _:=tg
  have k1:=(B4.bk.cell 1).trans (show AG.toList[1]? = some (.int .u8 0) by rw [HAG.out]; rfl)
  have T4:=T4.congr (show AT.toList = [.int .i64 x1,.int .i64 x2,.int .i64 x3,.bool x4,.bool x5,.bool x6] by rw [HAT.out])
  have B4:=B4.congr (show AG.toList = [.int .u64 0,.int .u8 0,.bool tl,.bool false,.bool false] by rw [HAG.out])
  have HW4:Hid (Mq Z Q2 w ((W2.setCells w1.heap.size 0 AT.toList).setCells (w1.heap.size + 1) 0 AG.toList) t c p h P (s1,S.2) m∧Bb Q2 w ((W2.setCells w1.heap.size 0 AT.toList).setCells (w1.heap.size + 1) 0 AG.toList) w.heap.size 93 (acL c t a ri pi false)∧Bb Q2 w ((W2.setCells w1.heap.size 0 AT.toList).setCells (w1.heap.size + 1) 0 AG.toList) (w.heap.size + 1) 44 g0L∧Bb Q2 w ((W2.setCells w1.heap.size 0 AT.toList).setCells (w1.heap.size + 1) 0 AG.toList) w1.heap.size 67 [.int .i64 x1,.int .i64 x2,.int .i64 x3,.bool x4,.bool x5,.bool x6]∧Bb Q2 w ((W2.setCells w1.heap.size 0 AT.toList).setCells (w1.heap.size + 1) 0 AG.toList) (w1.heap.size + 1) 44 [.int .u64 0,.int .u8 0,.bool tl,.bool false,.bool false]):=⟨M4,A4,G4,T4,B4⟩
  clear hK1 hy1 l1 l2 M1 M2 A2 G2 B6 B6' B7 HCL hla HM0 HBB e1 M3 T3 o3 A3 G3 B3 M4 B4 o4 A4 G4 T4 tx tg
  go_upto_region 2 with (first
    | (refine wpList_store_mid rfl 67 (.tmp 6) (.tmp 13) rfl _ 0 AT rfl (congrArg Value.agg HAT.out.symm) HTX.out (by rw [HAT.out]; exact Tryz.sizeT) (by rw [HAT.out]; exact oneT ⟨x1,x2,x3,x4,x5,x6⟩) ?_)
    | (refine wpList_store_mid rfl 44 (.tmp 7) (.tmp 14) rfl _ 0 AG rfl (congrArg Value.agg HAG.out.symm) HTG.out (by rw [HAG.out]; exact Tryz.sizeG) (by rw [HAG.out]; exact one5 _ _ _ _) ?_))
  clear hW2 HTX HTG
  generalize (W2.setCells w1.heap.size 0 AT.toList).setCells (w1.heap.size + 1) 0 AG.toList = W4 at *
  have a5:=HW4.out.2.1.bk.cell 5
  have t5:=HW4.out.2.2.2.1.bk.cell 5
  simp only [acL,List.getElem?_cons_zero,List.getElem?_cons_succ] at a5 t5
  go_upto_region 6 with fail
  have HW5:=HW4
  clear HW4 a5 t5 k1
  generalize W4 = w5 at *
  have t2:=HW5.out.2.2.2.1.bk.cell 2
  simp only [acL,List.getElem?_cons_zero,List.getElem?_cons_succ] at t2
  have CT:=touch1_q HW5.out.1.q hpa
  simp only [HH.out.1,HH.out.2] at CT
  have CT:Hid (Calls _ _ _ _ _):=CT
  have a0:=HW5.out.2.1.bk.cell 0
  simp only [acL,List.getElem?_cons_zero,List.getElem?_cons_succ] at a0
  go_upto_region 7 with (go_at_call 66; refine (CP.out _).mono ?_; rintro e w' ⟨rfl,hw'⟩; subst hw')
  go_wp2_with fail
  refine CT.out.mono ?_
  rintro e w6 ⟨rfl,hK6,hy6⟩
  have HW6:Hid (Mq Z Q2 w w6 t c p h P (tou h s1 pa,S.2) m∧Bb Q2 w w6 (w.heap.size + 1) 44 g0L∧Bb Q2 w w6 (w1.heap.size + 1) 44 [.int .u64 0,.int .u8 0,.bool tl,.bool false,.bool false]):=⟨HW5.out.1.turn hK6 hy6,HW5.out.2.2.1.ky hy6,HW5.out.2.2.2.2.ky hy6⟩
  clear hK6 hy6 HW5 t2 CT a0 CP
  have k3:=HW6.out.2.2.bk.cell 3
  have k4:=HW6.out.2.2.bk.cell 4
  have kf3:=HW6.out.2.2.bk.frozen 3
  have kf4:=HW6.out.2.2.bk.frozen 4
  simp only [List.getElem?_cons_zero,List.getElem?_cons_succ] at k3 k4
  go_upto_region 8 with fail
  obtain ⟨M7,B7,o7⟩:=HW6.out.1.put HW6.out.2.2 3 (.bool ha)
  have G7:=o7 _ _ _ (by omega) HW6.out.2.1
  obtain ⟨M8,B8,o8⟩:=M7.put B7 4 (.bool hb)
  have G8:=o8 _ _ _ (by omega) G7
  have HW8:Hid (_∧_∧_):=(⟨M8,G8,B8⟩:_∧_∧_)
  clear HW6 k3 k4 kf3 kf4 M7 B7 o7 G7 M8 B8 o8 G8
  generalize (w6.setCell ⟨w1.heap.size + 1,3,none⟩ (.bool ha)).setCell ⟨w1.heap.size + 1,4,none⟩ (.bool hb) = W8 at *
  obtain ⟨M4,G4⟩:=HW8.out.1.put5 HW8.out.2.1 (.int .u64 0) (.int .u8 0) (.bool tl) (.bool ha) (.bool hb)
  have M5:=M4.below (Below.refl _ _).drew
  have G5:=G4.below (Below.refl _ _).drew
  have HF:Hid _:=M5.fin
  have HR:Hid (C.Blk _ _ _ _):=G5.bk
  have r0:=HW8.out.2.1.bk.cell 0
  have r1:=HW8.out.2.1.bk.cell 1
  have r2:=HW8.out.2.1.bk.cell 2
  have r3:=HW8.out.2.1.bk.cell 3
  have r4:=HW8.out.2.1.bk.cell 4
  have rf0:=HW8.out.2.1.bk.frozen 0
  have rf1:=HW8.out.2.1.bk.frozen 1
  have rf2:=HW8.out.2.1.bk.frozen 2
  have rf3:=HW8.out.2.1.bk.frozen 3
  have rf4:=HW8.out.2.1.bk.frozen 4
  have k0:=HW8.out.2.2.bk.cell 0
  have k1:=HW8.out.2.2.bk.cell 1
  have k2:=HW8.out.2.2.bk.cell 2
  have k3:=HW8.out.2.2.bk.cell 3
  have k4:=HW8.out.2.2.bk.cell 4
  simp only [g0L,List.set_cons_succ,List.set_cons_zero,List.getElem?_cons_zero,List.getElem?_cons_succ] at r0 r1 r2 r3 r4 k0 k1 k2 k3 k4
  clear M4 G4 M5 G5 HW8
  go_region
  go_wp2_with fail
  exact bodyPost_ret (v:=.tuple #[.int .u64 (pa:Nat),.agg #[.int .u64 0,.int .u8 0,.bool tl,.bool ha,.bool hb]]) (res_ug rfl rfl rfl rfl HR.out) rfl ⟨rfl,HF.out⟩
set_option maxHeartbeats 2000000 in
theorem mreach_t (K : Zq Z w t c p h P S m) (O : Ok P (fun r => m r ≠ none) S) (hN : P.N * P.C ≤ h.n) (hn : h.n ≤ 4096) (a : Int) {r pg : Nat} (hr : m r ≠ none) (hp : pg < 1048576) {f o : Nat} (hy : (lookS h S.1 a r pg true).2.2.2 = 0) (hf : (lookS h S.1 a r pg true).2.1.f = (f : Nat)) (hfn : f < h.n) (ho : o < 256) (hd : (lookS h S.1 a r pg true).2.1.d = true) :
    Calls Tryz.prog 27 #[.agg #[.pointer (some ⟨c,0,none⟩),.pointer (some ⟨t,0,none⟩),.int .i64 a,.int .i64 (r:Nat),.int .i64 (pg:Nat),.bool true],.int .i64 (o:Nat)] w fun e w'=>e = .returned (.tuple #[.int .u64 ((f * 256 + o:Nat):Int),.agg #[.int .u64 0,.int .u8 0,.bool (lookS h S.1 a r pg true).2.2.1,.bool (hA h (aheadS h S.1 a r pg true) (f * 256 + o)),.bool (hB h (aheadS h S.1 a r pg true) (f * 256 + o))]])∧Zq Z w' t c p h P (tou h (aheadS h S.1 a r pg true) (f * 256 + o),S.2) m∧Ky Z w w':=by
  have hah:aheadS h S.1 a r pg true = (lookS h S.1 a r pg true).1:=by
    unfold aheadS
    simp [hd]
  rw [hah]
  clear hah
  have O1:=O.look h a hr pg true
  obtain ⟨Q,M0,BA,BG⟩:=Mq.box2 K (acL c t a r pg true) g0L 93 44
  obtain ⟨W0,hW0⟩:∃ W0,((w.alloc (.cells (acL c t a r pg true).toArray 93)).alloc (.cells g0L.toArray 44)) = W0:=⟨_,rfl⟩
  rw [hW0] at M0 BA BG
  have HM0:Hid (Mq Z Q w W0 t c p h P S m):=M0
  have HBB:Hid (Bb Q w W0 w.heap.size 93 (acL c t a r pg true)∧Bb Q w W0 (w.heap.size + 1) 44 g0L):=⟨BA,BG⟩
  have CL:=mlook_q M0.q O hN a hr hp true
  obtain ⟨s1,x1,x2,x3,x4,x5,x6,tl,y,hlk⟩:∃ s1 x1 x2 x3 x4 x5 x6 tl y,lookS h S.1 a r pg true = (s1,⟨x1,x2,x3,x4,x5,x6⟩,tl,y):=⟨_,_,_,_,_,_,_,_,_,rfl⟩
  rw [hlk] at CL hy hf O1 hd ⊢
  simp only at CL hy hf O1 hd ⊢
  subst hy hf hd
  have hpa:f * 256 + o < h.n * 256:=by omega
  have CP:Hid (∀ W,Calls Tryz.prog 66 #[.int .i64 (f:Nat),.int .i64 (o:Nat)] W fun e w'=>e = .returned (.tuple #[.int .u64 ((f * 256 + o:Nat):Int),.int .i64 0])∧w' = W):=fun W=>(A.Place_ok (f:Nat) (o:Nat) (by omega) (by omega) (by omega) (by omega) W).mono fun e w' ⟨he,hw⟩=>⟨by rw [he]; simp,hw⟩
  clear hlk O O1 hr hp
  generalize ((f:Nat):Int) = x3 at *
  generalize ((o:Nat):Int) = oi at *
  generalize f * 256 + o = pa at *
  obtain ⟨ha,hha⟩:∃ ha,hA h s1 pa = ha:=⟨_,rfl⟩
  obtain ⟨hb,hhb⟩:∃ hb,hB h s1 pa = hb:=⟨_,rfl⟩
  rw [hha,hhb]
  have HH:Hid (hA h s1 pa = ha∧hB h s1 pa = hb):=⟨hha,hhb⟩
  clear hha hhb
  have HCL:Hid (Calls _ _ _ _ _):=CL
  have hla:(Instr.loadAt 93 (.pointer (some ⟨w.heap.size,0,none⟩))).run Tryz.prog W0 = _:=ld_ac BA.bk
  simp only [acL,g0L] at hW0
  clear K M0 BA BG CL
  generalize ((r:Nat):Int) = ri at *
  generalize ((pg:Nat):Int) = pi at *
  go_enter Tryz.func27,Tryz.ntmps27
  go_upto_region 1 with fail
  try rw [hW0]
  clear hW0
  go_wp2_with (refine wpList_load_wm rfl 93 (.tmp 2) rfl _ _ rfl hla ?_)
  refine HCL.out.mono ?_
  rintro e w1 ⟨rfl,hK1,hy1⟩
  obtain ⟨Q1,hq1,M1,B6,l1⟩:=(HM0.out.turn hK1 hy1).box 67 t0L
  obtain ⟨Q2,hq2,M2,B7,l2⟩:=M1.box 44 g0L
  have A2:=(((HBB.out.1.ky hy1).below l1).wide hq1 |>.below l2).wide hq2
  have G2:=(((HBB.out.2.ky hy1).below l1).wide hq1 |>.below l2).wide hq2
  have B6':=(B6.below l2).wide hq2
  have e1:(w1.alloc (.cells (t0L:List Value).toArray 67)).heap.size = w1.heap.size + 1:=by simp
  rw [e1] at B7
  have hne:w.heap.size + 1 < w1.heap.size:=(HBB.out.2.ky hy1).bk.lt
  obtain ⟨W2,hW2⟩:∃ W2,(w1.alloc (.cells (t0L:List Value).toArray 67)).alloc (.cells (g0L:List Value).toArray 44) = W2:=⟨_,rfl⟩
  rw [hW2] at M2 B7 A2 G2 B6'
  simp only [t0L,g0L] at hW2
  obtain ⟨AT,HAT⟩:∃ AT:Array Value,Hid (AT = #[.int .i64 x1,.int .i64 x2,.int .i64 x3,.bool x4,.bool x5,.bool true]):=⟨_,rfl⟩
  obtain ⟨AG,HAG⟩:∃ AG:Array Value,Hid (AG = #[.int .u64 0,.int .u8 0,.bool tl,.bool false,.bool false]):=⟨_,rfl⟩
  obtain ⟨tx,M3,T3,o3⟩:=M2.set B6' AT (by rw [HAT.out]; rfl)
  have A3:=o3 _ _ _ (by omega) A2
  have G3:=o3 _ _ _ (by omega) G2
  have B3:=o3 _ _ _ (by omega) B7
  obtain ⟨tg,M4,B4,o4⟩:=M3.set B3 AG (by rw [HAG.out]; rfl)
  have A4:=o4 _ _ _ (by omega) A3
  have G4:=o4 _ _ _ (by omega) G3
  have T4:=o4 _ _ _ (by omega) T3
  have HTX:Hid _:=tx
  have HTG:Hid _:=tg
  have k1:=(B4.bk.cell 1).trans (show AG.toList[1]? = some (.int .u8 0) by rw [HAG.out]; rfl)
  have T4:=T4.congr (show AT.toList = [.int .i64 x1,.int .i64 x2,.int .i64 x3,.bool x4,.bool x5,.bool true] by rw [HAT.out])
  have B4:=B4.congr (show AG.toList = [.int .u64 0,.int .u8 0,.bool tl,.bool false,.bool false] by rw [HAG.out])
  have HW4:Hid (Mq Z Q2 w ((W2.setCells w1.heap.size 0 AT.toList).setCells (w1.heap.size + 1) 0 AG.toList) t c p h P (s1,S.2) m∧Bb Q2 w ((W2.setCells w1.heap.size 0 AT.toList).setCells (w1.heap.size + 1) 0 AG.toList) w.heap.size 93 (acL c t a ri pi true)∧Bb Q2 w ((W2.setCells w1.heap.size 0 AT.toList).setCells (w1.heap.size + 1) 0 AG.toList) (w.heap.size + 1) 44 g0L∧Bb Q2 w ((W2.setCells w1.heap.size 0 AT.toList).setCells (w1.heap.size + 1) 0 AG.toList) w1.heap.size 67 [.int .i64 x1,.int .i64 x2,.int .i64 x3,.bool x4,.bool x5,.bool true]∧Bb Q2 w ((W2.setCells w1.heap.size 0 AT.toList).setCells (w1.heap.size + 1) 0 AG.toList) (w1.heap.size + 1) 44 [.int .u64 0,.int .u8 0,.bool tl,.bool false,.bool false]):=⟨M4,A4,G4,T4,B4⟩
  clear hK1 hy1 l1 l2 M1 M2 A2 G2 B6 B6' B7 HCL hla HM0 HBB e1 M3 T3 o3 A3 G3 B3 M4 B4 o4 A4 G4 T4 tx tg
  go_upto_region 2 with (first
    | (refine wpList_store_mid rfl 67 (.tmp 6) (.tmp 13) rfl _ 0 AT rfl (congrArg Value.agg HAT.out.symm) HTX.out (by rw [HAT.out]; exact Tryz.sizeT) (by rw [HAT.out]; exact oneT ⟨x1,x2,x3,x4,x5,true⟩) ?_)
    | (refine wpList_store_mid rfl 44 (.tmp 7) (.tmp 14) rfl _ 0 AG rfl (congrArg Value.agg HAG.out.symm) HTG.out (by rw [HAG.out]; exact Tryz.sizeG) (by rw [HAG.out]; exact one5 _ _ _ _) ?_))
  clear hW2 HTX HTG
  generalize (W2.setCells w1.heap.size 0 AT.toList).setCells (w1.heap.size + 1) 0 AG.toList = W4 at *
  have a5:=HW4.out.2.1.bk.cell 5
  have t5:=HW4.out.2.2.2.1.bk.cell 5
  simp only [acL,List.getElem?_cons_zero,List.getElem?_cons_succ] at a5 t5
  go_upto_region 6 with fail
  have HW5:=HW4
  clear HW4 a5 t5 k1
  generalize W4 = w5 at *
  have t2:=HW5.out.2.2.2.1.bk.cell 2
  simp only [acL,List.getElem?_cons_zero,List.getElem?_cons_succ] at t2
  have CT:=touch1_q HW5.out.1.q hpa
  simp only [HH.out.1,HH.out.2] at CT
  have CT:Hid (Calls _ _ _ _ _):=CT
  have a0:=HW5.out.2.1.bk.cell 0
  simp only [acL,List.getElem?_cons_zero,List.getElem?_cons_succ] at a0
  go_upto_region 7 with (go_at_call 66; refine (CP.out _).mono ?_; rintro e w' ⟨rfl,hw'⟩; subst hw')
  go_wp2_with fail
  refine CT.out.mono ?_
  rintro e w6 ⟨rfl,hK6,hy6⟩
  have HW6:Hid (Mq Z Q2 w w6 t c p h P (tou h s1 pa,S.2) m∧Bb Q2 w w6 (w.heap.size + 1) 44 g0L∧Bb Q2 w w6 (w1.heap.size + 1) 44 [.int .u64 0,.int .u8 0,.bool tl,.bool false,.bool false]):=⟨HW5.out.1.turn hK6 hy6,HW5.out.2.2.1.ky hy6,HW5.out.2.2.2.2.ky hy6⟩
  clear hK6 hy6 HW5 t2 CT a0 CP
  have k3:=HW6.out.2.2.bk.cell 3
  have k4:=HW6.out.2.2.bk.cell 4
  have kf3:=HW6.out.2.2.bk.frozen 3
  have kf4:=HW6.out.2.2.bk.frozen 4
  simp only [List.getElem?_cons_zero,List.getElem?_cons_succ] at k3 k4
  go_upto_region 8 with fail
  obtain ⟨M7,B7,o7⟩:=HW6.out.1.put HW6.out.2.2 3 (.bool ha)
  have G7:=o7 _ _ _ (by omega) HW6.out.2.1
  obtain ⟨M8,B8,o8⟩:=M7.put B7 4 (.bool hb)
  have G8:=o8 _ _ _ (by omega) G7
  have HW8:Hid (_∧_∧_):=(⟨M8,G8,B8⟩:_∧_∧_)
  clear HW6 k3 k4 kf3 kf4 M7 B7 o7 G7 M8 B8 o8 G8
  generalize (w6.setCell ⟨w1.heap.size + 1,3,none⟩ (.bool ha)).setCell ⟨w1.heap.size + 1,4,none⟩ (.bool hb) = W8 at *
  obtain ⟨M4,G4⟩:=HW8.out.1.put5 HW8.out.2.1 (.int .u64 0) (.int .u8 0) (.bool tl) (.bool ha) (.bool hb)
  have M5:=M4.below (Below.refl _ _).drew
  have G5:=G4.below (Below.refl _ _).drew
  have HF:Hid _:=M5.fin
  have HR:Hid (C.Blk _ _ _ _):=G5.bk
  have r0:=HW8.out.2.1.bk.cell 0
  have r1:=HW8.out.2.1.bk.cell 1
  have r2:=HW8.out.2.1.bk.cell 2
  have r3:=HW8.out.2.1.bk.cell 3
  have r4:=HW8.out.2.1.bk.cell 4
  have rf0:=HW8.out.2.1.bk.frozen 0
  have rf1:=HW8.out.2.1.bk.frozen 1
  have rf2:=HW8.out.2.1.bk.frozen 2
  have rf3:=HW8.out.2.1.bk.frozen 3
  have rf4:=HW8.out.2.1.bk.frozen 4
  have k0:=HW8.out.2.2.bk.cell 0
  have k1:=HW8.out.2.2.bk.cell 1
  have k2:=HW8.out.2.2.bk.cell 2
  have k3:=HW8.out.2.2.bk.cell 3
  have k4:=HW8.out.2.2.bk.cell 4
  simp only [g0L,List.set_cons_succ,List.set_cons_zero,List.getElem?_cons_zero,List.getElem?_cons_succ] at r0 r1 r2 r3 r4 k0 k1 k2 k3 k4
  clear M4 G4 M5 G5 HW8
  go_region
  go_wp2_with fail
  exact bodyPost_ret (v:=.tuple #[.int .u64 (pa:Nat),.agg #[.int .u64 0,.int .u8 0,.bool tl,.bool ha,.bool hb]]) (res_ug rfl rfl rfl rfl HR.out) rfl ⟨rfl,HF.out⟩
set_option maxHeartbeats 2000000 in
theorem mreach_s (K : Zq Z w t c p h P S m) (O : Ok P (fun r => m r ≠ none) S) (hN : P.N * P.C ≤ h.n) (hn : h.n ≤ 4096) (a : Int) {r pg : Nat} (hr : m r ≠ none) (hp : pg < 1048576) {f o : Nat} (hy : (lookS h S.1 a r pg true).2.2.2 = 0) (hf : (lookS h S.1 a r pg true).2.1.f = (f : Nat)) (hfn : f < h.n) (ho : o < 256) (hd : (lookS h S.1 a r pg true).2.1.d = false) :
    Calls Tryz.prog 27 #[.agg #[.pointer (some ⟨c,0,none⟩),.pointer (some ⟨t,0,none⟩),.int .i64 a,.int .i64 (r:Nat),.int .i64 (pg:Nat),.bool true],.int .i64 (o:Nat)] w fun e w'=>e = .returned (.tuple #[.int .u64 ((f * 256 + o:Nat):Int),.agg #[.int .u64 0,.int .u8 0,.bool (lookS h S.1 a r pg true).2.2.1,.bool (hA h (aheadS h S.1 a r pg true) (f * 256 + o)),.bool (hB h (aheadS h S.1 a r pg true) (f * 256 + o))]])∧Zq Z w' t c p h P (tou h (aheadS h S.1 a r pg true) (f * 256 + o),S.2) m∧Ky Z w w':=by
  have hah:aheadS h S.1 a r pg true = soilS h (lookS h S.1 a r pg true).1 a r pg:=by
    unfold aheadS
    simp [hd]
  rw [hah]
  clear hah
  have O1:=O.look h a hr pg true
  obtain ⟨Q,M0,BA,BG⟩:=Mq.box2 K (acL c t a r pg true) g0L 93 44
  obtain ⟨W0,hW0⟩:∃ W0,((w.alloc (.cells (acL c t a r pg true).toArray 93)).alloc (.cells g0L.toArray 44)) = W0:=⟨_,rfl⟩
  rw [hW0] at M0 BA BG
  have HM0:Hid (Mq Z Q w W0 t c p h P S m):=M0
  have HBB:Hid (Bb Q w W0 w.heap.size 93 (acL c t a r pg true)∧Bb Q w W0 (w.heap.size + 1) 44 g0L):=⟨BA,BG⟩
  have CL:=mlook_q M0.q O hN a hr hp true
  obtain ⟨s1,x1,x2,x3,x4,x5,x6,tl,y,hlk⟩:∃ s1 x1 x2 x3 x4 x5 x6 tl y,lookS h S.1 a r pg true = (s1,⟨x1,x2,x3,x4,x5,x6⟩,tl,y):=⟨_,_,_,_,_,_,_,_,_,rfl⟩
  rw [hlk] at CL hy hf O1 hd ⊢
  simp only at CL hy hf O1 hd ⊢
  subst hy hf hd
  have CSO:Hid (∀ Q' W,Zq Q' W t c p h P (s1,S.2) m→Calls Tryz.prog 65 #[.agg #[.pointer (some ⟨c,0,none⟩),.pointer (some ⟨t,0,none⟩),.int .i64 a,.int .i64 (r:Nat),.int .i64 (pg:Nat),.bool true]] W fun e w'=>e = .returned (.tuple #[])∧Zq Q' w' t c p h P (soilS h s1 a r pg,S.2) m∧Ky Q' W w'):=fun Q' W KW=>msoil_q KW O1 hN a hr hp true
  obtain ⟨s2,hs2⟩:∃ s2,soilS h s1 a r pg = s2:=⟨_,rfl⟩
  rw [hs2] at CSO ⊢
  clear hs2
  have hpa:f * 256 + o < h.n * 256:=by omega
  have CP:Hid (∀ W,Calls Tryz.prog 66 #[.int .i64 (f:Nat),.int .i64 (o:Nat)] W fun e w'=>e = .returned (.tuple #[.int .u64 ((f * 256 + o:Nat):Int),.int .i64 0])∧w' = W):=fun W=>(A.Place_ok (f:Nat) (o:Nat) (by omega) (by omega) (by omega) (by omega) W).mono fun e w' ⟨he,hw⟩=>⟨by rw [he]; simp,hw⟩
  clear hlk O O1 hr hp
  generalize ((f:Nat):Int) = x3 at *
  generalize ((o:Nat):Int) = oi at *
  generalize f * 256 + o = pa at *
  obtain ⟨ha,hha⟩:∃ ha,hA h s2 pa = ha:=⟨_,rfl⟩
  obtain ⟨hb,hhb⟩:∃ hb,hB h s2 pa = hb:=⟨_,rfl⟩
  rw [hha,hhb]
  have HH:Hid (hA h s2 pa = ha∧hB h s2 pa = hb):=⟨hha,hhb⟩
  clear hha hhb
  have HCL:Hid (Calls _ _ _ _ _):=CL
  have hla:(Instr.loadAt 93 (.pointer (some ⟨w.heap.size,0,none⟩))).run Tryz.prog W0 = _:=ld_ac BA.bk
  simp only [acL,g0L] at hW0
  clear K M0 BA BG CL
  generalize ((r:Nat):Int) = ri at *
  generalize ((pg:Nat):Int) = pi at *
  go_enter Tryz.func27,Tryz.ntmps27
  go_upto_region 1 with fail
  try rw [hW0]
  clear hW0
  go_wp2_with (refine wpList_load_wm rfl 93 (.tmp 2) rfl _ _ rfl hla ?_)
  refine HCL.out.mono ?_
  rintro e w1 ⟨rfl,hK1,hy1⟩
  obtain ⟨Q1,hq1,M1,B6,l1⟩:=(HM0.out.turn hK1 hy1).box 67 t0L
  obtain ⟨Q2,hq2,M2,B7,l2⟩:=M1.box 44 g0L
  have A2:=(((HBB.out.1.ky hy1).below l1).wide hq1 |>.below l2).wide hq2
  have G2:=(((HBB.out.2.ky hy1).below l1).wide hq1 |>.below l2).wide hq2
  have B6':=(B6.below l2).wide hq2
  have e1:(w1.alloc (.cells (t0L:List Value).toArray 67)).heap.size = w1.heap.size + 1:=by simp
  rw [e1] at B7
  have hne:w.heap.size + 1 < w1.heap.size:=(HBB.out.2.ky hy1).bk.lt
  obtain ⟨W2,hW2⟩:∃ W2,(w1.alloc (.cells (t0L:List Value).toArray 67)).alloc (.cells (g0L:List Value).toArray 44) = W2:=⟨_,rfl⟩
  rw [hW2] at M2 B7 A2 G2 B6'
  simp only [t0L,g0L] at hW2
  obtain ⟨AT,HAT⟩:∃ AT:Array Value,Hid (AT = #[.int .i64 x1,.int .i64 x2,.int .i64 x3,.bool x4,.bool x5,.bool false]):=⟨_,rfl⟩
  obtain ⟨AG,HAG⟩:∃ AG:Array Value,Hid (AG = #[.int .u64 0,.int .u8 0,.bool tl,.bool false,.bool false]):=⟨_,rfl⟩
  obtain ⟨tx,M3,T3,o3⟩:=M2.set B6' AT (by rw [HAT.out]; rfl)
  have A3:=o3 _ _ _ (by omega) A2
  have G3:=o3 _ _ _ (by omega) G2
  have B3:=o3 _ _ _ (by omega) B7
  obtain ⟨tg,M4,B4,o4⟩:=M3.set B3 AG (by rw [HAG.out]; rfl)
  have A4:=o4 _ _ _ (by omega) A3
  have G4:=o4 _ _ _ (by omega) G3
  have T4:=o4 _ _ _ (by omega) T3
  have HTX:Hid _:=tx
  have HTG:Hid _:=tg
  have k1:=(B4.bk.cell 1).trans (show AG.toList[1]? = some (.int .u8 0) by rw [HAG.out]; rfl)
  have T4:=T4.congr (show AT.toList = [.int .i64 x1,.int .i64 x2,.int .i64 x3,.bool x4,.bool x5,.bool false] by rw [HAT.out])
  have B4:=B4.congr (show AG.toList = [.int .u64 0,.int .u8 0,.bool tl,.bool false,.bool false] by rw [HAG.out])
  have HW4:Hid (Mq Z Q2 w ((W2.setCells w1.heap.size 0 AT.toList).setCells (w1.heap.size + 1) 0 AG.toList) t c p h P (s1,S.2) m∧Bb Q2 w ((W2.setCells w1.heap.size 0 AT.toList).setCells (w1.heap.size + 1) 0 AG.toList) w.heap.size 93 (acL c t a ri pi true)∧Bb Q2 w ((W2.setCells w1.heap.size 0 AT.toList).setCells (w1.heap.size + 1) 0 AG.toList) (w.heap.size + 1) 44 g0L∧Bb Q2 w ((W2.setCells w1.heap.size 0 AT.toList).setCells (w1.heap.size + 1) 0 AG.toList) w1.heap.size 67 [.int .i64 x1,.int .i64 x2,.int .i64 x3,.bool x4,.bool x5,.bool false]∧Bb Q2 w ((W2.setCells w1.heap.size 0 AT.toList).setCells (w1.heap.size + 1) 0 AG.toList) (w1.heap.size + 1) 44 [.int .u64 0,.int .u8 0,.bool tl,.bool false,.bool false]):=⟨M4,A4,G4,T4,B4⟩
  clear hK1 hy1 l1 l2 M1 M2 A2 G2 B6 B6' B7 HCL hla HM0 HBB e1 M3 T3 o3 A3 G3 B3 M4 B4 o4 A4 G4 T4 tx tg
  go_upto_region 2 with (first
    | (refine wpList_store_mid rfl 67 (.tmp 6) (.tmp 13) rfl _ 0 AT rfl (congrArg Value.agg HAT.out.symm) HTX.out (by rw [HAT.out]; exact Tryz.sizeT) (by rw [HAT.out]; exact oneT ⟨x1,x2,x3,x4,x5,false⟩) ?_)
    | (refine wpList_store_mid rfl 44 (.tmp 7) (.tmp 14) rfl _ 0 AG rfl (congrArg Value.agg HAG.out.symm) HTG.out (by rw [HAG.out]; exact Tryz.sizeG) (by rw [HAG.out]; exact one5 _ _ _ _) ?_))
  clear hW2 HTX HTG
  generalize (W2.setCells w1.heap.size 0 AT.toList).setCells (w1.heap.size + 1) 0 AG.toList = W4 at *
  have a5:=HW4.out.2.1.bk.cell 5
  have t5:=HW4.out.2.2.2.1.bk.cell 5
  simp only [acL,List.getElem?_cons_zero,List.getElem?_cons_succ] at a5 t5
  have CS4:Hid (Calls _ _ _ _ _):=CSO.out Q2 W4 HW4.out.1.q
  have hla:(Instr.loadAt 93 (.pointer (some ⟨w.heap.size,0,none⟩))).run Tryz.prog W4 = _:=ld_ac HW4.out.2.1.bk
  clear CSO
  go_wp2_with (refine wpList_load_wm rfl 93 (.tmp 2) rfl _ _ rfl hla ?_)
  refine CS4.out.mono ?_
  rintro e w5 ⟨rfl,hK5,hy5⟩
  have HW5:Hid (Mq Z Q2 w w5 t c p h P (s2,S.2) m∧Bb Q2 w w5 w.heap.size 93 (acL c t a ri pi true)∧Bb Q2 w w5 (w.heap.size + 1) 44 g0L∧Bb Q2 w w5 w1.heap.size 67 [.int .i64 x1,.int .i64 x2,.int .i64 x3,.bool x4,.bool x5,.bool false]∧Bb Q2 w w5 (w1.heap.size + 1) 44 [.int .u64 0,.int .u8 0,.bool tl,.bool false,.bool false]):=⟨HW4.out.1.turn hK5 hy5,HW4.out.2.1.ky hy5,HW4.out.2.2.1.ky hy5,HW4.out.2.2.2.1.ky hy5,HW4.out.2.2.2.2.ky hy5⟩
  clear hK5 hy5 HW4 a5 t5 k1 hla CS4
  have t2:=HW5.out.2.2.2.1.bk.cell 2
  simp only [acL,List.getElem?_cons_zero,List.getElem?_cons_succ] at t2
  have CT:=touch1_q HW5.out.1.q hpa
  simp only [HH.out.1,HH.out.2] at CT
  have CT:Hid (Calls _ _ _ _ _):=CT
  have a0:=HW5.out.2.1.bk.cell 0
  simp only [acL,List.getElem?_cons_zero,List.getElem?_cons_succ] at a0
  go_upto_region 7 with (go_at_call 66; refine (CP.out _).mono ?_; rintro e w' ⟨rfl,hw'⟩; subst hw')
  go_wp2_with fail
  refine CT.out.mono ?_
  rintro e w6 ⟨rfl,hK6,hy6⟩
  have HW6:Hid (Mq Z Q2 w w6 t c p h P (tou h s2 pa,S.2) m∧Bb Q2 w w6 (w.heap.size + 1) 44 g0L∧Bb Q2 w w6 (w1.heap.size + 1) 44 [.int .u64 0,.int .u8 0,.bool tl,.bool false,.bool false]):=⟨HW5.out.1.turn hK6 hy6,HW5.out.2.2.1.ky hy6,HW5.out.2.2.2.2.ky hy6⟩
  clear hK6 hy6 HW5 t2 CT a0 CP
  have k3:=HW6.out.2.2.bk.cell 3
  have k4:=HW6.out.2.2.bk.cell 4
  have kf3:=HW6.out.2.2.bk.frozen 3
  have kf4:=HW6.out.2.2.bk.frozen 4
  simp only [List.getElem?_cons_zero,List.getElem?_cons_succ] at k3 k4
  go_upto_region 8 with fail
  obtain ⟨M7,B7,o7⟩:=HW6.out.1.put HW6.out.2.2 3 (.bool ha)
  have G7:=o7 _ _ _ (by omega) HW6.out.2.1
  obtain ⟨M8,B8,o8⟩:=M7.put B7 4 (.bool hb)
  have G8:=o8 _ _ _ (by omega) G7
  have HW8:Hid (_∧_∧_):=(⟨M8,G8,B8⟩:_∧_∧_)
  clear HW6 k3 k4 kf3 kf4 M7 B7 o7 G7 M8 B8 o8 G8
  generalize (w6.setCell ⟨w1.heap.size + 1,3,none⟩ (.bool ha)).setCell ⟨w1.heap.size + 1,4,none⟩ (.bool hb) = W8 at *
  obtain ⟨M4,G4⟩:=HW8.out.1.put5 HW8.out.2.1 (.int .u64 0) (.int .u8 0) (.bool tl) (.bool ha) (.bool hb)
  have M5:=M4.below (Below.refl _ _).drew
  have G5:=G4.below (Below.refl _ _).drew
  have HF:Hid _:=M5.fin
  have HR:Hid (C.Blk _ _ _ _):=G5.bk
  have r0:=HW8.out.2.1.bk.cell 0
  have r1:=HW8.out.2.1.bk.cell 1
  have r2:=HW8.out.2.1.bk.cell 2
  have r3:=HW8.out.2.1.bk.cell 3
  have r4:=HW8.out.2.1.bk.cell 4
  have rf0:=HW8.out.2.1.bk.frozen 0
  have rf1:=HW8.out.2.1.bk.frozen 1
  have rf2:=HW8.out.2.1.bk.frozen 2
  have rf3:=HW8.out.2.1.bk.frozen 3
  have rf4:=HW8.out.2.1.bk.frozen 4
  have k0:=HW8.out.2.2.bk.cell 0
  have k1:=HW8.out.2.2.bk.cell 1
  have k2:=HW8.out.2.2.bk.cell 2
  have k3:=HW8.out.2.2.bk.cell 3
  have k4:=HW8.out.2.2.bk.cell 4
  simp only [g0L,List.set_cons_succ,List.set_cons_zero,List.getElem?_cons_zero,List.getElem?_cons_succ] at r0 r1 r2 r3 r4 k0 k1 k2 k3 k4
  clear M4 G4 M5 G5 HW8
  go_region
  go_wp2_with fail
  exact bodyPost_ret (v:=.tuple #[.int .u64 (pa:Nat),.agg #[.int .u64 0,.int .u8 0,.bool tl,.bool ha,.bool hb]]) (res_ug rfl rfl rfl rfl HR.out) rfl ⟨rfl,HF.out⟩
theorem mreach_ok (K : Zq Z w t c p h P S m) (O : Ok P (fun r => m r ≠ none) S) (hN : P.N * P.C ≤ h.n) (hn : h.n ≤ 4096) (a : Int) {r pg : Nat} (hr : m r ≠ none) (hp : pg < 1048576) (wr : Bool) {f o : Nat} (hy : (lookS h S.1 a r pg wr).2.2.2 = 0) (hf : (lookS h S.1 a r pg wr).2.1.f = (f : Nat)) (hfn : f < h.n) (ho : o < 256) :
    Calls Tryz.prog 27 #[.agg #[.pointer (some ⟨c,0,none⟩),.pointer (some ⟨t,0,none⟩),.int .i64 a,.int .i64 (r:Nat),.int .i64 (pg:Nat),.bool wr],.int .i64 (o:Nat)] w fun e w'=>e = .returned (.tuple #[.int .u64 ((f * 256 + o:Nat):Int),.agg #[.int .u64 0,.int .u8 0,.bool (lookS h S.1 a r pg wr).2.2.1,.bool (hA h (aheadS h S.1 a r pg wr) (f * 256 + o)),.bool (hB h (aheadS h S.1 a r pg wr) (f * 256 + o))]])∧Zq Z w' t c p h P (tou h (aheadS h S.1 a r pg wr) (f * 256 + o),S.2) m∧Ky Z w w':=by
  cases wr with
  | false=>exact mreach_f K O hN hn a hr hp hy hf hfn ho
  | true=>cases hd:(lookS h S.1 a r pg true).2.1.d with
    | true=>exact mreach_t K O hN hn a hr hp hy hf hfn ho hd
    | false=>exact mreach_s K O hN hn a hr hp hy hf hfn ho hd
end
end Go.Proofs.YtgljdbabagdhlaaGreat.Pg
