/- The accesses of 'awake', one by one; no condition but those named. -/
import Derived.Test.YtgljdbabagdhlaaGreatVmw
namespace Go.Proofs.YtgljdbabagdhlaaGreat.Pg
open P E Go.ChangeShapes Go.WideShapes Go.ChangeAt Go.RowKit
set_option linter.unusedVariables false
set_option maxRecDepth 8192
def xT:T.Tr:=⟨3,1,40,true,true,true⟩
structure Aw1 (m:Nat→Option Nat) (S:E.Sc × Us):Prop where
  iv:∃ v,Iv (fun r=>m r ≠ none) S v∧v 1 = w1∧v 2 = w2∧v 4 = 0
  ln:Ln S.1
  l:S.1.l = []
structure Aw2 (m:Nat→Option Nat) (S:E.Sc × Us):Prop where
  iv:∃ v,Iv (fun r=>m r ≠ none) S v∧v 2 = w2∧v 4 = 0
  l:S.1.l = [xT]
  hit:∀ s:E.Sc,s.a = S.1.a→s.b = S.1.b→hA (hwOf us) s 10245 = true∧hB (hwOf us) s 10245 = false
  by' : F.num S.1.m 10245 1 = 18
structure Aw3 (m:Nat→Option Nat) (S:E.Sc × Us):Prop where
  iv:∃ v,Iv (fun r=>m r ≠ none) S v∧v 2 = w2∧v 4 = 0
  l:∀ x ∈ S.1.l,x.p = 1
section
variable {Z:Nat→Prop} {w:World} {t c p:Nat} {S:E.Sc × Us} {m:Nat→Option Nat}
theorem fil_nil:T.filL (hwOf us).t ⟨3,1,40,true,true,false⟩ (T.rmL 3 1 (T.fd 3 1 [])) = [⟨3,1,40,true,true,false⟩]:=by kernel_rfl
theorem mrk_one:T.mrkL 3 1 [⟨3,1,40,true,true,false⟩] = [xT]:=by kernel_rfl
theorem soil_l (h:Hw) (s:E.Sc) (a:Int) (r pg:Nat):(soilS h s a r pg).l = T.mrkL a pg s.l:=by
  unfold soilS soil0
  dsimp only
  split
  · show T.mrkL a pg (setS s r pg _ _).l = _
    rw [set_l]
  · rfl
theorem aw_a (K : Zq Z w t c p (hwOf us) (par us 0) S m) (hN : (par us 0).N * (par us 0).C ≤ (hwOf us).n) (A : Aw1 m S) :
    Calls Tryz.prog 10 #[.pointer (some ⟨c,0,none⟩),.pointer (some ⟨t,0,none⟩),.int .i64 3,.int .i64 0,.int .u64 260,.int .i64 2,.int .u64 4660] w fun e w'=>e = .returned (.tuple #[.agg #[.int .u64 0,.int .u8 0,.bool false,.bool false,.bool false],.int .i64 0])∧∃ S',Zq Z w' t c p (hwOf us) (par us 0) S' m∧Ky Z w w'∧Aw2 m S':=by
  obtain ⟨v,I,v1,v2,v4⟩:=A.iv
  have hl:=A.l
  have hpk:(T.pk 3 (1:Nat) S.1.l).2.1 = false:=by rw [hl]; decide +kernel
  obtain ⟨y1,y2,y3⟩:=I.look_miss (hwOf us) (pg:=1) (by decide) true hpk
  rw [v1] at y1 y3
  obtain ⟨y4,y5⟩:=y3 w1_al
  rw [w1_tr] at y4 y5
  have hy:(lookS (hwOf us) S.1 3 0 1 true).2.2.2 = 0:=y1.trans w1_al
  have hf:(lookS (hwOf us) S.1 3 0 1 true).2.1.f = ((40:Nat):Int):=by rw [y4]; rfl
  have ms:=(I.ln_ahead A.ln (hwOf us) 3 (pg:=1) (by decide) true).miss (hwOf us) (pa:=40 * 256 + 4) (by decide)
  have hah:aheadS (hwOf us) S.1 3 0 1 true = soilS (hwOf us) (lookS (hwOf us) S.1 3 0 1 true).1 3 0 1:=by
    unfold aheadS
    rw [y4]
    rfl
  have hll:(aheadS (hwOf us) S.1 3 0 1 true).l = [xT]:=by
    rw [hah,soil_l,y5,hl]
    exact (congrArg (T.mrkL 3 1) fil_nil).trans mrk_one
  refine (mStore_ok K I.ok hN (by rw [hw_n]; decide) 3 (r:=0) (pg:=1) (o:=4) (z:=2) (f:=40) I.rt (by decide) (chk_ok (by decide) I.rt) (by decide) (by decide) (by decide) (by decide) hy hf (by rw [hw_n]; decide) 4660 (by decide) (by decide)).mono ?_
  rintro e w' ⟨rfl,k1,k2⟩
  rw [y2,ms.1,ms.2]
  refine ⟨rfl,_,k1,k2,⟨_,((I.ahead (hwOf us) 3 (pg:=1) (by decide) true).tou (hwOf us) (40 * 256 + 4)).lay (f:=40) (o:=4) (z:=2) (by decide) (F.byt 4660),(ahV_ne true (by decide)).trans v2,(ahV_ne true (by decide)).trans v4⟩,hll,fun s ea eb => ?_, ?_⟩
  · have q:=hit_again (aheadS (hwOf us) S.1 3 0 1 true) (h:=hwOf us) (by decide) (pa:=40 * 256 + 4) (pb:=10245) (by decide)
    unfold hA hB hA at q ⊢
    rw [ea,eb]
    exact q
  · exact byte_back _ 10244
theorem pk_x:T.pk 3 1 [xT] = (xT,true,0):=by kernel_rfl
theorem fd_x:T.fd 3 1 [xT] = [xT]:=by kernel_rfl
theorem aw_b (K : Zq Z w t c p (hwOf us) (par us 0) S m) (hN : (par us 0).N * (par us 0).C ≤ (hwOf us).n) (A : Aw2 m S) :
    Calls Tryz.prog 11 #[.pointer (some ⟨c,0,none⟩),.pointer (some ⟨t,0,none⟩),.int .i64 3,.int .i64 0,.int .u64 261,.int .i64 1] w fun e w'=>e = .returned (.tuple #[.agg #[.int .u64 18,.int .u8 0,.bool true,.bool true,.bool false],.int .i64 0])∧∃ S',Zq Z w' t c p (hwOf us) (par us 0) S' m∧Ky Z w w'∧Aw3 m S':=by
  obtain ⟨v,I,v2,v4⟩:=A.iv
  have hl:=A.l
  have hlk:lookS (hwOf us) S.1 3 0 1 false = ({ S.1 with l:=[xT] },xT,true,0):=by
    have e:T.pk 3 ((1:Nat):Int) S.1.l = (xT,true,0):=by rw [hl]; exact pk_x
    rw [look_hit (hwOf us) S.1 false (by rw [e]; rfl),e,hl]
    exact congrArg (fun l=>(({ S.1 with l:=l }:E.Sc),xT,true,(0:Int))) fd_x
  have hah:aheadS (hwOf us) S.1 3 0 1 false = { S.1 with l:=[xT] }:=by
    unfold aheadS
    rw [hlk]
    rfl
  have hit:=A.hit { S.1 with l:=[xT] } rfl rfl
  refine (mLoad_ok K I.ok hN (by rw [hw_n]; decide) 3 (r:=0) (pg:=1) (o:=5) (z:=1) (f:=40) I.rt (by decide) (chk_ok (by decide) I.rt) (by decide) (by decide) (by decide) (by decide) (by rw [hlk]) (by rw [hlk]; rfl) (by rw [hw_n]; decide)).mono ?_
  rintro e w' ⟨rfl,k1,k2⟩
  rw [hah] at k1 ⊢
  rw [hlk,hit.1,hit.2]
  refine ⟨?_,_,k1,k2,⟨v,(I.m_eq (s:={ S.1 with l:=[xT] }) rfl (fun x hx=>I.tr x (by rw [hl]; exact hx))).tou (hwOf us) _,v2,v4⟩,fun x hx => ?_⟩
  · have e18:F.num (E.tou (hwOf us) { S.1 with l:=[xT] } (40 * 256 + 5)).m (40 * 256 + 5) 1 = 18:=A.by'
    rw [e18]
  · have hx:x ∈ [xT]:=hx
    rw [List.mem_singleton.1 hx]
    rfl
theorem pk_no {a:Int} {pg:Nat} {l:List T.Tr} (h:∀ x ∈ l,x.p = 1) (hp:pg ≠ 1):(T.pk a pg l).2.1 = false:=by
  cases q:(T.pk a pg l).2.1 with
  | false=>rfl
  | true=>
    exfalso
    unfold T.pk at q
    by_cases c:(T.okA a && T.okP pg) = true
    · rw [if_pos c] at q
      cases hx:T.look a pg l with
      | none=>rw [hx] at q; exact absurd q (by decide)
      | some x=>
        have h1:=h x (look_in hx)
        unfold T.look at hx
        have h2:=List.find?_some hx
        unfold T.hk at h2
        simp only [Bool.and_eq_true,beq_iff_eq] at h2
        omega
    · rw [if_neg c] at q
      exact absurd q (by decide)
theorem look_no_l (h:Hw) (s:E.Sc) {a:Int} {pg:Nat} (wr:Bool) (hy:(lookS h s a 0 pg wr).2.2.2 ≠ 0):(lookS h s a 0 pg wr).1.l = T.rmL a pg (T.fd a pg s.l):=by
  unfold lookS at hy ⊢
  by_cases c:((T.pk a pg s.l).2.1 && alw wr (T.pk a pg s.l).1) = true
  · rw [if_pos c] at hy; exact absurd rfl hy
  · rw [if_neg c] at hy ⊢
    unfold walkS at hy ⊢
    split at hy
    · exact absurd rfl hy
    · rename_i d
      rw [if_neg d]
      exact wk_l _ _ _ _
theorem aw_c (K : Zq Z w t c p (hwOf us) (par us 0) S m) (hN : (par us 0).N * (par us 0).C ≤ (hwOf us).n) (A : Aw3 m S) :
    Calls Tryz.prog 10 #[.pointer (some ⟨c,0,none⟩),.pointer (some ⟨t,0,none⟩),.int .i64 3,.int .i64 0,.int .u64 512,.int .i64 1,.int .u64 1] w fun e w'=>e = .returned (.tuple #[.agg #[.int .u64 0,.int .u8 3,.bool false,.bool false,.bool false],.int .i64 0])∧∃ S',Zq Z w' t c p (hwOf us) (par us 0) S' m∧Ky Z w w'∧Aw3 m S':=by
  obtain ⟨v,I,v2,v4⟩:=A.iv
  obtain ⟨y1,y2,_⟩:=I.look_miss (hwOf us) (a:=3) (pg:=2) (by decide) true (pk_no A.l (by decide))
  rw [v2,w2_al] at y1
  have hy:(lookS (hwOf us) S.1 3 0 2 true).2.2.2 ≠ 0:=by rw [y1]; decide
  have hll:=look_no_l (hwOf us) S.1 true hy
  refine (mStore_no K I.ok hN 3 (r:=0) (pg:=2) (o:=0) (z:=1) I.rt (by decide) (chk_ok (by decide) I.rt) (by decide) (by decide) (by decide) (by decide) hy 1).mono ?_
  rintro e w' ⟨rfl,k1,k2⟩
  rw [y1,y2]
  refine ⟨rfl,_,k1,k2,⟨_,(I.look (hwOf us) 3 (pg:=2) (by decide) true).1, ?_,(lkV_ne true (by decide)).trans v4⟩,fun x hx => ?_⟩
  · have hn:=pk_no (a:=3) (pg:=2) A.l (by decide)
    unfold lkV wkV
    rw [hn,v2,w2_al]
    exact v2
  · rw [hll] at hx
    exact A.l x (fd_in (rmL_in hx))
theorem aw_d (K : Zq Z w t c p (hwOf us) (par us 0) S m) (hN : (par us 0).N * (par us 0).C ≤ (hwOf us).n) (A : Aw3 m S) :
    Calls Tryz.prog 11 #[.pointer (some ⟨c,0,none⟩),.pointer (some ⟨t,0,none⟩),.int .i64 3,.int .i64 0,.int .u64 1024,.int .i64 1] w fun e w'=>e = .returned (.tuple #[.agg #[.int .u64 0,.int .u8 1,.bool false,.bool false,.bool false],.int .i64 0])∧∃ S',Zq Z w' t c p (hwOf us) (par us 0) S' m∧Ky Z w w':=by
  obtain ⟨v,I,v2,v4⟩:=A.iv
  obtain ⟨y1,y2,_⟩:=I.look_miss (hwOf us) (a:=3) (pg:=4) (by decide) false (pk_no A.l (by decide))
  rw [v4,w0_al] at y1
  have hy:(lookS (hwOf us) S.1 3 0 4 false).2.2.2 ≠ 0:=by rw [y1]; decide
  refine (mLoad_no K I.ok hN 3 (r:=0) (pg:=4) (o:=0) (z:=1) I.rt (by decide) (chk_ok (by decide) I.rt) (by decide) (by decide) (by decide) (by decide) hy).mono ?_
  rintro e w' ⟨rfl,k1,k2⟩
  rw [y1,y2]
  exact ⟨rfl,_,k1,k2⟩
end
end Go.Proofs.YtgljdbabagdhlaaGreat.Pg
namespace Go.Proofs.YtgljdbabagdhlaaGreat.Pg
open P E Go.ChangeShapes Go.WideShapes Go.ChangeAt Go.RowKit
set_option linter.unusedVariables false
set_option linter.unusedSimpArgs false
set_option maxRecDepth 100000
section
variable {Z Q:Nat→Prop} {w w0 W:World} {t c p:Nat} {h:Hw} {P:Par} {S:E.Sc × Us} {m:Nat→Option Nat}
theorem Ts.zq' (K:Ts w0 Z t c p h P S m w):Zq (fun k=>k < w0.heap.size) w t c p h P S m:=by
  obtain ⟨X,tt,hz,hl,_⟩:=K.zt.step
  exact ⟨⟨X,tt,fun k hk z=>by have:=hl k hk; omega⟩,fun k hk=>Nat.lt_of_lt_of_le hk K.zt.be.size⟩
theorem got_box (M:Mq Z Q w0 W t c p h P S m) (A:Array Value) (hA:A.size = 5):∃ Q',(W.alloc (.cells #[.int .u64 0,.int .u8 0,.bool false,.bool false,.bool false] 44)).there W.heap.size 0 A.size∧Mq Z Q' w0 ((W.alloc (.cells #[.int .u64 0,.int .u8 0,.bool false,.bool false,.bool false] 44)).setCells W.heap.size 0 A.toList) t c p h P S m∧Bb Q' w0 ((W.alloc (.cells #[.int .u64 0,.int .u8 0,.bool false,.bool false,.bool false] 44)).setCells W.heap.size 0 A.toList) W.heap.size 44 A.toList∧∀ b ty L,Bb Q w0 W b ty L→Bb Q' w0 ((W.alloc (.cells #[.int .u64 0,.int .u8 0,.bool false,.bool false,.bool false] 44)).setCells W.heap.size 0 A.toList) b ty L:=by
  obtain ⟨Q',hq,M1,B1,l1⟩:=M.box 44 g0L
  obtain ⟨tx,M2,B2,o2⟩:=M1.set B1 A (by rw [hA]; rfl)
  exact ⟨Q',tx,M2,B2,fun b ty L B=>o2 b ty L (by have:=B.bk.lt; omega) ((B.below l1).wide hq)⟩
end
set_option maxHeartbeats 4000000 in
theorem awake16_any (w:World):Calls Tryz.prog 7 #[] w fun e w'=>e = .returned (.bool true)∧Below w.heap.size w w':=by
  go_enter Tryz.func7,Tryz.ntmps7
  go_wp2_with fail
  refine (over16_any w).mono ?_
  rintro e W ⟨c,t,p,n,S,m,rfl,O⟩
  obtain ⟨I,L,hl⟩:=O.iv
  have hN:=O.ts.hN
  have HB:Hid (Below w.heap.size w W):=O.ts.zt.be
  have M:Mq _ _ W W t c p (hwOf us) (par us 0) S m:=Mq.start O.ts.zq'
  have hh:∀ pg,pg < 32→hasP (wd S.1.m) 0 pg = true:=fun pg hp=>I.has hp
  have e1:N.lo true false true true false false + 40 * 256 = w1:=rfl
  have e2:N.lo true false true false false false + 41 * 256 = w2:=rfl
  have CS1:Hid (Calls Tryz.prog 9 #[.pointer (some ⟨t,0,none⟩),.int .i64 0,.int .i64 1,.agg #[.bool true,.bool false,.bool true,.bool true,.bool false,.bool false,.int .i64 40]] W fun e w'=>(∃ x,e = .returned (.int .i64 x))∧Zq (fun k=>k < w.heap.size) w' t c p (hwOf us) (par us 0) (setS S.1 0 1 true w1,S.2) m∧Ky (fun k=>k < w.heap.size) W w'):=(set_q M.q I.ok hN (r:=0) I.rt (pg:=1) (by decide) true false true true false false 40).mono fun e w' ⟨he,k1,k2⟩=>⟨⟨_,he⟩,k1,k2⟩
  have I1:=I.set (pg:=1) (by decide) (x:=w1) (lf_word (by decide +kernel)) (fun _=>⟨40,by decide +kernel,by decide,by decide⟩)
  have I2:=I1.set (pg:=2) (by decide) (x:=w2) (lf_word (by decide +kernel)) (fun _=>⟨41,by decide +kernel,by decide,by decide⟩)
  have CS2:Hid (∀ W1,Zq (fun k=>k < w.heap.size) W1 t c p (hwOf us) (par us 0) (setS S.1 0 1 true w1,S.2) m→Calls Tryz.prog 9 #[.pointer (some ⟨t,0,none⟩),.int .i64 0,.int .i64 2,.agg #[.bool true,.bool false,.bool true,.bool false,.bool false,.bool false,.int .i64 41]] W1 fun e w'=>(∃ x,e = .returned (.int .i64 x))∧Zq (fun k=>k < w.heap.size) w' t c p (hwOf us) (par us 0) (setS (setS S.1 0 1 true w1) 0 2 true w2,S.2) m∧Ky (fun k=>k < w.heap.size) W1 w'):=fun W1 K1=>(set_q K1 I1.ok hN (r:=0) I1.rt (pg:=2) (by decide) true false true false false false 41).mono fun e w' ⟨he,k1,k2⟩=>⟨⟨_,he⟩,k1,k2⟩
  have A1:Aw1 m ({ (setS (setS S.1 0 1 true w1) 0 2 true w2) with z:=0 },S.2):=by
    have e:(setS (setS S.1 0 1 true w1) 0 2 true w2).l = S.1.l:=by rw [set_l,set_l]
    refine ⟨⟨_,I2.m_eq rfl (fun x hx => ?_),rfl,rfl,rfl⟩, ?_,e.trans hl⟩
    · have hx:x ∈ (setS (setS S.1 0 1 true w1) 0 2 true w2).l:=hx
      rw [e,hl] at hx
      exact absurd hx (List.not_mem_nil)
    · exact Ln.ab (s:=S.1) L ((set_a _ _ _ _ _).trans (set_a _ _ _ _ _)) ((set_b _ _ _ _ _).trans (set_b _ _ _ _ _))
  have HM:Hid (Mq (fun k=>k < w.heap.size) (fun k=>k < w.heap.size) W W t c p (hwOf us) (par us 0) S m):=M
  have HA1:Hid (Aw1 m _):=A1
  generalize setS (setS S.1 0 1 true w1) 0 2 true w2 = s2 at *
  generalize setS S.1 0 1 true w1 = s1 at *
  clear I I1 I2 A1 L hl M O e1 e2 hh
  go_wp2_with fail
  refine CS1.out.mono ?_
  rintro e W1 ⟨⟨x1,rfl⟩,k1,y1⟩
  have HM1:Hid (Mq _ _ W W1 t c p (hwOf us) (par us 0) (s1,S.2) m):=HM.out.turn k1 y1
  have C2:Hid (Calls _ _ _ _ _):=CS2.out W1 k1
  clear k1 y1 HM CS1 CS2
  go_wp2_with fail
  refine C2.out.mono ?_
  rintro e W2 ⟨⟨x2,rfl⟩,k1,y1⟩
  have HM2:Hid (Mq _ _ W W2 t c p (hwOf us) (par us 0) (s2,S.2) m):=HM1.out.turn k1 y1
  have C3:Hid (Calls _ _ _ _ _):=settle_q k1
  clear k1 y1 HM1 C2
  go_wp2_with fail
  refine C3.out.mono ?_
  rintro e W3 ⟨rfl,k1,y1⟩
  have HM3:Hid (Mq _ _ W W3 t c p (hwOf us) (par us 0) ({ s2 with z:=0 },S.2) m):=HM2.out.turn k1 y1
  have C4:Hid (Calls _ _ _ _ _):=aw_a k1 hN HA1.out
  clear k1 y1 HM2 C3 HA1
  go_wp2_with fail
  refine C4.out.mono ?_
  rintro e Wa ⟨rfl,Sa,k1,y1,A1⟩
  obtain ⟨AGa,HGa⟩:∃ A:Array Value,Hid (A = #[.int .u64 0,.int .u8 0,.bool false,.bool false,.bool false]):=⟨_,rfl⟩
  obtain ⟨Qa,tx,M1,Ba,o1⟩:=got_box (HM3.out.turn k1 y1) AGa (by rw [HGa.out]; rfl)
  have Ba:=Ba.congr (show AGa.toList = [.int .u64 0,.int .u8 0,.bool false,.bool false,.bool false] by rw [HGa.out])
  have HTX:Hid _:=tx
  have Ha:Hid (_∧_∧True):=(⟨M1,Ba,trivial⟩:_∧_∧True)
  have HA1:Hid (_):=A1
  clear k1 y1 tx M1 o1 C4 Ba A1 HM3
  go_upto_region 8 with (refine wpList_store_mid rfl 44 (.tmp 5) (.tmp 36) rfl _ 0 AGa rfl (congrArg Value.agg HGa.out.symm) HTX.out (by rw [HGa.out]; exact Tryz.sizeG) (by rw [HGa.out]; exact oneG _ _ _ _ _) ?_)
  clear HTX
  generalize (Wa.alloc (.cells #[.int .u64 0,.int .u8 0,.bool false,.bool false,.bool false] 44)).setCells Wa.heap.size 0 AGa.toList = Va at *
  have Ca:Hid (Calls _ _ _ _ _):=aw_b Ha.out.1.q hN HA1.out
  clear HA1
  go_wp2_with fail
  refine Ca.out.mono ?_
  rintro e Wb ⟨rfl,Sb,k1,y1,A1⟩
  obtain ⟨AGb,HGb⟩:∃ A:Array Value,Hid (A = #[.int .u64 18,.int .u8 0,.bool true,.bool true,.bool false]):=⟨_,rfl⟩
  obtain ⟨Qb,tx,M1,Bb,o1⟩:=got_box (Ha.out.1.turn k1 y1) AGb (by rw [HGb.out]; rfl)
  have Ba:=o1 _ _ _ (Ha.out.2.1.ky y1)
  have Bb:=Bb.congr (show AGb.toList = [.int .u64 18,.int .u8 0,.bool true,.bool true,.bool false] by rw [HGb.out])
  have HTX:Hid _:=tx
  have Hb:Hid (_∧_∧_∧True):=(⟨M1,Ba,Bb,trivial⟩:_∧_∧_∧True)
  have HA1:Hid (_):=A1
  clear k1 y1 tx M1 o1 Ca Ba Bb A1 Ha
  go_upto_region 9 with (refine wpList_store_mid rfl 44 (.tmp 7) (.tmp 43) rfl _ 0 AGb rfl (congrArg Value.agg HGb.out.symm) HTX.out (by rw [HGb.out]; exact Tryz.sizeG) (by rw [HGb.out]; exact oneG _ _ _ _ _) ?_)
  clear HTX
  generalize (Wb.alloc (.cells #[.int .u64 0,.int .u8 0,.bool false,.bool false,.bool false] 44)).setCells Wb.heap.size 0 AGb.toList = Vb at *
  have Cb:Hid (Calls _ _ _ _ _):=aw_c Hb.out.1.q hN HA1.out
  clear HA1
  go_wp2_with fail
  refine Cb.out.mono ?_
  rintro e Wc ⟨rfl,Sc,k1,y1,A1⟩
  obtain ⟨AGc,HGc⟩:∃ A:Array Value,Hid (A = #[.int .u64 0,.int .u8 3,.bool false,.bool false,.bool false]):=⟨_,rfl⟩
  obtain ⟨Qc,tx,M1,Bc,o1⟩:=got_box (Hb.out.1.turn k1 y1) AGc (by rw [HGc.out]; rfl)
  have Ba:=o1 _ _ _ (Hb.out.2.1.ky y1)
  have Bb:=o1 _ _ _ (Hb.out.2.2.1.ky y1)
  have Bc:=Bc.congr (show AGc.toList = [.int .u64 0,.int .u8 3,.bool false,.bool false,.bool false] by rw [HGc.out])
  have HTX:Hid _:=tx
  have Hc:Hid (_∧_∧_∧_∧True):=(⟨M1,Ba,Bb,Bc,trivial⟩:_∧_∧_∧_∧True)
  have HA1:Hid (_):=A1
  clear k1 y1 tx M1 o1 Cb Ba Bb Bc A1 Hb
  go_upto_region 10 with (refine wpList_store_mid rfl 44 (.tmp 9) (.tmp 50) rfl _ 0 AGc rfl (congrArg Value.agg HGc.out.symm) HTX.out (by rw [HGc.out]; exact Tryz.sizeG) (by rw [HGc.out]; exact oneG _ _ _ _ _) ?_)
  clear HTX
  generalize (Wc.alloc (.cells #[.int .u64 0,.int .u8 0,.bool false,.bool false,.bool false] 44)).setCells Wc.heap.size 0 AGc.toList = Vc at *
  have Cc:Hid (Calls _ _ _ _ _):=aw_d Hc.out.1.q hN HA1.out
  clear HA1
  go_wp2_with fail
  refine Cc.out.mono ?_
  rintro e Wd ⟨rfl,Sd,k1,y1⟩
  obtain ⟨AGd,HGd⟩:∃ A:Array Value,Hid (A = #[.int .u64 0,.int .u8 1,.bool false,.bool false,.bool false]):=⟨_,rfl⟩
  obtain ⟨Qd,tx,M1,Bd,o1⟩:=got_box (Hc.out.1.turn k1 y1) AGd (by rw [HGd.out]; rfl)
  have Ba:=o1 _ _ _ (Hc.out.2.1.ky y1)
  have Bb:=o1 _ _ _ (Hc.out.2.2.1.ky y1)
  have Bc:=o1 _ _ _ (Hc.out.2.2.2.1.ky y1)
  have Bd:=Bd.congr (show AGd.toList = [.int .u64 0,.int .u8 1,.bool false,.bool false,.bool false] by rw [HGd.out])
  have HTX:Hid _:=tx
  have Hd:Hid (_∧_∧_∧_∧_∧True):=(⟨M1,Ba,Bb,Bc,Bd,trivial⟩:_∧_∧_∧_∧_∧True)
  clear k1 y1 tx M1 o1 Cc Ba Bb Bc Bd Hc
  go_upto_region 11 with (refine wpList_store_mid rfl 44 (.tmp 11) (.tmp 57) rfl _ 0 AGd rfl (congrArg Value.agg HGd.out.symm) HTX.out (by rw [HGd.out]; exact Tryz.sizeG) (by rw [HGd.out]; exact oneG _ _ _ _ _) ?_)
  clear HTX
  generalize (Wd.alloc (.cells #[.int .u64 0,.int .u8 0,.bool false,.bool false,.bool false] 44)).setCells Wd.heap.size 0 AGd.toList = Vd at *
  have hla:(Instr.loadAt 44 (.pointer (some ⟨Wa.heap.size,0,none⟩))).run Tryz.prog Vd = _:=ld_got Hd.out.2.1.bk
  have hlb:(Instr.loadAt 44 (.pointer (some ⟨Wb.heap.size,0,none⟩))).run Tryz.prog Vd = _:=ld_got Hd.out.2.2.1.bk
  have c1:=Hd.out.2.2.2.1.bk.cell 1
  have d1:=Hd.out.2.2.2.2.1.bk.cell 1
  simp only [List.getElem?_cons_zero,List.getElem?_cons_succ] at c1 d1
  have HF:Hid (Below w.heap.size w Vd):=by
    have k:=Hd.out.1.fin.2
    have b:=HB.out
    exact ⟨k.os.trans b.os,k.tape.trans b.tape,k.output.trans b.output,Nat.le_trans b.size k.size,fun i hi=>(k.block i hi).trans (b.block i hi)⟩
  clear Hd HB
  go_wp2_with (first
    | (refine wpList_load_wm rfl 44 (.tmp 5) rfl _ _ rfl hla ?_)
    | (refine wpList_load_wm rfl 44 (.tmp 7) rfl _ _ rfl hlb ?_))
  exact bodyPost_ret (v:=.bool true) (by simp [results,Tryz.results7,go_sem]) rfl ⟨rfl,HF.out⟩
end Go.Proofs.YtgljdbabagdhlaaGreat.Pg
namespace Go.Proofs.YtgljdbabagdhlaaGreat.Pg
open P E Go.ChangeShapes Go.WideShapes Go.ChangeAt Go.RowKit
set_option linter.unusedVariables false
set_option maxRecDepth 8192
section
variable {Z:Nat→Prop} {w:World} {t c p:Nat} {S:E.Sc × Us} {m:Nat→Option Nat} {v:Nat→Int}
theorem set_iv (K : Zq Z w t c p (hwOf us) (par us 0) S m) (hN : (par us 0).N * (par us 0).C ≤ (hwOf us).n) (I : Iv (fun r => m r ≠ none) S v) {pg : Nat} (hp : pg < 32) (b1 b2 b3 b4 b5 b6 : Bool) (x : Int) (hm : N.may b1 b2 b3 b4 b5 b6 x = true) (hf : Fr x) :
    Calls Tryz.prog 9 #[.pointer (some ⟨t,0,none⟩),.int .i64 0,.int .i64 (pg:Nat),.agg #[.bool b1,.bool b2,.bool b3,.bool b4,.bool b5,.bool b6,.int .i64 x]] w fun e w'=>e = .returned (.int .i64 0)∧Zq Z w' t c p (hwOf us) (par us 0) (setS S.1 0 pg true (N.lo b1 b2 b3 b4 b5 b6 + x * 256),S.2) m∧Ky Z w w'∧Iv (fun r=>m r ≠ none) (setS S.1 0 pg true (N.lo b1 b2 b3 b4 b5 b6 + x * 256),S.2) (upd v pg (N.lo b1 b2 b3 b4 b5 b6 + x * 256)):=by
  have hl:=N.lo_range b1 b2 b3 b4 b5 b6
  have hd:(N.lo b1 b2 b3 b4 b5 b6 + x * 256) / 256 = x:=by omega
  refine (set_q K I.ok hN (r:=0) I.rt (pg:=pg) (by omega) b1 b2 b3 b4 b5 b6 x).mono ?_
  rintro e w' ⟨rfl,k1,k2⟩
  rw [hm] at k1 ⊢
  refine ⟨?_,k1,k2,I.set hp (lf_word hm) (fun _=>by rw [hd]; exact hf)⟩
  unfold setE
  rw [if_pos rfl,if_pos (I.has hp)]
end
end Go.Proofs.YtgljdbabagdhlaaGreat.Pg
