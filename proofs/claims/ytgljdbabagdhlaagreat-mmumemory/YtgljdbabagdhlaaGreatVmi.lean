/- How a list of accesses is read; no condition. -/
import Derived.Test.YtgljdbabagdhlaaGreatVOa
import Derived.Test.YtgljdbabagdhlaaGreatVmh
import Derived.Test.YtgljdbabagdhlaaGreatVmd
import Derived.Test.YtgljdbabagdhlaaGreatVtj
import Derived.Test.YtgljdbabagdhlaaGreatVmf
import Derived.Deep.QuietTactic
import Derived.BigQuiet
import Derived.Deep.MidRow
import Derived.Deep.DeepCutAuto
namespace Go.Proofs.YtgljdbabagdhlaaGreat.Pg
open P E Go.ChangeShapes Go.WideShapes Go.ChangeAt Go.RowKit Go.Deep
set_option linter.unusedVariables false
set_option maxRecDepth 8192
structure Ac where
  p:Int
  o:Int
  z:Int
  t:Bool
  s:Bool
  v:Int
def Ac.ce (x:Ac):List Value:=[.int .i64 x.p,.int .i64 x.o,.int .i64 x.z,.bool x.t,.bool x.s,.int .u64 x.v]
structure Ac.Wf (x:Ac):Prop where
  p0 : -9223372036854775808 ≤ x.p
  p1:x.p < 9223372036854775808
  o0 : -9223372036854775808 ≤ x.o
  o1:x.o < 9223372036854775808
  z0 : -9223372036854775808 ≤ x.z
  z1:x.z < 9223372036854775808
  v0:0 ≤ x.v
  v1:x.v < 18446744073709551616
def Al (w:World) (ao:Option Addr) (l:Nat):Prop:=∀ i,i < l→∃ b off x,ao = some ⟨b,off,none⟩∧b < w.heap.size∧(∀ j v,(Ac.ce x)[j]? = some v→w.cell? ⟨b,off + i * 6 + j,none⟩ = some v)∧x.Wf
theorem Al.below {w w' : World} {ao:Option Addr} {l:Nat} (h:Al w ao l) (k:Below w.heap.size w w'):Al w' ao l:=fun i hi=>by
  obtain ⟨b,off,x,e,hb,hc,hd⟩:=h i hi
  exact ⟨b,off,x,e,Nat.lt_of_lt_of_le hb k.size,fun j v hv=>(World.cell?_of_block (w:=w) (a:=⟨b,off + i * 6 + j,none⟩) (k.block b hb)).trans (hc j v hv),hd⟩
theorem Tryz.cellsA4:Tryz.prog.cellsOf 4 = 1:=by kernel_rfl
theorem Tryz.cellsA64:Tryz.prog.cellsOf 38 = 1:=by kernel_rfl
theorem Tryz.cellsAc:Tryz.prog.cellsOf 40 = 6:=by kernel_rfl
theorem list6 {α:Type} {l:List α} (h:l.length = 6):∃ c0 c1 c2 c3 c4 c5,l = [c0,c1,c2,c3,c4,c5]:=by
  match l,h with
  | [c0,c1,c2,c3,c4,c5],_=>exact ⟨c0,c1,c2,c3,c4,c5,rfl⟩
theorem open_ac {H : Type} {enc : TypeId × Value → H} {W : World} {fuel : Nat} {cs : List Value} {x : DataW H × List MemPlace} (hl : cs.length = 6)
    (h:DataW.trod enc Tryz.prog W 0 (fun _=>true) true fuel 40 cs = some x):∃ y:Ac,cs = y.ce∧y.Wf:=by
  obtain ⟨c0,c1,c2,c3,c4,c5,rfl⟩:=list6 hl
  obtain ⟨xs,n,_,hx,_,hlen,hg⟩:=DataW.trod_struct Tryz.underlying40 h
  match xs,hlen with
  | [z0,z1,z2,z3,z4,z5],_=>
    have t0:=hg 0 _ rfl
    have t1:=hg 1 _ rfl
    have t2:=hg 2 _ rfl
    have t3:=hg 3 _ rfl
    have t4:=hg 4 _ rfl
    have t5:=hg 5 _ rfl
    simp [Go.Proofs.YtgljdbabagdhlaaGreat.Tryz.cells3,Tryz.cellsA4,Tryz.cellsA64] at t0 t1 t2 t3 t4 t5
    obtain ⟨a,e0,_,w0⟩:=DataW.trod_int Tryz.underlying3 t0
    obtain ⟨p,e1,_,w1⟩:=DataW.trod_int Tryz.underlying3 t1
    obtain ⟨f,e2,_,w2⟩:=DataW.trod_int Tryz.underlying3 t2
    obtain ⟨r,e3,_⟩:=DataW.trod_bool Tryz.underlying4 t3
    obtain ⟨v,e4,_⟩:=DataW.trod_bool Tryz.underlying4 t4
    obtain ⟨d,e5,_,w5⟩:=DataW.trod_int Tryz.underlying38 t5
    simp at e0 e1 e2 e3 e4 e5
    subst e0 e1 e2 e3 e4 e5
    have b0:=wf_i64 w0
    have b1:=wf_i64 w1
    have b2:=wf_i64 w2
    have b5:=wf_u64 w5
    exact ⟨⟨a,p,f,r,v,d⟩,rfl,b0.1,Int.lt_of_le_of_lt b0.2 (by decide),b1.1,Int.lt_of_le_of_lt b1.2 (by decide),b2.1,Int.lt_of_le_of_lt b2.2 (by decide),b5.1,b5.2⟩
theorem open_acs {H : Type} {enc : TypeId × Value → H} {W : World} {a0 : Option Addr} {len cap : Nat} {d : DataW H} {p : List MemPlace}
    (h:DataW.Trod enc Tryz.prog W 0 (fun _=>true) true 23 (.slice a0 len cap) d p):Al W a0 len∧len ≤ maxLen:=by
  obtain ⟨fuel,hf⟩:=h
  rcases DataW.trod_slice Tryz.underlying23 hf with ⟨hcs,hx⟩ | ⟨a,l,c,elems,rest,n,_,hcs,hx,_,hlc,hcm,hlen,hel,_,_⟩
  · simp [Value.cells] at hcs
    obtain ⟨rfl,rfl,rfl⟩:=hcs
    exact ⟨fun i hi=>by omega,by unfold maxLen; omega⟩
  · simp [Value.cells] at hcs
    obtain ⟨rfl,rfl,rfl⟩:=hcs
    refine ⟨fun i hi => ?_,by omega⟩
    have hi2:=hel i hi
    rw [List.getElem?_eq_getElem (by omega:i < elems.length)] at hi2
    obtain ⟨cs,hcs,htr⟩:=Option.bind_eq_some_iff.1 hi2
    rw [Tryz.cellsAc] at hcs
    obtain ⟨_,hl2,hcell⟩:=World.cells?_some hcs
    have hblk:=World.cells?_block hcs (by omega)
    obtain ⟨y,rfl,hd⟩:=open_ac hl2 htr
    have hspot:a.spot = none:=by
      have hz:=hel 0 (by omega)
      rw [List.getElem?_eq_getElem (by omega:0 < elems.length)] at hz
      obtain ⟨cz,hcz,_⟩:=Option.bind_eq_some_iff.1 hz
      rw [Tryz.cellsAc] at hcz
      obtain ⟨_,hz2,hzc⟩:=World.cells?_some hcz
      have h0:=hzc 0 (by omega)
      rw [List.getElem?_eq_getElem (by omega:0 < cz.length)] at h0
      simpa [Addr.add] using World.cell?_spot h0
    obtain ⟨b,off,spot⟩:=a
    simp only at hspot
    subst hspot
    refine ⟨b,off,y,rfl, ?_,fun j v hv => ?_,hd⟩
    · rw [Go.WideShapes.add_plain] at hblk
      exact hblk
    · have hj:j < 6:=by
        have:=(List.getElem?_eq_some_iff.1 hv).1
        omega
      have:=hcell j (by omega)
      rw [Go.WideShapes.add_plain,Go.WideShapes.add_plain] at this
      rw [this]
      exact hv
end Go.Proofs.YtgljdbabagdhlaaGreat.Pg
namespace Go.Proofs.YtgljdbabagdhlaaGreat.Pg
open P E Go.ChangeShapes Go.WideShapes Go.ChangeAt Go.RowKit
set_option linter.unusedVariables false
set_option maxRecDepth 8192
def wo (f:Int) (r u a d:Bool):Int:=N.lo true false r u a d + f * 256
theorem wo_bits (f:Int) (h0:0 ≤ f) (h1:f ≤ 4095) (r u a d:Bool):N.fb (wo f r u a d) 1 = true∧N.fb (wo f r u a d) 2 = false∧N.fb (wo f r u a d) 4 = r∧N.fb (wo f r u a d) 8 = u∧N.fb (wo f r u a d) 16 = a∧N.fb (wo f r u a d) 32 = d∧wo f r u a d / 256 = f:=by
  have q:=N.fb_word true false r u a d f h0 h1
  have hr:=N.lo_range true false r u a d
  refine ⟨q.1,q.2.1,q.2.2.1,q.2.2.2.1,q.2.2.2.2.1,q.2.2.2.2.2, ?_⟩
  unfold wo
  omega
theorem acc_wo (f:Int) (h0:0 ≤ f) (h1:f ≤ 4095) (r u a d:Bool):acc (wo f r u a d) = wo f r u true d:=by
  obtain ⟨q1,q2,q3,q4,q5,q6,q7⟩:=wo_bits f h0 h1 r u a d
  unfold acc
  rw [q1,q2,q3,q4,q6,q7]
  rfl
theorem drt_wo (f:Int) (h0:0 ≤ f) (h1:f ≤ 4095) (r u a d:Bool):drt (wo f r u a d) = wo f r u a true:=by
  obtain ⟨q1,q2,q3,q4,q5,q6,q7⟩:=wo_bits f h0 h1 r u a d
  unfold drt
  rw [q1,q2,q3,q4,q5,q7]
  rfl
theorem al_wo (f:Int) (h0:0 ≤ f) (h1:f ≤ 4095) (r u a d wr:Bool):alV (wo f r u a d) wr = if (bif wr then u else r) = true then 0 else 3:=by
  obtain ⟨q1,q2,q3,q4,q5,q6,q7⟩:=wo_bits f h0 h1 r u a d
  unfold alV
  rw [q1,q2,q3,q4]
  cases r <;> cases u <;> cases wr <;> rfl
theorem lf_back {x:Int} (hx:Lf x):N.lo (N.fb x 1) (N.fb x 2) (N.fb x 4) (N.fb x 8) (N.fb x 16) (N.fb x 32) + x / 256 * 256 = x:=by
  have h:=hx.1
  unfold N.mayW at h
  rw [Bool.and_eq_true,decide_eq_true_eq] at h
  exact N.word_back x hx.2.1 hx.2.2 h.1
theorem acc_same {x:Int} (hx:Lf x) (h:N.fb x 16 = true):acc x = x:=by
  unfold acc
  rw [← h]
  exact lf_back hx
theorem drt_same {x:Int} (hx:Lf x) (h:N.fb x 32 = true):drt x = x:=by
  unfold drt
  rw [← h]
  exact lf_back hx
theorem upd_same (v:Nat→Int) (pg:Nat):upd v pg (v pg) = v:=by
  funext q
  unfold upd
  split
  · rename_i e; rw [e]
  · rfl
theorem upd_at (v:Nat→Int) (pg:Nat) (x:Int):upd v pg x pg = x:=if_pos rfl
theorem updv_ne (v:Nat→Int) {pg q:Nat} (x:Int) (h:q ≠ pg):upd v pg x q = v q:=if_neg h
theorem upd_upd (v:Nat→Int) (pg:Nat) (x y:Int):upd (upd v pg x) pg y = upd v pg y:=by
  funext q
  unfold upd
  split <;> rfl
structure Tw (v:Nat→Int) (x:T.Tr):Prop where
  a:x.a = 1 ∨ x.a = 2
  pg:∃ pg:Nat,pg < 8∧x.p = pg∧N.fb (v pg) 1 = true∧N.fb (v pg) 2 = false∧x.f = v pg / 256∧x.r = N.fb (v pg) 4∧x.w = N.fb (v pg) 8∧N.fb (v pg) 16 = true∧(x.d = true→N.fb (v pg) 32 = true)
theorem Tw.at {v:Nat→Int} {x:T.Tr} (t:Tw v x) {pg:Nat} (h:x.p = pg):pg < 8∧N.fb (v pg) 1 = true∧N.fb (v pg) 2 = false∧x.f = v pg / 256∧x.r = N.fb (v pg) 4∧x.w = N.fb (v pg) 8∧N.fb (v pg) 16 = true∧(x.d = true→N.fb (v pg) 32 = true):=by
  obtain ⟨q,h1,h2,h3⟩:=t.pg
  have e:q = pg:=by rw [h] at h2; omega
  subst e
  exact ⟨h1,h3⟩
theorem Tw.acc {v:Nat→Int} {x:T.Tr} (t:Tw v x) {pg:Nat} (hl:Lf (v pg)):Tw (upd v pg (acc (v pg))) x:=by
  refine ⟨t.a, ?_⟩
  obtain ⟨q,h1,h2,h3⟩:=t.pg
  refine ⟨q,h1,h2, ?_⟩
  by_cases e:q = pg
  · subst e
    rw [upd_at]
    obtain ⟨q1,q2,q3,q4,q5,q6,q7⟩:=acc_bits hl
    rw [q1,q2,q3,q4,q5,q6,q7]
    exact ⟨h3.1,h3.2.1,h3.2.2.1,h3.2.2.2.1,h3.2.2.2.2.1,rfl,h3.2.2.2.2.2.2⟩
  · rw [updv_ne v _ e]
    exact h3
theorem Tw.drt {v:Nat→Int} {x:T.Tr} (t:Tw v x) {pg:Nat} (hl:Lf (v pg)):Tw (upd v pg (drt (v pg))) x:=by
  refine ⟨t.a, ?_⟩
  obtain ⟨q,h1,h2,h3⟩:=t.pg
  refine ⟨q,h1,h2, ?_⟩
  by_cases e:q = pg
  · subst e
    rw [upd_at]
    obtain ⟨q1,q2,q3,q4,q5,q6,q7⟩:=drt_bits hl
    rw [q1,q2,q3,q4,q5,q6,q7]
    exact ⟨h3.1,h3.2.1,h3.2.2.1,h3.2.2.2.1,h3.2.2.2.2.1,h3.2.2.2.2.2.1,fun _=>rfl⟩
  · rw [updv_ne v _ e]
    exact h3
theorem Tw.mark {v:Nat→Int} {x:T.Tr} (t:Tw v x) {pg:Nat} (h:x.p = pg) (hd:N.fb (v pg) 32 = true):Tw v { x with d:=true }:=by
  obtain ⟨h1,h2,h3,h4,h5,h6,h7,h8⟩:=t.at h
  exact ⟨t.a,pg,h1,h,h2,h3,h4,h5,h6,h7,fun _=>hd⟩
theorem pk_key {a p:Int} {l:List T.Tr} (h:(T.pk a p l).2.1 = true):(T.pk a p l).1.a = a∧(T.pk a p l).1.p = p:=by
  unfold T.pk at h ⊢
  by_cases c:(T.okA a && T.okP p) = true
  · rw [if_pos c] at h ⊢
    cases hx:T.look a p l with
    | some x=>
      have:=List.find?_some hx
      unfold T.hk at this
      rw [Bool.and_eq_true,beq_iff_eq,beq_iff_eq] at this
      exact this
    | none=>rw [hx] at h; exact absurd h (by decide)
  · rw [if_neg c] at h
    exact absurd h (by decide)
section
variable {R:Nat→Prop} {S:E.Sc × Us} {v:Nat→Int}
theorem fill_tr {h:Hw} {s:E.Sc} {a:Int} {r pg:Nat} {y:Int} {x:T.Tr} (hx:x ∈ (fillS h s a r pg y).l):x = trV a pg y ∨ x ∈ s.l:=by
  unfold fillS at hx
  rcases filL_in hx with e | e
  · exact Or.inl e
  · rw [set_l] at e; exact Or.inr e
theorem tr_tw {a:Int} (ha:a = 1 ∨ a = 2) {pg:Nat} (hp:pg < 8) (hl:Lf (v pg)) (h1:N.fb (v pg) 1 = true) (h2:N.fb (v pg) 2 = false):Tw (upd v pg (acc (v pg))) (trV a pg (v pg)):=by
  obtain ⟨q1,q2,q3,q4,q5,q6,q7⟩:=acc_bits hl
  refine ⟨ha,pg,hp,rfl, ?_⟩
  rw [upd_at,q1,q2,q3,q4,q5,q6,q7]
  exact ⟨h1,h2,rfl,rfl,rfl,rfl,id⟩
structure Lk (h:Hw) (s:E.Sc) (v:Nat→Int) (a:Int) (pg:Nat) (wr:Bool):Prop where
  he:lkV s v a pg wr = wkV v pg wr
  hy:(lookS h s a 0 pg wr).2.2.2 = alV (v pg) wr
  ht:∀ x ∈ (lookS h s a 0 pg wr).1.l,Tw (wkV v pg wr) x
  hx:alV (v pg) wr = 0→(lookS h s a 0 pg wr).2.1.a = a∧(lookS h s a 0 pg wr).2.1.p = pg∧(lookS h s a 0 pg wr).2.1.f = v pg / 256∧(lookS h s a 0 pg wr).2.1.r = N.fb (v pg) 4∧(lookS h s a 0 pg wr).2.1.w = N.fb (v pg) 8∧((lookS h s a 0 pg wr).2.1.d = true→N.fb (v pg) 32 = true)
theorem Iv.look_tw (I:Iv R S v) (h:Hw) {a:Int} (ha:a = 1 ∨ a = 2) {pg:Nat} (hp:pg < 8) (wr:Bool) (ht:∀ x ∈ S.1.l,Tw v x):Lk h S.1 v a pg wr:=by
  have hl:=I.word (pg:=pg) (by omega)
  by_cases c:((T.pk a pg S.1.l).2.1 && alw wr (T.pk a pg S.1.l).1) = true
  · have c':=Bool.and_eq_true_iff.1 c
    obtain ⟨k1,k2⟩:=pk_key c'.1
    have tx:=ht _ (pk_in c'.1)
    obtain ⟨h1,h2,h3,h4,h5,h6,h7,h8⟩:=tx.at k2
    have e0:alV (v pg) wr = 0:=by
      have q:=c'.2
      unfold alw at q
      unfold alV N.al
      rw [h2,h3, ← h5, ← h6]
      cases wr <;> simp at q ⊢ <;> exact q
    have ew:wkV v pg wr = v:=by
      unfold wkV
      rw [if_pos e0,acc_same hl h7,upd_same]
    have eL:lookS h S.1 a 0 pg wr = ({ S.1 with l:=T.fd a pg S.1.l },(T.pk a pg S.1.l).1,true,0):=by unfold lookS; rw [if_pos c]
    refine ⟨?_, ?_, ?_, ?_⟩
    · rw [ew]; unfold lkV; rw [if_pos c]
    · rw [eL,e0]
    · rw [eL,ew]
      exact fun x hx=>ht x (fd_in hx)
    · rw [eL]
      exact fun _=>⟨k1,k2,h4,h5,h6,h8⟩
  · have I1:Iv R ({ S.1 with l:=T.rmL a pg (T.fd a pg S.1.l) },S.2) v:=I.m_eq rfl (fun x hx=>I.tr x (fd_in (rmL_in hx)))
    have ht1:∀ x ∈ T.rmL a pg (T.fd a pg S.1.l),Tw v x:=fun x hx=>ht x (fd_in (rmL_in hx))
    have eL:lookS h S.1 a 0 pg wr = ((walkS h { S.1 with l:=T.rmL a pg (T.fd a pg S.1.l) } a 0 pg wr).1,(walkS h { S.1 with l:=T.rmL a pg (T.fd a pg S.1.l) } a 0 pg wr).2.1,false,(walkS h { S.1 with l:=T.rmL a pg (T.fd a pg S.1.l) } a 0 pg wr).2.2):=by unfold lookS; rw [if_neg c]
    have eV:lkV S.1 v a pg wr = wkV v pg wr:=by unfold lkV; rw [if_neg c]
    have hy:=(I1.walk h a (pg:=pg) (by omega) wr).2.2
    generalize hs:({ S.1 with l:=T.rmL a pg (T.fd a pg S.1.l) }:E.Sc) = s1 at *
    have hsl:s1.l = T.rmL a pg (T.fd a pg S.1.l):=by rw [← hs]
    have hpw:Pg.pw (wd s1.m) 0 pg = v pg:=I1.pw pg (by omega)
    have hwy:whyV (wd s1.m) 0 pg wr = alV (v pg) wr:=I1.why (by omega) wr
    refine ⟨eV,by rw [eL]; exact hy, ?_, ?_⟩
    · rw [eL]
      intro x hx
      have hx:x ∈ (walkS h s1 a 0 pg wr).1.l:=hx
      unfold walkS at hx
      unfold wkV
      by_cases c0:alV (v pg) wr = 0
      · rw [if_pos c0]
        rw [hwy,if_pos c0,hpw] at hx
        have hb:=al_pres c0
        rcases fill_tr hx with e | e
        · rw [e]; exact tr_tw ha hp hl hb.1 hb.2
        · rw [wk_l,hsl] at e
          exact (ht1 x e).acc hl
      · rw [if_neg c0]
        rw [hwy,if_neg c0] at hx
        have hx:x ∈ (wkS h s1 0 pg).l:=hx
        rw [wk_l,hsl] at hx
        exact ht1 x hx
    · intro c0
      rw [eL]
      show (walkS h s1 a 0 pg wr).2.1.a = a∧_
      unfold walkS
      rw [hwy,if_pos c0,hpw]
      exact ⟨rfl,rfl,rfl,rfl,rfl,id⟩
theorem Iv.ahead_tw (I:Iv R S v) (h:Hw) {a:Int} (ha:a = 1 ∨ a = 2) {pg:Nat} (hp:pg < 8) (wr:Bool) (ht:∀ x ∈ S.1.l,Tw v x) (h0:alV (v pg) wr = 0):ahV h S.1 v a pg wr = upd v pg (bif wr then drt (acc (v pg)) else acc (v pg))∧∀ x ∈ (aheadS h S.1 a 0 pg wr).l,Tw (upd v pg (bif wr then drt (acc (v pg)) else acc (v pg))) x:=by
  have L:=I.look_tw h ha hp wr ht
  have hl:=I.word (pg:=pg) (by omega)
  have hb:=al_pres h0
  have hla:Lf (acc (v pg)):=acc_lf hl h0
  have hba:=acc_bits hl
  have ew:wkV v pg wr = upd v pg (acc (v pg)):=by unfold wkV; rw [if_pos h0]
  have hv:=L.he
  have htl:=L.ht
  have hx:=L.hx h0
  rw [ew] at hv htl
  unfold ahV aheadS
  rw [hv]
  cases wr with
  | false=>exact ⟨rfl,htl⟩
  | true=>
    cases hd:(lookS h S.1 a 0 pg true).2.1.d with
    | true=>
      have:=drt_same hla (by rw [hba.2.2.2.2.2.1]; exact hx.2.2.2.2.2 hd)
      simp only [Bool.not_true,Bool.and_false,Bool.false_eq_true,if_false,cond_true]
      rw [this]
      exact ⟨rfl,htl⟩
    | false=>
      simp only [Bool.not_false,Bool.and_true,if_true,cond_true]
      have e1:soV (upd v pg (acc (v pg))) pg = upd v pg (drt (acc (v pg))):=by
        unfold soV
        rw [upd_at,if_pos (by rw [hba.1]; exact hb.1),upd_upd]
      refine ⟨e1,fun x hxx => ?_⟩
      have hxx:x ∈ T.mrkL a pg (soil0 h (lookS h S.1 a 0 pg true).1 0 pg).l:=hxx
      have es:(soil0 h (lookS h S.1 a 0 pg true).1 0 pg).l = (lookS h S.1 a 0 pg true).1.l:=by
        unfold soil0
        split
        · exact set_l _ _ _ _ _
        · rfl
      rw [es] at hxx
      have key:∀ y,Tw (upd v pg (acc (v pg))) y→Tw (upd v pg (drt (acc (v pg)))) y:=fun y ty=>by
        have:=ty.drt (pg:=pg) (by rw [upd_at]; exact hla)
        rw [upd_at,upd_upd] at this
        exact this
      unfold T.mrkL at hxx
      split at hxx
      · unfold T.mrk at hxx
        obtain ⟨y,hy,e⟩:=List.mem_map.1 hxx
        rw [← e]
        have ty:=key y (htl y hy)
        by_cases hk:T.hk a pg y = true
        · rw [if_pos hk]
          unfold T.hk at hk
          rw [Bool.and_eq_true,beq_iff_eq,beq_iff_eq] at hk
          exact ty.mark hk.2 (by rw [upd_at]; exact (drt_bits hla).2.2.2.2.2.1)
        · rw [if_neg hk]
          exact ty
      · exact key x (htl x hxx)
end
structure Ne where
  p:Bool
  r:Bool
  u:Bool
  a:Int
def Ne.ev (x:Ne):List Value:=[.bool x.p,.bool false,.bool x.r,.bool x.u,.bool false,.bool false,.int .i64 x.a]
structure Nw (e:Nat→Ne) (L:List Value):Prop where
  len:L.length = 56
  ce:∀ i,i < 8→∀ j v,(Ne.ev (e i))[j]? = some v→L[i * 7 + j]? = some v
def Wn (e:Nat→Ne) (v:Nat→Int):Prop:=∀ i,i < 8→N.fb (v i) 1 = (e i).p∧N.fb (v i) 2 = false∧N.fb (v i) 4 = (e i).r∧N.fb (v i) 8 = (e i).u∧v i / 256 = (e i).a
theorem may_set {r u:Bool} (hru:u = true→r = true) {f:Nat} (h1:f < 64):N.may true false r u false false (f:Nat) = true:=by
  unfold N.may
  rw [decide_eq_true (by omega:(0:Int) ≤ (f:Nat)),decide_eq_true (by omega:((f:Nat):Int) ≤ 1023),decide_eq_true (by omega:((f:Nat):Int) ≤ 4095)]
  generalize (((f:Nat):Int) == 0) = z
  cases r <;> cases u <;> cases z <;> simp at hru <;> decide
structure Kn (w wr:World) (t c p g:Nat) (m:Nat→Option Nat) (Q:Nat→Prop) (S:E.Sc × Us) (v:Nat→Int) (e:Nat→Ne) (L:List Value):Prop where
  M:Mq (fun k=>k < w.heap.size) Q w wr t c p (hwOf us) (par us 0) S m
  B:Bb Q w wr g 55 L
  I:Iv (fun r=>m r ≠ none) S v
  T:∀ x ∈ S.1.l,Tw v x
  W:Wn e v
  N:Nw e L
  hN:(par us 0).N * (par us 0).C ≤ (hwOf us).n
section
variable {w wr w' : World} {t c p g:Nat} {m:Nat→Option Nat} {Q Q' : Nat→Prop} {S S' : E.Sc × Us} {v:Nat→Int} {e:Nat→Ne} {L:List Value}
end
structure Cq (w wr:World) (t c p:Nat) (S:E.Sc × Us) (m:Nat→Option Nat):Prop where
  q:Zq (fun k=>k < w.heap.size) wr t c p (hwOf us) (par us 0) S m
  be:Below w.heap.size w wr
  hN:(par us 0).N * (par us 0).C ≤ (hwOf us).n
  rt:m 0 ≠ none
section
variable {w wr w' : World} {t c p n:Nat} {S S' : E.Sc × Us} {m:Nat→Option Nat}
theorem Cq.below (C:Cq w wr t c p S m) (b:Below wr.heap.size wr w'):Cq w w' t c p S m:=⟨C.q.below b,C.be.trans (b.mono C.be.size),C.hN,C.rt⟩
theorem Ov.cq (O:Ov w wr t c p n S m):Cq w wr t c p S m:=⟨O.ts.zq',O.ts.zt.be,O.ts.hN,O.rt⟩
end
end Go.Proofs.YtgljdbabagdhlaaGreat.Pg
namespace Go.Proofs.YtgljdbabagdhlaaGreat.Pg
open P E Go.ChangeShapes Go.WideShapes Go.ChangeAt Go.RowKit
set_option linter.unusedVariables false
set_option linter.unusedSimpArgs false
set_option maxRecDepth 100000
theorem Tryz.sizeE:(Tryz.prog.info? 32).map (·.size) = some 7:=by kernel_rfl
theorem Tryz.sizeX:(Tryz.prog.info? 40).map (·.size) = some 6:=by kernel_rfl
theorem wpList_load_wg {P : Program} {w : World} {ops : Array Oper} {rest : List Oper} {o : Oper} {a : Act} {Q : Exit → Act → World → Prop} (hgd : o.guard = none) (t : TypeId) (x : Operand)
    (ho:o.op = .load t x) (u v:Value) (hx:a.eval x = u) (hrun:(Instr.loadAt t u).run P w = .ok v w) (h:wpList P ops Q rest (a.put o.dst v) w):wpList P ops Q (o :: rest) a w:=
  wpList_load_wm (by simp [Region.wanted,hgd]) t x ho u v hx hrun h
def x0L:List Value:=[.int .i64 0,.int .i64 0,.int .i64 0,.bool false,.bool false,.int .u64 0]
end Go.Proofs.YtgljdbabagdhlaaGreat.Pg
namespace Go.Proofs.YtgljdbabagdhlaaGreat.Pg
open P E Go.ChangeShapes Go.WideShapes Go.ChangeAt Go.RowKit
set_option linter.unusedVariables false
set_option maxRecDepth 8192
theorem num_cong {f g:Nat→Int} {a:Nat}:∀ {k:Nat},(∀ i,a ≤ i→f i = g i)→F.num f a k = F.num g a k
  | 0,_=>rfl
  | k + 1,h=>by
    unfold F.num
    rw [num_cong h,h (a + k) (by omega)]
theorem lay_hi {f g h:Nat→Int} {a m i:Nat} (e:f i = g i):F.lay f a m h i = F.lay g a m h i:=by
  unfold F.lay
  rw [e]
section
variable {R:Nat→Prop} {S:E.Sc × Us} {v:Nat→Int}
theorem Iv.set_hi (I:Iv R S v) {pg:Nat} (h:pg < 32) (my:Bool) (x:Int) {y:Nat} (hy:2048 ≤ y):(setS S.1 0 pg my x).m y = S.1.m y:=by
  obtain ⟨f,e,hf⟩:=I.leaf h
  cases my with
  | false=>rfl
  | true=>
    rw [setS_some e]
    show F.lay S.1.m (f * 256 + pg % 32 * 8) 8 (F.byt x) y = S.1.m y
    unfold F.lay
    rw [if_neg (by omega)]
theorem Iv.walk_hi (I:Iv R S v) (h:Hw) (a:Int) {pg:Nat} (hp:pg < 32) (wr:Bool) {y:Nat} (hy:2048 ≤ y):(walkS h S.1 a 0 pg wr).1.m y = S.1.m y:=by
  have J:Iv R (wkS h S.1 0 pg,S.2) v:=I.m_eq (wk_m _ _ _ _) (fun x hx=>I.tr x (by rw [wk_l] at hx; exact hx))
  unfold walkS
  split
  · have:=J.set_hi hp (mayA (Pg.pw (wd S.1.m) 0 pg)) (acc (Pg.pw (wd S.1.m) 0 pg)) hy
    rw [wk_m] at this
    exact this
  · show (wkS h S.1 0 pg).m y = _
    rw [wk_m]
theorem Iv.look_hi (I:Iv R S v) (h:Hw) (a:Int) {pg:Nat} (hp:pg < 32) (wr:Bool) {y:Nat} (hy:2048 ≤ y):(lookS h S.1 a 0 pg wr).1.m y = S.1.m y:=by
  unfold lookS
  split
  · rfl
  · have J:Iv R ({ S.1 with l:=T.rmL a pg (T.fd a pg S.1.l) },S.2) v:=I.m_eq rfl (fun x hx=>I.tr x (fd_in (rmL_in hx)))
    exact J.walk_hi h a hp wr hy
theorem Iv.soil_hi (I:Iv R S v) (h:Hw) (a:Int) {pg:Nat} (hp:pg < 32) {y:Nat} (hy:2048 ≤ y):(soilS h S.1 a 0 pg).m y = S.1.m y:=by
  show (soil0 h S.1 0 pg).m y = S.1.m y
  unfold soil0
  split
  · exact I.set_hi hp _ _ hy
  · rfl
theorem Iv.ahead_hi (I:Iv R S v) (h:Hw) (a:Int) {pg:Nat} (hp:pg < 32) (wr:Bool) {y:Nat} (hy:2048 ≤ y):(aheadS h S.1 a 0 pg wr).m y = S.1.m y:=by
  have J:=(I.look h a hp wr).1
  unfold aheadS
  split
  · exact (J.soil_hi h a hp hy).trans (I.look_hi h a hp wr hy)
  · exact I.look_hi h a hp wr hy
end
section
variable {Z:Nat→Prop} {w:World} {t c p:Nat} {S:E.Sc × Us} {m:Nat→Option Nat} {v:Nat→Int}
theorem ld_yes (K : Zq Z w t c p (hwOf us) (par us 0) S m) (hN : (par us 0).N * (par us 0).C ≤ (hwOf us).n) (I : Iv (fun r => m r ≠ none) S v) (ht : ∀ x ∈ S.1.l, Tw v x) {a : Int} (ha : a = 1 ∨ a = 2) {pg o z f : Nat} (hp : pg < 8) (h1 : 1 ≤ z) (h8 : z ≤ 8) (ho : o + z ≤ 256) (f0 : 40 ≤ f) (f1 : f < 64) {r u lo st : Bool} (hv : v pg = wo (f : Nat) r u lo st) (hr : r = true) :
    Calls Tryz.prog 11 #[.pointer (some ⟨c,0,none⟩),.pointer (some ⟨t,0,none⟩),.int .i64 a,.int .i64 0,.int .u64 ((pg * 256 + o:Nat):Int),.int .i64 (z:Nat)] w fun e w'=>∃ b1 b2 b3 S',e = .returned (.tuple #[.agg #[.int .u64 (F.num S.1.m (f * 256 + o) z),.int .u8 0,.bool b1,.bool b2,.bool b3],.int .i64 0])∧Zq Z w' t c p (hwOf us) (par us 0) S' m∧Ky Z w w'∧Iv (fun r=>m r ≠ none) S' (upd v pg (wo (f:Nat) r u true st))∧(∀ x ∈ S'.1.l,Tw (upd v pg (wo (f:Nat) r u true st)) x)∧∀ y,2048 ≤ y→S'.1.m y = S.1.m y:=by
  have hok:T.okA a = true:=by rcases ha with rfl | rfl <;> decide
  have hc:=chk_ok hok I.rt
  have hp' : pg < 1048576:=by omega
  have hp2:pg < 32:=by omega
  have L:=I.look_tw (hwOf us) ha hp false ht
  have h0:alV (v pg) false = 0:=by rw [hv,al_wo _ (by omega) (by omega)]; simp [hr]
  have hf:=(L.hx h0).2.2.1
  rw [hv,(wo_bits (f:Nat) (by omega) (by omega) r u lo st).2.2.2.2.2.2] at hf
  obtain ⟨A1,A2⟩:=I.ahead_tw (hwOf us) ha hp false ht h0
  have J:=(I.ahead (hwOf us) a hp2 false).tou (hwOf us) (f * 256 + o)
  have hm:∀ y,2048 ≤ y→(aheadS (hwOf us) S.1 a 0 pg false).m y = S.1.m y:=fun y hy=>I.ahead_hi (hwOf us) a hp2 false hy
  have hac:acc (v pg) = wo (f:Nat) r u true st:=by rw [hv,acc_wo _ (by omega) (by omega)]
  rw [A1] at J
  simp only [cond_false,hac] at A2 J
  refine (mLoad_ok K I.ok hN (by rw [hw_n]; decide) a (r:=0) I.rt (by decide) hc hp' h1 h8 ho (by rw [L.hy]; exact h0) hf (by rw [hw_n]; exact f1)).mono ?_
  rintro e w' ⟨rfl,k1,k2⟩
  have hnum:F.num (tou (hwOf us) (aheadS (hwOf us) S.1 a 0 pg false) (f * 256 + o)).m (f * 256 + o) z = F.num S.1.m (f * 256 + o) z:=num_cong (fun i hi=>hm i (by omega))
  exact ⟨_,_,_,_,by rw [hnum],k1,k2,J,A2,hm⟩
theorem st_yes (K : Zq Z w t c p (hwOf us) (par us 0) S m) (hN : (par us 0).N * (par us 0).C ≤ (hwOf us).n) (I : Iv (fun r => m r ≠ none) S v) (ht : ∀ x ∈ S.1.l, Tw v x) {a : Int} (ha : a = 1 ∨ a = 2) {pg o z f : Nat} (hp : pg < 8) (h1 : 1 ≤ z) (h8 : z ≤ 8) (ho : o + z ≤ 256) (f0 : 40 ≤ f) (f1 : f < 64) {r u lo st : Bool} (hv : v pg = wo (f : Nat) r u lo st) (hu : u = true) (x : Int) (x0 : 0 ≤ x) (x1 : x < 18446744073709551616) :
    Calls Tryz.prog 10 #[.pointer (some ⟨c,0,none⟩),.pointer (some ⟨t,0,none⟩),.int .i64 a,.int .i64 0,.int .u64 ((pg * 256 + o:Nat):Int),.int .i64 (z:Nat),.int .u64 x] w fun e w'=>∃ b1 b2 b3 S',e = .returned (.tuple #[.agg #[.int .u64 0,.int .u8 0,.bool b1,.bool b2,.bool b3],.int .i64 0])∧Zq Z w' t c p (hwOf us) (par us 0) S' m∧Ky Z w w'∧Iv (fun r=>m r ≠ none) S' (upd v pg (wo (f:Nat) r u true true))∧(∀ x ∈ S'.1.l,Tw (upd v pg (wo (f:Nat) r u true true)) x)∧∀ y,2048 ≤ y→S'.1.m y = F.lay S.1.m (f * 256 + o) z (F.byt x) y:=by
  have hok:T.okA a = true:=by rcases ha with rfl | rfl <;> decide
  have hc:=chk_ok hok I.rt
  have hp' : pg < 1048576:=by omega
  have hp2:pg < 32:=by omega
  have L:=I.look_tw (hwOf us) ha hp true ht
  have h0:alV (v pg) true = 0:=by rw [hv,al_wo _ (by omega) (by omega)]; simp [hu]
  have hf:=(L.hx h0).2.2.1
  rw [hv,(wo_bits (f:Nat) (by omega) (by omega) r u lo st).2.2.2.2.2.2] at hf
  obtain ⟨A1,A2⟩:=I.ahead_tw (hwOf us) ha hp true ht h0
  have J:=((I.ahead (hwOf us) a hp2 true).tou (hwOf us) (f * 256 + o)).lay (o:=o) (z:=z) f0 (F.byt x)
  have hm:∀ y,2048 ≤ y→(aheadS (hwOf us) S.1 a 0 pg true).m y = S.1.m y:=fun y hy=>I.ahead_hi (hwOf us) a hp2 true hy
  have hac:drt (acc (v pg)) = wo (f:Nat) r u true true:=by rw [hv,acc_wo _ (by omega) (by omega),drt_wo _ (by omega) (by omega)]
  rw [A1] at J
  simp only [cond_true,hac] at A2 J
  refine (mStore_ok K I.ok hN (by rw [hw_n]; decide) a (r:=0) I.rt (by decide) hc hp' h1 h8 ho (by rw [L.hy]; exact h0) hf (by rw [hw_n]; exact f1) x x0 x1).mono ?_
  rintro e w' ⟨rfl,k1,k2⟩
  exact ⟨_,_,_,_,rfl,k1,k2,J,A2,fun y hy=>lay_hi (hm y hy)⟩
theorem ld_no (K : Zq Z w t c p (hwOf us) (par us 0) S m) (hN : (par us 0).N * (par us 0).C ≤ (hwOf us).n) (I : Iv (fun r => m r ≠ none) S v) (ht : ∀ x ∈ S.1.l, Tw v x) {a : Int} (ha : a = 1 ∨ a = 2) {pg o z f : Nat} (hp : pg < 8) (h1 : 1 ≤ z) (h8 : z ≤ 8) (ho : o + z ≤ 256) (f0 : 40 ≤ f) (f1 : f < 64) {r u lo st : Bool} (hv : v pg = wo (f : Nat) r u lo st) (hr : r = false) :
    Calls Tryz.prog 11 #[.pointer (some ⟨c,0,none⟩),.pointer (some ⟨t,0,none⟩),.int .i64 a,.int .i64 0,.int .u64 ((pg * 256 + o:Nat):Int),.int .i64 (z:Nat)] w fun e w'=>∃ b1 S',e = .returned (.tuple #[.agg #[.int .u64 0,.int .u8 3,.bool b1,.bool false,.bool false],.int .i64 0])∧Zq Z w' t c p (hwOf us) (par us 0) S' m∧Ky Z w w'∧Iv (fun r=>m r ≠ none) S' v∧(∀ x ∈ S'.1.l,Tw v x)∧∀ y,2048 ≤ y→S'.1.m y = S.1.m y:=by
  have hok:T.okA a = true:=by rcases ha with rfl | rfl <;> decide
  have hc:=chk_ok hok I.rt
  have hp2:pg < 32:=by omega
  have L:=I.look_tw (hwOf us) ha hp false ht
  have h0:alV (v pg) false = 3:=by rw [hv,al_wo _ (by omega) (by omega)]; simp [hr]
  have hw:wkV v pg false = v:=by unfold wkV; rw [if_neg (by rw [h0]; decide)]
  have J:=(I.look (hwOf us) a hp2 false).1
  have hL:=L.ht
  rw [L.he,hw] at J
  rw [hw] at hL
  refine (mLoad_no K I.ok hN a (r:=0) I.rt (by decide) hc (by omega) h1 h8 ho (by rw [L.hy,h0]; decide)).mono ?_
  rintro e w' ⟨rfl,k1,k2⟩
  exact ⟨_,_,by rw [L.hy,h0],k1,k2,J,hL,fun y hy=>I.look_hi (hwOf us) a hp2 false hy⟩
theorem st_no (K : Zq Z w t c p (hwOf us) (par us 0) S m) (hN : (par us 0).N * (par us 0).C ≤ (hwOf us).n) (I : Iv (fun r => m r ≠ none) S v) (ht : ∀ x ∈ S.1.l, Tw v x) {a : Int} (ha : a = 1 ∨ a = 2) {pg o z f : Nat} (hp : pg < 8) (h1 : 1 ≤ z) (h8 : z ≤ 8) (ho : o + z ≤ 256) (f0 : 40 ≤ f) (f1 : f < 64) {r u lo st : Bool} (hv : v pg = wo (f : Nat) r u lo st) (hu : u = false) (x : Int) :
    Calls Tryz.prog 10 #[.pointer (some ⟨c,0,none⟩),.pointer (some ⟨t,0,none⟩),.int .i64 a,.int .i64 0,.int .u64 ((pg * 256 + o:Nat):Int),.int .i64 (z:Nat),.int .u64 x] w fun e w'=>∃ b1 S',e = .returned (.tuple #[.agg #[.int .u64 0,.int .u8 3,.bool b1,.bool false,.bool false],.int .i64 0])∧Zq Z w' t c p (hwOf us) (par us 0) S' m∧Ky Z w w'∧Iv (fun r=>m r ≠ none) S' v∧(∀ x ∈ S'.1.l,Tw v x)∧∀ y,2048 ≤ y→S'.1.m y = S.1.m y:=by
  have hok:T.okA a = true:=by rcases ha with rfl | rfl <;> decide
  have hc:=chk_ok hok I.rt
  have hp2:pg < 32:=by omega
  have L:=I.look_tw (hwOf us) ha hp true ht
  have h0:alV (v pg) true = 3:=by rw [hv,al_wo _ (by omega) (by omega)]; simp [hu]
  have hw:wkV v pg true = v:=by unfold wkV; rw [if_neg (by rw [h0]; decide)]
  have J:=(I.look (hwOf us) a hp2 true).1
  have hL:=L.ht
  rw [L.he,hw] at J
  rw [hw] at hL
  refine (mStore_no K I.ok hN a (r:=0) I.rt (by decide) hc (by omega) h1 h8 ho (by rw [L.hy,h0]; decide) x).mono ?_
  rintro e w' ⟨rfl,k1,k2⟩
  exact ⟨_,_,by rw [L.hy,h0],k1,k2,J,hL,fun y hy=>I.look_hi (hwOf us) a hp2 true hy⟩
end
theorem num_nn {f:Nat→Int} {a:Nat}:∀ {k:Nat},(∀ i,i < k→0 ≤ f (a + i))→0 ≤ F.num f a k
  | 0,_=>Int.le_refl 0
  | k + 1,h=>by
    unfold F.num
    exact Int.add_nonneg (num_nn (fun i hi=>h i (by omega))) (Int.mul_nonneg (h k (by omega)) (Int.le_of_lt (F.pow256 k)))
theorem num_z {f:Nat→Int} {a:Nat}:∀ {k:Nat},(∀ i,i < k→0 ≤ f (a + i))→F.num f a k = 0→∀ i,i < k→f (a + i) = 0
  | 0,_,_,i,hi=>absurd hi (Nat.not_lt_zero i)
  | k + 1,h,e,i,hi=>by
    unfold F.num at e
    have h1:0 ≤ F.num f a k:=num_nn (fun i hi=>h i (by omega))
    have h2:0 ≤ f (a + k) * 256 ^ k:=Int.mul_nonneg (h k (by omega)) (Int.le_of_lt (F.pow256 k))
    have e1:F.num f a k = 0:=by omega
    have e2:f (a + k) * 256 ^ k = 0:=by omega
    by_cases c:i = k
    · subst c
      exact (Int.mul_eq_zero.1 e2).resolve_right (Int.ne_of_gt (F.pow256 i))
    · exact num_z (fun i hi=>h i (by omega)) e1 i (by omega)
theorem z8_byte {m:Nat→Int} (hz:∀ f,8 ≤ f→∀ i,wd m f i = 0) (ok:F.okB (64 * 256) m) {y:Nat} (h1:2048 ≤ y) (h2:y < 16384):m y = 0:=by
  have e:=hz (y / 256) (by omega) (y % 256 / 8)
  rw [wd_at m _ (by omega)] at e
  have:=num_z (fun i hi=>(ok _ (by omega)).1) e (y % 8) (by omega)
  rw [show y / 256 * 256 + y % 256 / 8 * 8 + y % 8 = y by omega] at this
  exact this
def rov (g:Nat→Value) (n:Nat):List Value:=(List.range n).map g
theorem rov_len (g:Nat→Value) (n:Nat):(rov g n).length = n:=by unfold rov; simp
theorem rov_get {g:Nat→Value} {n i:Nat} (h:i < n):(rov g n)[i]? = some (g i):=by
  unfold rov
  rw [List.getElem?_map,List.getElem?_range h]
  rfl
theorem rov_congr {g g' : Nat→Value} {n:Nat} (h:∀ k,k < n→g k = g' k):rov g n = rov g' n:=by
  unfold rov
  exact List.map_congr_left (fun k hk=>h k (List.mem_range.1 hk))
theorem rov_set {g:Nat→Value} {n i:Nat} (h:i < n) (v:Value):(rov g n).set i v = rov (fun k=>if k = i then v else g k) n:=by
  refine List.ext_getElem? (fun k => ?_)
  rw [List.getElem?_set]
  by_cases c:i = k
  · subst c
    rw [if_pos rfl,if_pos (by rw [rov_len]; exact h),rov_get h,if_pos rfl]
  · rw [if_neg c]
    by_cases hk:k < n
    · rw [rov_get hk,rov_get hk,if_neg (fun e=>c e.symm)]
    · rw [List.getElem?_eq_none (by rw [rov_len]; omega),List.getElem?_eq_none (by rw [rov_len]; omega)]
def putf {α:Type} (f:Nat→α) (i:Nat) (x:α):Nat→α:=fun k=>if k = i then x else f k
theorem rov_put {α:Type} (F:α→Value) (f:Nat→α) {n i:Nat} (h:i < n) (x:α):(rov (fun k=>F (f k)) n).set i (F x) = rov (fun k=>F (putf f i x k)) n:=by
  rw [rov_set h]
  refine rov_congr (fun k _ => ?_)
  unfold putf
  split <;> rfl
structure Bx (w wr:World) (t c p ga gp gb gl gs:Nat) (m:Nat→Option Nat) (Q:Nat→Prop) (S:E.Sc × Us) (LA LP LY LL LD:List Value):Prop where
  M:Mq (fun k=>k < w.heap.size) Q w wr t c p (hwOf us) (par us 0) S m
  A:Bb Q w wr ga 29 LA
  P:Bb Q w wr gp 29 LP
  Y:Bb Q w wr gb 36 LY
  L:Bb Q w wr gl 37 LL
  D:Bb Q w wr gs 37 LD
  od:ga < gp∧gp < gb∧gb < gl∧gl < gs
  hN:(par us 0).N * (par us 0).C ≤ (hwOf us).n
section
variable {w wr w' : World} {t c p ga gp gb gl gs:Nat} {m:Nat→Option Nat} {Q Q' : Nat→Prop} {S S' : E.Sc × Us} {LA LP LY LL LD:List Value}
theorem Bx.turn (X:Bx w wr t c p ga gp gb gl gs m Q S LA LP LY LL LD) (K:Zq Q w' t c p (hwOf us) (par us 0) S' m) (k:Ky Q wr w'):Bx w w' t c p ga gp gb gl gs m Q S' LA LP LY LL LD:=⟨X.M.turn K k,X.A.ky k,X.P.ky k,X.Y.ky k,X.L.ky k,X.D.ky k,X.od,X.hN⟩
theorem Bx.below (X:Bx w wr t c p ga gp gb gl gs m Q S LA LP LY LL LD) (b:Below wr.heap.size wr w'):Bx w w' t c p ga gp gb gl gs m Q S LA LP LY LL LD:=⟨X.M.below b,X.A.below b,X.P.below b,X.Y.below b,X.L.below b,X.D.below b,X.od,X.hN⟩
theorem Bx.be (X:Bx w wr t c p ga gp gb gl gs m Q S LA LP LY LL LD):Below w.heap.size w wr:=⟨X.M.ky.os,X.M.ky.tape,X.M.ky.output,X.M.ky.size,X.M.ky.block⟩
theorem Bx.box (X:Bx w wr t c p ga gp gb gl gs m Q S LA LP LY LL LD) (ty:TypeId) (L:List Value):∃ Q',(∀ k,Q k→Q' k)∧Bx w (wr.alloc (.cells L.toArray ty)) t c p ga gp gb gl gs m Q' S LA LP LY LL LD∧Bb Q' w (wr.alloc (.cells L.toArray ty)) wr.heap.size ty L∧Below wr.heap.size wr (wr.alloc (.cells L.toArray ty)):=by
  obtain ⟨Q',hq,M1,B1,l1⟩:=X.M.box ty L
  exact ⟨Q',hq,⟨M1,(X.A.below l1).wide hq,(X.P.below l1).wide hq,(X.Y.below l1).wide hq,(X.L.below l1).wide hq,(X.D.below l1).wide hq,X.od,X.hN⟩,B1,l1⟩
theorem Bx.set (X:Bx w wr t c p ga gp gb gl gs m Q S LA LP LY LL LD) {b:Nat} {ty:TypeId} {L:List Value} (B:Bb Q w wr b ty L) (hb:gs < b) (A:Array Value) (hA:A.size = L.length):wr.there b 0 A.size∧Bx w (wr.setCells b 0 A.toList) t c p ga gp gb gl gs m Q S LA LP LY LL LD∧Bb Q w (wr.setCells b 0 A.toList) b ty A.toList∧∀ b' ty' L',b' ≠ b→Bb Q w wr b' ty' L'→Bb Q w (wr.setCells b 0 A.toList) b' ty' L':=by
  obtain ⟨tx,M1,B1,o⟩:=X.M.set B A hA
  have:=X.od
  exact ⟨tx,⟨M1,o _ _ _ (by omega) X.A,o _ _ _ (by omega) X.P,o _ _ _ (by omega) X.Y,o _ _ _ (by omega) X.L,o _ _ _ (by omega) X.D,X.od,X.hN⟩,B1,o⟩
theorem Bx.putY (X:Bx w wr t c p ga gp gb gl gs m Q S LA LP LY LL LD) (i:Nat) (v:Value):Bx w (wr.setCell ⟨gb,i,none⟩ v) t c p ga gp gb gl gs m Q S LA LP (LY.set i v) LL LD∧∀ b' ty' L',b' ≠ gb→Bb Q w wr b' ty' L'→Bb Q w (wr.setCell ⟨gb,i,none⟩ v) b' ty' L':=by
  obtain ⟨M1,B1,o⟩:=X.M.put X.Y i v
  have:=X.od
  exact ⟨⟨M1,o _ _ _ (by omega) X.A,o _ _ _ (by omega) X.P,B1,o _ _ _ (by omega) X.L,o _ _ _ (by omega) X.D,X.od,X.hN⟩,o⟩
theorem Bx.putL (X:Bx w wr t c p ga gp gb gl gs m Q S LA LP LY LL LD) (i:Nat) (v:Value):Bx w (wr.setCell ⟨gl,i,none⟩ v) t c p ga gp gb gl gs m Q S LA LP LY (LL.set i v) LD∧∀ b' ty' L',b' ≠ gl→Bb Q w wr b' ty' L'→Bb Q w (wr.setCell ⟨gl,i,none⟩ v) b' ty' L':=by
  obtain ⟨M1,B1,o⟩:=X.M.put X.L i v
  have:=X.od
  exact ⟨⟨M1,o _ _ _ (by omega) X.A,o _ _ _ (by omega) X.P,o _ _ _ (by omega) X.Y,B1,o _ _ _ (by omega) X.D,X.od,X.hN⟩,o⟩
theorem Bx.putD (X:Bx w wr t c p ga gp gb gl gs m Q S LA LP LY LL LD) (i:Nat) (v:Value):Bx w (wr.setCell ⟨gs,i,none⟩ v) t c p ga gp gb gl gs m Q S LA LP LY LL (LD.set i v)∧∀ b' ty' L',b' ≠ gs→Bb Q w wr b' ty' L'→Bb Q w (wr.setCell ⟨gs,i,none⟩ v) b' ty' L':=by
  obtain ⟨M1,B1,o⟩:=X.M.put X.D i v
  have:=X.od
  exact ⟨⟨M1,o _ _ _ (by omega) X.A,o _ _ _ (by omega) X.P,o _ _ _ (by omega) X.Y,o _ _ _ (by omega) X.L,B1,X.od,X.hN⟩,o⟩
end
structure Mn (S:E.Sc × Us) (R:Nat→Prop) (v:Nat→Int) (fa fp:Nat→Nat) (lo st:Nat→Bool) (B:Nat→Int):Prop where
  I:Iv R S v
  T:∀ x ∈ S.1.l,Tw v x
  V:∀ i,i < 8→v i = wo ((40 + fa i:Nat):Int) (decide (0 < fp i)) (decide (1 < fp i)) (lo i) (st i)
  a5:∀ i,i < 8→fa i < 5
  y:∀ k,k < 1280→S.1.m (10240 + k) = B k
def LI (f:Nat→Nat):List Value:=rov (fun i=>.int .i64 (f i:Nat)) 8
def LB (f:Nat→Bool):List Value:=rov (fun i=>.bool (f i)) 8
def LU (f:Nat→Int):List Value:=rov (fun i=>.int .u8 (f i)) 1280
theorem wo_may (f:Nat) (r u a d:Bool) (h0:40 ≤ f) (h1:f < 64):N.fb (wo (f:Nat) r u a d) 16 = a∧N.fb (wo (f:Nat) r u a d) 32 = d:=by
  obtain ⟨_,_,_,_,q5,q6,_⟩:=wo_bits (f:Nat) (by omega) (by omega) r u a d
  exact ⟨q5,q6⟩
end Go.Proofs.YtgljdbabagdhlaaGreat.Pg
namespace Go.Proofs.YtgljdbabagdhlaaGreat.Pg
open P E Go.ChangeShapes Go.WideShapes Go.ChangeAt Go.RowKit
set_option linter.unusedVariables false
set_option linter.unusedSimpArgs false
def dropSeq:Nat→Code→Code
  | 0,c=>c
  | n + 1,.seq _ b=>dropSeq n b
  | _,c=>c
def eL0:List Value:=[.bool false,.bool false,.bool false,.bool false,.bool false,.bool false,.int .i64 0]
theorem one7 (b1 b2 b3 b4 b5 b6:Bool) (a:Int):(#[.bool b1,.bool b2,.bool b3,.bool b4,.bool b5,.bool b6,.int .i64 a]:Array Value).all (·.oneCell') = true:=by simp [Value.oneCell']
set_option maxRecDepth 1000000 in
set_option maxHeartbeats 8000000 in
theorem mem_end {w w0 : World} {t c p ga gp gb gl gs : Nat} {m : Nat → Option Nat} {Q0 : Nat → Prop} {S : E.Sc × Us} {v : Nat → Int} {fa fp : Nat → Nat} {lo st : Nat → Bool} {B : Nat → Int} (hX : Bx w w0 t c p ga gp gb gl gs m Q0 S (LI fa) (LI fp) (LU B) (LB lo) (LB st)) (hN : Mn S (fun r => m r ≠ none) v fa fp lo st B) (s0 s1 s2 s3 s4 s5 s6 s10 s13 s14 s18 s19 s20 s21 s22 s23 s24 s25 s26 s27 s28 s29 s30 s31 s32 s33 s34 s35 s36 s37 s38 s39 s40 s41 s42 s43 s44 s45 s46 s47 s48 s49 s50 s51 s52 s53 s54 s55 s56 s57 s58 s59 s60 s61 s62 s63 s64 s65 s66 s67 s68 s69 s70 s71 s72 s73 s74 s75 s76 s77 s78 s79 s80 s81 s82 s83 s84 s85 s86 s87 s88 s89 s90 s91 s92 s93 s94 s95 s96 s97 s98 s99 s100 s101 s102 s103 s104 s105 s106 s107 s108 s109 s110 s111 s112 s113 s114 s115 s116 s117 s118 s119 s120 s121 s122 s123 s124 s125 s126 s127 s128 s129 s130 s131 s132 s133 s134 s135 s136 s137 s138 s139 s140 s141 s142 s143 s144 s145 s146 s147 s148 s149 s150 s151 s152 s153 s154 s155 s156 s157 s158 s159 s160 s161 s162 s163 s164 s165 s166 s167 s168 s169 s170 s171 s172 s173 s174 s175 s176 s177 s178 s179 s180 s181 s182 s183 s184 s185 s186 s187 s188 s189 s190 s191 s192 s193 s194 s195 s196 s197 s198 s199 s200 s201 s202 s203 s204 s205 s206 s207 s208 s209 s210 s211 s212 s213 s214 s215 s216 s217 s218 s219 s220 s221 s222 s223 s224 s225 s226 s227 s228 s229 s230 s231 s232 s233 s234 s235 s236 s237 s238 s239 s240 s241 s242 s243 s244 s245 s246 s247 s248 s249 s250 s251 s252 s253 s254 s255 s256 s257 s258 s259 s260 s261 s262 : Value) :
    Code.wp Tryz.prog (dropSeq 8 (Tryz.f3.body.getD .skip)) (bodyPost Tryz.prog Tryz.f3 fun e w'=>e = .returned (.bool true)∧Below w.heap.size w w') ⟨#[s0,s1,s2,s3,s4,s5,s6,.pointer (some ⟨c,0,none⟩),.pointer (some ⟨t,0,none⟩),.int .i64 0,s10,.pointer (some ⟨ga,0,none⟩),.pointer (some ⟨gp,0,none⟩),s13,s14,.pointer (some ⟨gb,0,none⟩),.pointer (some ⟨gl,0,none⟩),.pointer (some ⟨gs,0,none⟩),s18,s19,s20,s21,s22,s23,s24,s25,s26,s27,s28,s29,s30,s31,s32,s33,s34,s35,s36,s37,s38,s39,s40,s41,s42,s43,s44,s45,s46,s47,s48,s49,s50,s51,s52,s53,s54,s55,s56,s57,s58,s59,s60,s61,s62,s63,s64,s65,s66,s67,s68,s69,s70,s71,s72,s73,s74,s75,s76,s77,s78,s79,s80,s81,s82,s83,s84,s85,s86,s87,s88,s89,s90,s91,s92,s93,s94,s95,s96,s97,s98,s99,s100,s101,s102,s103,s104,s105,s106,s107,s108,s109,s110,s111,s112,s113,s114,s115,s116,s117,s118,s119,s120,s121,s122,s123,s124,s125,s126,s127,s128,s129,s130,s131,s132,s133,s134,s135,s136,s137,s138,s139,s140,s141,s142,s143,s144,s145,s146,s147,s148,s149,s150,s151,s152,s153,s154,s155,s156,s157,s158,s159,s160,s161,s162,s163,s164,s165,s166,s167,s168,s169,s170,s171,s172,s173,s174,s175,s176,s177,s178,s179,s180,s181,s182,s183,s184,s185,s186,s187,s188,s189,s190,s191,s192,s193,s194,s195,s196,s197,s198,s199,s200,s201,s202,s203,s204,s205,s206,s207,s208,s209,s210,s211,s212,s213,s214,s215,s216,s217,s218,s219,s220,s221,s222,s223,s224,s225,s226,s227,s228,s229,s230,s231,s232,s233,s234,s235,s236,s237,s238,s239,s240,s241,s242,s243,s244,s245,s246,s247,s248,s249,s250,s251,s252,s253,s254,s255,s256,s257,s258,s259,s260,s261,s262],[]⟩ w0:=by
  conv=>arg 2; whnf
  have HX0:Hid (Bx w w0 t c p ga gp gb gl gs m Q0 S (LI fa) (LI fp) (LU B) (LB lo) (LB st)):=hX
  have HN:Hid (Mn S (fun r=>m r ≠ none) v fa fp lo st B):=hN
  clear hX hN
  go_wp2_with fail
  go_loopw [30] (fun i wr=>∃ (k:Nat) (Q:Nat→Prop),k ≤ 8∧i = .int .i64 k∧Bx w wr t c p ga gp gb gl gs m Q S (LI fa) (LI fp) (LU B) (LB lo) (LB st)) (fun i _=>8 - (D.iv i).toNat)
  case atStart=>exact ⟨0,_,by omega,rfl,HX0.out⟩
  case round=>
    clear HX0
    obtain ⟨k,Q,hk,rfl,hX⟩:=hrel
    have HX:Hid (Bx w wr t c p ga gp gb gl gs m Q S (LI fa) (LI fp) (LU B) (LB lo) (LB st)):=hX
    clear hX
    by_cases hlt:k < 8
    case' pos=>
      have CG:=get_q HX.out.M.q HN.out.I.ok HX.out.hN (r:=0) HN.out.I.rt (pg:=k) (by omega)
      rw [HN.out.I.pw k (by omega)] at CG
      obtain ⟨b1,b2,b3,b4,b5,b6,a,hec,c1,c2,c3,c4,hb5,hb6,c7⟩:=ec_vals (v k)
      rw [hec] at CG
      have hf:=HN.out.a5 k hlt
      have hwo:=wo_may (40 + fa k) (decide (0 < fp k)) (decide (1 < fp k)) (lo k) (st k) (by omega) (by omega)
      rw [← HN.out.V k hlt, ← hb5, ← hb6] at hwo
      have HH:Hid (b5 = lo k∧b6 = st k):=hwo
      have CG:Hid (Calls _ _ _ _ _):=CG
      clear hec hb5 hb6 hf c1 c2 c3 c4 c7 hwo
      go_wp2_with fail
      refine CG.out.mono ?_
      rintro e w1 ⟨rfl,k1,k2⟩
      obtain ⟨Q1,hq1,X1,B1,l1⟩:=(HX.out.turn k1 k2).box 32 eL0
      have hgs:gs < w1.heap.size:=(HX.out.D.ky k2).bk.lt
      obtain ⟨AE,HAE⟩:∃ AE:Array Value,Hid (AE = #[.bool b1,.bool b2,.bool b3,.bool b4,.bool b5,.bool b6,.int .i64 a]):=⟨_,rfl⟩
      obtain ⟨tx,X2,B2,o2⟩:=X1.set B1 hgs AE (by rw [HAE.out]; rfl)
      have B2:=B2.congr (show AE.toList = [.bool b1,.bool b2,.bool b3,.bool b4,.bool b5,.bool b6,.int .i64 a] by rw [HAE.out])
      have HTX:Hid _:=tx
      have HX2:Hid (_):=X2
      have HB2:Hid (_):=B2
      simp only [eL0] at HTX HX2 HB2
      clear k1 k2 X1 B1 l1 tx X2 B2 o2 CG HX hq1
      go_upto_region 52 with (refine wpList_store_mid rfl 32 (.tmp 31) (.tmp 243) rfl w1.heap.size 0 AE rfl (congrArg Value.agg HAE.out.symm) HTX.out (by rw [HAE.out]; exact Tryz.sizeN) (by rw [HAE.out]; exact one7 _ _ _ _ _ _ _) ?_)
      clear HTX
      generalize hw2:(w1.alloc (.cells #[.bool false,.bool false,.bool false,.bool false,.bool false,.bool false,.int .i64 0] 32)).setCells w1.heap.size 0 AE.toList = w2 at HX2 HB2 ⊢
      clear hw2
      have y4:=HB2.out.bk.cell 4
      have y5:=HB2.out.bk.cell 5
      simp only [List.getElem?_cons_zero,List.getElem?_cons_succ] at y4 y5
      have l4:w2.cell? ⟨gl,k,none⟩ = some (.bool (lo k)):=(HX2.out.L.bk.cell k).trans (rov_get hlt)
      have l5:w2.cell? ⟨gs,k,none⟩ = some (.bool (st k)):=(HX2.out.D.bk.cell k).trans (rov_get hlt)
      rw [← HH.out.1] at l4
      rw [← HH.out.2] at l5
      have q4:(b5 != b5) = false:=by simp
      have q5:(b6 != b6) = false:=by simp
      have hi0:(0:Int) ≤ (k:Int):=Int.natCast_nonneg k
      have hi1:(k:Int) < 8:=by omega
      clear HB2 HH HAE
      go_big_quiet (fail)
      have HX3:Hid (Bx w (w2.drewN nq) t c p ga gp gb gl gs m _ S (LI fa) (LI fp) (LU B) (LB lo) (LB st)):=HX2.out.below (Go.Proofs.YtgljdbabagdhlaaGreat.B.below_of (Go.Proofs.YtgljdbabagdhlaaGreat.B.grown_drewN w2 _ none) _ (Nat.le_refl _) (by simp))
      clear HX2 y4 y5 l4 l5 q4 q5
      go_wp2
      go_roundw
      case rel=>exact ⟨k + 1,_,by omega,by go_num,HX3.out⟩
      case measure=>simp [D.iv]; omega
    case' neg=>
      have HF:Hid (Below w.heap.size w wr):=HX.out.be
      obtain rfl:k = 8:=by omega
      clear HX hlt hk
      go_wp2
      exact bodyPost_ret (v:=.bool true) (by simp [results,Tryz.results3,go_sem]) rfl ⟨rfl,HF.out⟩
end Go.Proofs.YtgljdbabagdhlaaGreat.Pg
