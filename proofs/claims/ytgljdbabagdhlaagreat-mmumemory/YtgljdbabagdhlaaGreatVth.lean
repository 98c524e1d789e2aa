/- The program's tables beside blocks that are none of theirs, all made since a world; what Set makes of pages; no condition but those named. -/
import Derived.Test.YtgljdbabagdhlaaGreatVtg
namespace Go.Proofs.YtgljdbabagdhlaaGreat.Pg
open P E Go.ChangeShapes Go.WideShapes Go.ChangeAt Go.RowKit
set_option linter.unusedVariables false
set_option maxRecDepth 8192
structure Zt (w0:World) (Z:Nat→Prop) (t c p:Nat) (h:Hw) (P:Par) (S:E.Sc × Us) (m:Nat→Option Nat) (w:World):Prop where
  be:Below w0.heap.size w0 w
  tt:∃ X,Tt w X t c p h P S m∧∀ k,X k→w0.heap.size ≤ k∧¬ Z k
  z:∀ k,Z k→k < w.heap.size
theorem Zt.step {w0 w:World} {Z:Nat→Prop} {t c p:Nat} {h:Hw} {P:Par} {S:E.Sc × Us} {m:Nat→Option Nat} (K:Zt w0 Z t c p h P S m w):∃ X,Tt w X t c p h P S m∧(∀ k,Z k→¬ X k)∧(∀ k,X k→w0.heap.size ≤ k)∧∀ S' m' w',Tv w X t c p h P S' m' w'→Zt w0 Z t c p h P S' m' w'∧∀ k,Z k→w'.heap[k]? = w.heap[k]?:=by
  obtain ⟨X,tt,hx⟩:=K.tt
  refine ⟨X,tt,fun k hz hk=>(hx k hk).2 hz,fun k hk=>(hx k hk).1,fun S' m' w' ⟨X',t',k'⟩=>⟨⟨⟨k'.os.trans K.be.os,k'.tape.trans K.be.tape,k'.output.trans K.be.output,Nat.le_trans K.be.size k'.size,fun k hk => ?_⟩,⟨X',t',fun k hk => ?_⟩,fun k hk=>Nat.lt_of_lt_of_le (K.z k hk) k'.size⟩,fun k hk=>k'.block k (K.z k hk) (fun q=>(hx k q).2 hk)⟩⟩
  · rw [k'.block k (Nat.lt_of_lt_of_le hk K.be.size) (fun q=>by have:=(hx k q).1; omega),K.be.block k hk]
  · rcases k'.new k hk with q | q
    · exact hx k q
    · exact ⟨Nat.le_trans K.be.size q,fun z=>by have:=K.z k z; omega⟩
theorem Zt.tv {w0 w:World} {Z:Nat→Prop} {t c p:Nat} {h:Hw} {P:Par} {S:E.Sc × Us} {m:Nat→Option Nat} (K:Zt w0 Z t c p h P S m w):∃ X,Tv w X t c p h P S m w:=by
  obtain ⟨X,tt,_⟩:=K.tt
  exact ⟨X,tt.tv⟩
theorem Zt.more {w0 w w' : World} {Z:Nat→Prop} {t c p:Nat} {h:Hw} {P:Par} {S:E.Sc × Us} {m:Nat→Option Nat} (K:Zt w0 Z t c p h P S m w) (b:Below w.heap.size w w') {Z' : Nat→Prop} (hz:∀ k,Z' k→Z k ∨ (w.heap.size ≤ k∧k < w'.heap.size)):Zt w0 Z' t c p h P S m w':=by
  obtain ⟨X,tt,hx⟩:=K.tt
  refine ⟨K.be.trans (b.mono K.be.size),⟨X,tt.below b,fun k hk=>⟨(hx k hk).1,fun z => ?_⟩⟩,fun k hk => ?_⟩
  · rcases hz k z with q | q
    · exact (hx k hk).2 q
    · have:=tt.lt k hk; omega
  · rcases hz k hk with q | q
    · exact Nat.lt_of_lt_of_le (K.z k q) b.size
    · exact q.2
theorem Ok.set {P : Par} {R : Nat → Prop} {S : E.Sc × Us} (K : Ok P R S) {r pg f : Nat} (hr : R r) (hf : tb (wd S.1.m) r 3 (pg / 32) = some f) {v : Int} (hv : Lf v) :
    Ok P R (lk S.1 f (pg % 32) v,S.2)∧(∀ r',R r'→∀ d k,d ≤ 3→tb (wd (lk S.1 f (pg % 32) v).m) r' d k = tb (wd S.1.m) r' d k)∧∀ r' q,R r'→pw (wd (lk S.1 f (pg % 32) v).m) r' q = if r' = r∧q = pg then v else pw (wd S.1.m) r' q:=by
  have hi:pg % 32 < 32:=Nat.mod_lt _ (by decide)
  have hW:wd (lk S.1 f (pg % 32) v).m = put (wd S.1.m) f (pg % 32) v:=wd_lk _ _ hi hv.2.1 hv.2.2
  obtain ⟨F1,E1⟩:=K.fo.leaf hr hf (i:=pg % 32) v hv
  refine ⟨⟨by show Fo (wd (lk S.1 f (pg % 32) v).m) R _ Lf; rw [hW]; exact F1,K.va⟩,fun r' hr' d k hd=>by rw [hW]; exact E1 r' hr' d hd k,fun r' q hr' => ?_⟩
  have e3:=E1 r' hr' 3 (Nat.le_refl 3) (q / 32)
  rw [hW]
  cases hq:tb (wd S.1.m) r' 3 (q / 32) with
  | none=>
    rw [pw_none (e3.trans hq),pw_none hq]
    by_cases e:r' = r∧q = pg
    · rw [e.1,e.2,hf] at hq; cases hq
    · rw [if_neg e]
  | some g=>
    rw [pw_some (e3.trans hq),pw_some hq]
    by_cases e:r' = r∧q = pg
    · rw [if_pos e]
      rw [e.1,e.2,hf] at hq
      rw [← Option.some.inj hq,e.2,put_same]
    · rw [if_neg e,put_other]
      rintro ⟨h1,h2⟩
      subst h1
      obtain ⟨z1,_,z3⟩:=K.fo.inj r' r hr' hr 3 3 (q / 32) (pg / 32) g (Nat.le_refl 3) (Nat.le_refl 3) hq hf
      exact e ⟨z1,by omega⟩
theorem setS_some {s:E.Sc} {r pg f:Nat} {v:Int} (h:tb (wd s.m) r 3 (pg / 32) = some f):setS s r pg true v = lk s f (pg % 32) v:=by unfold setS; rw [h]
theorem Ok.root {P : Par} (hP : P.Ok) {R : Nat → Prop} {S : E.Sc × Us} (K : Ok P R S) (h : Hw) (hq : cU S.2 3 4096 < P.q 3) :
    Ok P (fun x=>R x ∨ x = nf P S.2) (zr h S.1 (nf P S.2),B.pt S.2 (nf P S.2) (some 3))∧¬ R (nf P S.2)∧(∀ r',R r'→∀ d k,d ≤ 3→tb (wd (zr h S.1 (nf P S.2)).m) r' d k = tb (wd S.1.m) r' d k)∧(∀ r' q,R r'→pw (wd (zr h S.1 (nf P S.2)).m) r' q = pw (wd S.1.m) r' q)∧∀ d k,tb (wd (zr h S.1 (nf P S.2)).m) (nf P S.2) d k = if d = 0∧k = 0 then some (nf P S.2) else none:=by
  obtain ⟨e0,hv,hlt,_⟩:=nf_is hP K.va hq
  generalize nf P S.2 = g at *
  have hg:¬ S.2 g = some 3:=by rw [e0]; exact nofun
  have hR:¬ R g:=fun q=>hg (K.fo.ow g q 0 0 g (by decide) rfl)
  obtain ⟨F1,E1⟩:=K.fo.nought hg
  obtain ⟨F2,E2⟩:=F1.root hg (fun j _=>nought_same _ _ _)
  rw [← wd_zr h] at F2 E1 E2
  refine ⟨⟨F2.own_congr (fun _=>Iff.rfl) (fun x hx => ?_),hv⟩,hR,fun r' hr d k hd=>E1 r' hr d hd k,fun r' q hr => ?_,E2⟩
  · show B.pt S.2 g (some 3) x = some 3
    unfold B.pt
    rcases hx with hx | hx
    · split
      · rfl
      · exact hx
    · rw [if_pos hx]
  · have e3:=E1 r' hr 3 (Nat.le_refl 3) (q / 32)
    cases hx:tb (wd S.1.m) r' 3 (q / 32) with
    | none=>rw [pw_none (e3.trans hx),pw_none hx]
    | some x=>rw [pw_some (e3.trans hx),pw_some hx,wd_zr,nought_other _ (fun e:x = g=>hg (by rw [← e]; exact K.fo.ow r' hr 3 _ x (Nat.le_refl 3) hx))]
theorem Ok.none' {P:Par} (hP:P.Ok) (s:E.Sc):Ok P (fun _=>False) (s,fun _=>none):=⟨⟨fun _ h=>h.elim,fun _ _ h=>h.elim,fun _ h=>h.elim,fun _ h=>h.elim⟩,va_new P⟩
theorem nd_at {xs:List (Int × Int)} (hv:∀ s ∈ xs,A.mayS s = true) {d k:Nat} (h0:0 < d) (h3:d ≤ 3) (h:nd xs d k = true):∃ i,i < xs.length∧∃ x,x < ((xs.getD i (0,0)).2).toNat∧((((xs.getD i (0,0)).1).toNat + x) / 32) / 32 ^ (3 - d) = k:=by
  unfold nd at h
  rw [A.cov_iff] at h
  obtain ⟨s,hs,hn⟩:=h
  rw [A.ned_iff] at hn
  have hm:=hv s hs
  simp only [A.mayS,Bool.and_eq_true,decide_eq_true_eq] at hm
  obtain ⟨i,hi,e⟩:=List.getElem_of_mem hs
  refine ⟨i,hi, ?_⟩
  rw [getD_at hi,e]
  obtain ⟨a,n⟩:=s
  simp only at hn hm ⊢
  obtain ⟨hp,hl,hu⟩:=hn
  have hd:d = 1 ∨ d = 2 ∨ d = 3:=by omega
  rcases hd with rfl | rfl | rfl
  · simp only [qd] at hl hu
    refine ⟨k * 32768 - a.toNat, ?_, ?_⟩
    · omega
    · show _ / 1024 = k
      rw [Nat.div_div_eq_div_mul]
      omega
  · simp only [qd] at hl hu
    refine ⟨k * 1024 - a.toNat, ?_, ?_⟩
    · omega
    · show _ / 32 = k
      rw [Nat.div_div_eq_div_mul]
      omega
  · simp only [qd] at hl hu
    refine ⟨k * 32 - a.toNat, ?_, ?_⟩
    · omega
    · show _ / 1 = k
      rw [Nat.div_one]
      omega
structure Fitd (P:Par) (R:Nat→Prop) (r:Nat) (xs:List (Int × Int)) (S S' : E.Sc × Us):Prop where
  ok:Ok P R S'
  has:∀ d k,0 < d→d ≤ 3→pr (wd S'.1.m) r d k = nd xs d k
  ot:∀ r',R r'→r' ≠ r→∀ d k,d ≤ 3→tb (wd S'.1.m) r' d k = tb (wd S.1.m) r' d k
  pw:∀ r' pg,R r'→pw (wd S'.1.m) r' pg = if r' = r∧nd xs 3 (pg / 32) = false then 0 else pw (wd S.1.m) r' pg
  us:∀ f,S'.2 f = S.2 f ∨ S'.2 f = some 3 ∨ S'.2 f = none
  cu:cU S'.2 3 4096 + all (pr (wd S.1.m) r) = cU S.2 3 4096 + A.total xs
theorem fit_pl {P : Par} (hP : P.Ok) (h : Hw) {R : Nat → Prop} {r : Nat} {xs : List (Int × Int)} (hv : ∀ s ∈ xs, A.mayS s = true) {S : E.Sc × Us} (K : Ok P R S) (hr : R r) {M : Nat → Int} (hM : wd M = Wc (wd S.1.m) r (fun d k => nd xs d k = false)) (O : Op P R r xs ({ S.1 with m := M }, Uc (wd S.1.m) r (fun d k => nd xs d k = false) S.2)) (hc : cU (Uc (wd S.1.m) r (fun d k => nd xs d k = false) S.2) 3 4096 + gone (pr (wd S.1.m) r) (nd xs) 3 0 0 = cU S.2 3 4096) :
    Fitd P R r xs S (fitE h P r xs S M):=by
  obtain ⟨N,H⟩:=gr_ok hP h hv O xs.length (Nat.le_refl _)
  have T:∀ r',R r'→∀ d k,d ≤ 3→tb (wd M) r' d k = if r' = r∧0 < d∧nd xs d k = false then none else tb (wd S.1.m) r' d k:=fun r' hr' d k hd=>by
    rw [hM,tb_struck K.fo hr (sub_nd _ r xs) hr' d hd k]
    by_cases c:r' = r∧0 < d∧nd xs d k = false
    · rw [if_pos c,if_pos c]
    · rw [if_neg c,if_neg c]
  have HA:∀ d k,0 < d→d ≤ 3→pr (wd (fitE h P r xs S M).1.m) r d k = nd xs d k:=fun d k h0 h3=>by
    cases q:nd xs d k with
    | true=>
      obtain ⟨i,hi,x,hx,e⟩:=nd_at hv h0 h3 q
      have:=H i hi x hx
      have e3:d + (3 - d) = 3:=by omega
      have:=tb_anc (d:=d) (e:=3 - d) (by rw [e3]; exact this)
      rw [e] at this
      unfold pr
      show (tb (wd (fitE h P r xs S M).1.m) r d k).isSome = true
      cases z:tb (wd (fitE h P r xs S M).1.m) r d k with
      | none=>exact absurd z this
      | some _=>rfl
    | false=>
      unfold pr
      cases z:tb (wd (fitE h P r xs S M).1.m) r d k with
      | none=>rfl
      | some g=>
        rcases N.nw d k h3 (by show tb (wd (fitE h P r xs S M).1.m) r d k ≠ none; rw [z]; exact nofun) with y | y
        · rw [show tb (wd ({ S.1 with m:=M }:E.Sc).m) r d k = none from (T r hr d k h3).trans (if_pos ⟨rfl,h0,q⟩)] at y
          exact absurd rfl y
        · rw [q] at y; cases y
  refine ⟨N.op.ok,HA,fun r' hr' hn d k hd => ?_,fun r' pg hr' => ?_,fun f => ?_, ?_⟩
  · have:=N.ot r' hr' hn d k hd
    refine Eq.trans this ?_
    show tb (wd M) r' d k = _
    rw [T r' hr' d k hd,if_neg (fun e=>hn e.1)]
  · refine Eq.trans (N.pw r' hr' pg) ?_
    show Pg.pw (wd M) r' pg = _
    have t3:=T r' hr' 3 (pg / 32) (Nat.le_refl 3)
    by_cases c:r' = r∧nd xs 3 (pg / 32) = false
    · rw [if_pos ⟨c.1,by decide,c.2⟩] at t3
      rw [if_pos c,pw_none t3]
    · rw [if_neg (fun e=>c ⟨e.1,e.2.2⟩)] at t3
      rw [if_neg c]
      cases z:tb (wd S.1.m) r' 3 (pg / 32) with
      | none=>rw [pw_none (t3.trans z),pw_none z]
      | some g=>
        rw [pw_some (t3.trans z),pw_some z,hM]
        exact Wc_at K.fo hr hr' (Nat.le_refl 3) z (Nat.mod_lt _ (by decide)) (fun _ q=>absurd q (by decide))
  · rcases N.n3 f with z | z
    · rw [show (fitE h P r xs S M).2 f = _ from z]
      show Uc (wd S.1.m) r (fun d k=>nd xs d k = false) S.2 f = _ ∨ _ ∨ Uc (wd S.1.m) r (fun d k=>nd xs d k = false) S.2 f = none
      by_cases c:Clf (wd S.1.m) r (fun d k=>nd xs d k = false) f
      · exact Or.inr (Or.inr (Uc_pos c))
      · exact Or.inl (Uc_neg c)
    · exact Or.inr (Or.inl z)
  · have h1:=all_gone (q:=nd xs) (pr_clo (wd S.1.m) r)
    have h2:=all_miss (pr (wd M) r) (nd xs)
    have h3:all (fun d k=>pr (wd M) r d k && nd xs d k) = all (fun d k=>pr (wd S.1.m) r d k && nd xs d k):=cn_ext (fun d k h0 h3=>by
      show (pr (wd M) r d k && nd xs d k) = _
      unfold pr
      rw [T r hr d k h3]
      cases q:nd xs d k
      · rw [Bool.and_false,Bool.and_false]
      · rw [if_neg (by rintro ⟨_,_,z⟩; cases z)])
    have h4:=all_miss (pr (wd (fitE h P r xs S M).1.m) r) (nd xs)
    have h5:all (fun d k=>pr (wd (fitE h P r xs S M).1.m) r d k && nd xs d k) = all (nd xs):=cn_ext (fun d k h0 h3=>by
      show (pr (wd (fitE h P r xs S M).1.m) r d k && nd xs d k) = _
      rw [HA d k h0 h3,Bool.and_self])
    have h6:cU (fitE h P r xs S M).2 3 4096 + miss (pr (wd (fitE h P r xs S M).1.m) r) (nd xs) = cU (Uc (wd S.1.m) r (fun d k=>nd xs d k = false) S.2) 3 4096 + miss (pr (wd M) r) (nd xs):=N.cu
    rw [total_all]
    omega
structure Ts (w0:World) (Z:Nat→Prop) (t c p:Nat) (h:Hw) (P:Par) (S:E.Sc × Us) (m:Nat→Option Nat) (w:World):Prop where
  zt:Zt w0 Z t c p h P S m w
  ok:Ok P (fun x=>m x ≠ none) S
  hN:P.N * P.C ≤ h.n
variable {w0 w:World} {Z:Nat→Prop} {t c p:Nat} {h:Hw} {P:Par} {S:E.Sc × Us} {m:Nat→Option Nat}
theorem Ts.par (K:Ts w0 Z t c p h P S m w):P.Ok:=by
  obtain ⟨X,T⟩:=K.zt.tv
  exact T.par.1
theorem Ts.more {w' : World} (K:Ts w0 Z t c p h P S m w) (b:Below w.heap.size w w') {Z' : Nat→Prop} (hz:∀ k,Z' k→Z k ∨ (w.heap.size ≤ k∧k < w'.heap.size)):Ts w0 Z' t c p h P S m w':=⟨K.zt.more b hz,K.ok,K.hN⟩
def Sm (Z:Nat→Prop) (w w' : World):Prop:=∀ k,Z k→w'.heap[k]? = w.heap[k]?
theorem Zt.sm (K:Zt w0 Z t c p h P S m w) {w' : World} (b:Below w.heap.size w w'):Sm Z w w':=fun k hk=>b.block k (K.z k hk)
structure Rootd (P:Par) (m:Nat→Option Nat) (g:Nat) (S S' : E.Sc × Us):Prop where
  no:m g = none
  lt:g < 4096
  cu:cU S'.2 3 4096 = cU S.2 3 4096 + 1
  ot:∀ r',m r' ≠ none→∀ d k,d ≤ 3→tb (wd S'.1.m) r' d k = tb (wd S.1.m) r' d k
  pw:∀ r' q,m r' ≠ none→pw (wd S'.1.m) r' q = pw (wd S.1.m) r' q
  me:∀ d k,tb (wd S'.1.m) g d k = if d = 0∧k = 0 then some g else none
  us:∀ f,S'.2 f = S.2 f ∨ S'.2 f = some 3
theorem Ok.congr {R R' : Nat→Prop} (K:Ok P R S) (h:∀ x,R' x ↔ R x):Ok P R' S:=⟨K.fo.own_congr h (fun _ q=>q),K.va⟩
theorem Rootd.all {g:Nat} {S' : E.Sc × Us} (D:Rootd P m g S S'):Pg.all (pr (wd S'.1.m) g) = 1:=by
  have e:∀ d k,0 < d→d ≤ 3→pr (wd S'.1.m) g d k = (fun _ _=>false:Nat→Nat→Bool) d k:=fun d k h0 _=>by
    unfold pr
    rw [D.me,if_neg (by omega)]
    rfl
  rw [cn_ext e]
  have z:∀ M,A.cn (fun _=>false) M = 0:=fun M=>by rw [← ct_cn]; exact ct_none (fun _ _=>rfl)
  unfold Pg.all
  rw [z,z,z]
structure Setd (m:Nat→Option Nat) (r pg:Nat) (v:Int) (S S' : E.Sc × Us):Prop where
  us:S'.2 = S.2
  tb:∀ r',m r' ≠ none→∀ d k,d ≤ 3→tb (wd S'.1.m) r' d k = tb (wd S.1.m) r' d k
  pw:∀ r' q,m r' ≠ none→pw (wd S'.1.m) r' q = if r' = r∧q = pg then v else pw (wd S.1.m) r' q
theorem may_at {b1 b2 b3 b4 b5 b6:Bool} {x:Int} (h:N.may b1 b2 b3 b4 b5 b6 x = true):0 ≤ x∧x ≤ 4095:=by
  unfold N.may at h
  cases b1 <;> cases b2 <;> simp [N.mb] at h <;> omega
theorem lf_word {b1 b2 b3 b4 b5 b6:Bool} {x:Int} (h:N.may b1 b2 b3 b4 b5 b6 x = true):Lf (N.lo b1 b2 b3 b4 b5 b6 + x * 256):=by
  have hl:=N.lo_range b1 b2 b3 b4 b5 b6
  have hb:0 ≤ x∧x ≤ 4095:=may_at h
  exact ⟨(N.mayW_word _ _ _ _ _ _ _ hb.1 hb.2).trans h,by omega,by omega⟩
structure Dropd (m:Nat→Option Nat) (r:Nat) (S S' : E.Sc × Us):Prop where
  sc:S'.1 = S.1
  cu:cU S'.2 3 4096 + all (pr (wd S.1.m) r) = cU S.2 3 4096
  us:∀ f,S'.2 f = S.2 f ∨ S'.2 f = none
end Go.Proofs.YtgljdbabagdhlaaGreat.Pg
