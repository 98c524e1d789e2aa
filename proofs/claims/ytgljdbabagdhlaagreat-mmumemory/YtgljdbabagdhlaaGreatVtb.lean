/- Tables opened: a frame of the pool made nought and hung in; page by page, span by span; what both sides' memories have together; no condition but those named. -/
import Derived.Test.YtgljdbabagdhlaaGreatVta
import Derived.Test.YtgljdbabagdhlaaGreatVkd
import Derived.Test.YtgljdbabagdhlaaGreatVPd
import Derived.Test.YtgljdbabagdhlaaGreatVna
import Derived.Test.YtgljdbabagdhlaaGreatVMa
import Derived.Deep.MidRow
namespace Go.Proofs.YtgljdbabagdhlaaGreat.Pg
open P E
set_option linter.unusedVariables false
set_option maxRecDepth 8192
theorem least_of {p:Nat→Prop}:∀ n,p n→∃ m,p m∧∀ j,p j→m ≤ j:=by
  intro n
  induction n using Nat.strongRecOn with
  | _ n ih=>
    intro h
    by_cases q:∃ j,p j∧j < n
    · obtain ⟨j,h1,h2⟩:=q
      exact ih j h2 h1
    · refine ⟨n,h,fun j hj => ?_⟩
      by_cases q2:j < n
      · exact absurd ⟨j,hj,q2⟩ q
      · omega
theorem nx_some {op:Nat→Bool} {x:Nat} (hx:op x = true):∃ a,Nx op 0 a:=by
  have hw:B.wh op 0 x:=fun i hi=>by rw [Nat.pow_zero,Nat.div_one] at hi; rw [hi]; exact hx
  obtain ⟨j,_,h2,h3⟩:=B.climb 6 0 x (by omega) hw
  obtain ⟨k,⟨hk,q,hq⟩,hm⟩:=least_of (p:=fun k=>k ≤ 6∧∃ q,B.mx op k q) j ⟨h2,_,h3⟩
  obtain ⟨a,ha,hl⟩:=least_of (p:=fun q=>B.mx op k q) q hq
  refine ⟨a * 2 ^ k,k,Nat.zero_le _,hk,fun i _ hi q' hq' => ?_,B.mul_mod _ _,by rw [B.mul_div]; exact ha,fun q' hq'=>by rw [B.mul_div]; exact hl q' hq'⟩
  have:=hm i ⟨by omega,q',hq'⟩
  omega
open Classical in
noncomputable def nf (P:Par) (us:Us):Nat:=if h:∃ g us',Tkn P us 3 g us' then h.choose else 0
theorem nf_of {P:Par} {us us' : Us} {g:Nat} (h:Tkn P us 3 g us'):g = nf P us∧us' = B.pt us (nf P us) (some 3):=by
  have hx:∃ g us',Tkn P us 3 g us':=⟨g,us',h⟩
  have e:nf P us = hx.choose:=dif_pos hx
  obtain ⟨us1,h1⟩:=hx.choose_spec
  have:=h.uniq h1
  rw [e,this.2]
  refine ⟨this.1, ?_⟩
  obtain ⟨a,_,_,q⟩:=h1
  exact q
theorem nf_is {P:Par} (hP:P.Ok) {us:Us} (hv:Va P us) (hq:cU us 3 4096 < P.q 3):us (nf P us) = none∧Va P (B.pt us (nf P us) (some 3))∧nf P us < P.N * P.C∧cU (B.pt us (nf P us) (some 3)) 3 4096 = cU us 3 4096 + 1:=by
  obtain ⟨x0,hx0⟩:=hv.best_open hP (by decide) (by decide) hq
  obtain ⟨a,ha⟩:=nx_some hx0
  have hi:=best_lt hP us
  obtain ⟨e,_⟩:=nf_of (P:=P) (us:=us) ⟨a,ha,rfl,rfl⟩
  have ho:=opn_iff.1 ha.open
  rw [← e]
  have hlt:=fm_lt hP hi ho.1
  refine ⟨ho.2,hv.take hP hi ha.open (by decide) (by decide) hq, ?_,by rw [cU_take ho.2 3 3 hlt]; rfl⟩
  have h1:=Nat.mul_le_mul_right P.C (show a + 1 ≤ P.N from ho.1)
  have h3:=hP.fC _ hi
  rw [Nat.add_mul] at h1
  unfold fm
  omega
def zr (h:Hw) (s:Sc) (g:Nat):Sc:=sw1 h { s with m:=F.lay s.m (g * 256) 256 (fun _=>0) } g
def lk (s:Sc) (f i:Nat) (v:Int):Sc:={ s with m:=F.lay s.m (f * 256 + i * 8) 8 (F.byt v) }
theorem tw_m (h:Hw) (s:Sc) (f:Nat→Nat):∀ k,(tw h s f k).m = s.m
  | 0=>rfl
  | k + 1=>tw_m h s f k
theorem wd_zr (h:Hw) (s:Sc) (g:Nat):wd (zr h s g).m = nought (wd s.m) g:=by
  unfold zr sw1
  rw [tw_m]
  exact wd_nought s.m g
theorem wd_lk (s:Sc) (f:Nat) {i:Nat} (hi:i < 32) {v:Int} (h0:0 ≤ v) (h1:v < 18446744073709551616):wd (lk s f i v).m = put (wd s.m) f i v:=wd_put s.m f hi h0 h1
def Lf (v:Int):Prop:=N.mayW v = true∧0 ≤ v∧v < 18446744073709551616
theorem lf_zero:Lf 0:=⟨by decide,by decide,by decide⟩
def nu (pg d:Nat):Nat:=pg / 32 ^ (4 - d)
theorem nu_up (pg:Nat) {d:Nat} (h:d < 4):nu pg (d + 1) / 32 = nu pg d:=by
  unfold nu
  rw [Nat.div_div_eq_div_mul, ← Nat.pow_succ]
  congr 2
  omega
theorem nu_at (pg:Nat) {d:Nat} (h:d < 4):nu pg d * 32 + nu pg (d + 1) % 32 = nu pg (d + 1):=by
  have:=nu_up pg h
  omega
theorem nu_zero {pg:Nat} (h:pg < 1048576):nu pg 0 = 0:=Nat.div_eq_of_lt h
theorem nu_lt {pg:Nat} (h:pg < 1048576) {d:Nat} (hd:d ≤ 4):nu pg d < 32 ^ d:=by
  unfold nu
  rw [Nat.div_lt_iff_lt_mul (Nat.pow_pos (by decide)), ← Nat.pow_add]
  rw [show d + (4 - d) = 4 by omega]
  exact h
def pw (W:Nat→Nat→Int) (r pg:Nat):Int:=match tb W r 3 (pg / 32) with
  | some f=>W f (pg % 32)
  | none=>0
theorem pw_some {W:Nat→Nat→Int} {r pg f:Nat} (h:tb W r 3 (pg / 32) = some f):pw W r pg = W f (pg % 32):=by unfold pw; rw [h]
theorem pw_none {W:Nat→Nat→Int} {r pg:Nat} (h:tb W r 3 (pg / 32) = none):pw W r pg = 0:=by unfold pw; rw [h]
structure Ok (P:Par) (R:Nat→Prop) (S:Sc × Us):Prop where
  fo:Fo (wd S.1.m) R (fun f=>S.2 f = some 3) Lf
  va:Va P S.2
structure Op (P:Par) (R:Nat→Prop) (r:Nat) (xs:List (Int × Int)) (S:Sc × Us):Prop where
  ok:Ok P R S
  rt:R r
  qu:cU S.2 3 4096 + miss (pr (wd S.1.m) r) (nd xs) ≤ P.q 3
theorem Ok.hang {P : Par} (hP : P.Ok) {R : Nat → Prop} {S : Sc × Us} (K : Ok P R S) (h : Hw) {r d k f i : Nat} (hr : R r) (hd : d < 3) (hf : tb (wd S.1.m) r d k = some f) (hi : i < 32) (hn : tb (wd S.1.m) r (d + 1) (k * 32 + i) = none) (hq : cU S.2 3 4096 < P.q 3) (S' : Sc × Us)
    (hS:S' = (lk (zr h S.1 (nf P S.2)) f i (1 + 256 * (nf P S.2:Int)),B.pt S.2 (nf P S.2) (some 3))) :
    Ok P R S'∧(∀ r',R r'→∀ d' k',d' ≤ 3→tb (wd S'.1.m) r' d' k' = if r' = r∧d' = d + 1∧k' = k * 32 + i then some (nf P S.2) else tb (wd S.1.m) r' d' k')∧∀ r',R r'→∀ pg,pw (wd S'.1.m) r' pg = pw (wd S.1.m) r' pg:=by
  obtain ⟨e0,hv,hlt,_⟩:=nf_is hP K.va hq
  have hN:=hP.NF
  subst hS
  generalize nf P S.2 = g at *
  have hW:wd (lk (zr h S.1 g) f i (1 + 256 * (g:Int))).m = put (nought (wd S.1.m) g) f i (1 + 256 * (g:Int)):=by rw [wd_lk _ _ hi (by omega) (by omega),wd_zr]
  have hg:¬ S.2 g = some 3:=by rw [e0]; exact nofun
  obtain ⟨F1,E1⟩:=K.fo.nought hg
  have hf1:=(E1 r hr d (by omega) k).trans hf
  have h0:Pg.nought (wd S.1.m) g f i = 0:=(F1.empty hr hd hf1 hi).1 ((E1 r hr (d + 1) (by omega) _).trans hn)
  obtain ⟨F2,E2⟩:=F1.link hr hd hf1 hi h0 hg (fun j _=>nought_same _ _ _) lf_zero
  have E3:∀ r',R r'→∀ d' k',d' ≤ 3→tb (wd (lk (zr h S.1 g) f i (1 + 256 * (g:Int))).m) r' d' k' = if r' = r∧d' = d + 1∧k' = k * 32 + i then some g else tb (wd S.1.m) r' d' k':=fun r' hr' d' k' hd'=>by
    rw [hW,E2 r' hr' d' hd' k',E1 r' hr' d' hd' k']
  refine ⟨⟨?_,hv⟩,E3,fun r' hr' pg => ?_⟩
  · show Fo (wd (lk (zr h S.1 g) f i (1 + 256 * (g:Int))).m) R (fun x=>B.pt S.2 g (some 3) x = some 3) Lf
    rw [hW]
    refine F2.own_congr (fun _=>Iff.rfl) (fun x hx => ?_)
    unfold B.pt
    rcases hx with hx | hx
    · split
      · rfl
      · exact hx
    · rw [if_pos hx]
  · show pw (wd (lk (zr h S.1 g) f i (1 + 256 * (g:Int))).m) r' pg = pw (wd S.1.m) r' pg
    have e3:=E3 r' hr' 3 (pg / 32) (Nat.le_refl 3)
    have hgf:g ≠ f:=fun e=>hg (by rw [e]; exact K.fo.ow r hr d k f (by omega) hf)
    by_cases hc:r' = r∧3 = d + 1∧pg / 32 = k * 32 + i
    · rw [if_pos hc] at e3
      have e4:tb (wd S.1.m) r' 3 (pg / 32) = none:=by rw [hc.1,hc.2.1,hc.2.2]; exact hn
      rw [pw_some e3,pw_none e4,hW,put_other _ _ (fun e=>hgf e.1),nought_same]
    · rw [if_neg hc] at e3
      cases hx:tb (wd S.1.m) r' 3 (pg / 32) with
      | none=>rw [pw_none (e3.trans hx),pw_none hx]
      | some x=>
        have ox:=K.fo.ow r' hr' 3 _ x (Nat.le_refl 3) hx
        have n1:x ≠ f:=fun e=>by
          subst e
          have:=(K.fo.inj r' r hr' hr 3 d _ k x (Nat.le_refl 3) (by omega) hx hf).2.1
          omega
        rw [pw_some (e3.trans hx),pw_some hx,hW,put_other _ _ (fun e=>n1 e.1),nought_other _ (fun e:x = g=>hg (by rw [← e]; exact ox))]
noncomputable def op1 (h:Hw) (P:Par) (r pg d:Nat) (S:Sc × Us):Sc × Us:=match tb (wd S.1.m) r d (nu pg d),tb (wd S.1.m) r (d + 1) (nu pg (d + 1)) with
  | some f,none=>(lk (zr h S.1 (nf P S.2)) f (nu pg (d + 1) % 32) (1 + 256 * (nf P S.2:Int)),B.pt S.2 (nf P S.2) (some 3))
  | _,_=>S
theorem op1_has {h:Hw} {P:Par} {r pg d:Nat} {S:Sc × Us} (e:tb (wd S.1.m) r (d + 1) (nu pg (d + 1)) ≠ none):op1 h P r pg d S = S:=by
  unfold op1
  cases q:tb (wd S.1.m) r (d + 1) (nu pg (d + 1)) with
  | none=>exact absurd q e
  | some g=>cases tb (wd S.1.m) r d (nu pg d) <;> rfl
theorem op1_new {h:Hw} {P:Par} {r pg d f:Nat} {S:Sc × Us} (e1:tb (wd S.1.m) r d (nu pg d) = some f) (e:tb (wd S.1.m) r (d + 1) (nu pg (d + 1)) = none):op1 h P r pg d S = (lk (zr h S.1 (nf P S.2)) f (nu pg (d + 1) % 32) (1 + 256 * (nf P S.2:Int)),B.pt S.2 (nf P S.2) (some 3)):=by
  unfold op1
  rw [e1,e]
structure Nxt (P:Par) (R:Nat→Prop) (r:Nat) (xs:List (Int × Int)) (S S' : Sc × Us):Prop where
  op:Op P R r xs S'
  up:∀ d k,d ≤ 3→tb (wd S.1.m) r d k ≠ none→tb (wd S'.1.m) r d k = tb (wd S.1.m) r d k
  nw:∀ d k,d ≤ 3→tb (wd S'.1.m) r d k ≠ none→tb (wd S.1.m) r d k ≠ none ∨ nd xs d k = true
  ot:∀ r',R r'→r' ≠ r→∀ d k,d ≤ 3→tb (wd S'.1.m) r' d k = tb (wd S.1.m) r' d k
  pw:∀ r',R r'→∀ pg,pw (wd S'.1.m) r' pg = pw (wd S.1.m) r' pg
  cu:cU S'.2 3 4096 + miss (pr (wd S'.1.m) r) (nd xs) = cU S.2 3 4096 + miss (pr (wd S.1.m) r) (nd xs)
  le:cU S.2 3 4096 ≤ cU S'.2 3 4096
  ow:∀ f,S.2 f ≠ none→S'.2 f = S.2 f
  n3:∀ f,S'.2 f = S.2 f ∨ S'.2 f = some 3
theorem Nxt.refl {P:Par} {R:Nat→Prop} {r:Nat} {xs:List (Int × Int)} {S:Sc × Us} (K:Op P R r xs S):Nxt P R r xs S S:=
  ⟨K,fun _ _ _ _=>rfl,fun _ _ _ h=>Or.inl h,fun _ _ _ _ _ _=>rfl,fun _ _ _=>rfl,rfl,Nat.le_refl _,fun _ _=>rfl,fun _=>Or.inl rfl⟩
theorem Nxt.trans {P:Par} {R:Nat→Prop} {r:Nat} {xs:List (Int × Int)} {S S' S'' : Sc × Us} (h:Nxt P R r xs S S') (k:Nxt P R r xs S' S''):Nxt P R r xs S S'' :=
  ⟨k.op,fun d x hd hn=>by rw [k.up d x hd (by rw [h.up d x hd hn]; exact hn),h.up d x hd hn],
   fun d x hd hn=>by
    rcases k.nw d x hd hn with q | q
    · exact h.nw d x hd q
    · exact Or.inr q,
   fun r' hr hn d x hd=>by rw [k.ot r' hr hn d x hd,h.ot r' hr hn d x hd],fun r' hr pg=>by rw [k.pw r' hr pg,h.pw r' hr pg],k.cu.trans h.cu,Nat.le_trans h.le k.le,
   fun f hf=>by rw [k.ow f (by rw [h.ow f hf]; exact hf),h.ow f hf],
   fun f=>by
    rcases k.n3 f with q | q
    · rw [q]; exact h.n3 f
    · exact Or.inr q⟩
theorem miss_less {p p' q:Nat→Nat→Bool} {d k:Nat} (hd:0 < d) (hd3:d ≤ 3) (hk:k < 32 ^ d) (h0:p d k = false) (h1:p' d k = true) (hq:q d k = true) (hs:∀ d' k',d' ≤ 3→¬ (d' = d∧k' = k)→p' d' k' = p d' k'):miss p' q + 1 = miss p q:=by
  have e1:=all_miss p q
  have e2:=all_miss p' q
  have e3:=all_more (p:=fun d k=>decide (d ≤ 3) && (p d k && q d k)) (p':=fun d k=>decide (d ≤ 3) && (p' d k && q d k)) hd hd3 hk (by rw [h0]; simp) (by rw [h1,hq]; simp [hd3]) (fun d' k' hn=>by
    by_cases h3:d' ≤ 3
    · rw [hs d' k' h3 hn]
    · simp [h3])
  have c:∀ p:Nat→Nat→Bool,all (fun d k=>decide (d ≤ 3) && (p d k && q d k)) = all (fun d k=>p d k && q d k):=fun p=>rfl
  rw [c,c] at e3
  omega
theorem miss_pos {p q:Nat→Nat→Bool} {d k:Nat} (hd:0 < d) (hd3:d ≤ 3) (hk:k < 32 ^ d) (h0:p d k = false) (hq:q d k = true):0 < miss p q:=by
  have:=miss_less (p:=p) (p':=fun d' k'=>if d' = d∧k' = k then true else p d' k') (q:=q) hd hd3 hk h0 (by simp) hq (fun d' k' _ hn=>if_neg hn)
  omega
theorem op1_ok {P : Par} (hP : P.Ok) (h : Hw) {R : Nat → Prop} {r pg d : Nat} {xs : List (Int × Int)} {S : Sc × Us} (K : Op P R r xs S) (hp : pg < 1048576) (hd : d < 3) (hx : nd xs (d + 1) (nu pg (d + 1)) = true) (hb : tb (wd S.1.m) r d (nu pg d) ≠ none) :
    Nxt P R r xs S (op1 h P r pg d S)∧tb (wd (op1 h P r pg d S).1.m) r (d + 1) (nu pg (d + 1)) ≠ none:=by
  by_cases hn:tb (wd S.1.m) r (d + 1) (nu pg (d + 1)) = none
  · cases hf:tb (wd S.1.m) r d (nu pg d) with
    | none=>exact absurd hf hb
    | some f=>
      have he:=op1_new (h:=h) (P:=P) hf hn
      have hk:=nu_lt hp (show d + 1 ≤ 4 by omega)
      have hp0:pr (wd S.1.m) r (d + 1) (nu pg (d + 1)) = false:=by unfold pr; rw [hn]; rfl
      have hm:=miss_pos (q:=nd xs) (Nat.succ_pos d) (by omega) hk hp0 hx
      have hq:=K.qu
      have hcq:cU S.2 3 4096 < P.q 3:=by omega
      obtain ⟨e0,_,_,hc⟩:=nf_is hP K.ok.va hcq
      obtain ⟨K',E,pw'⟩:=K.ok.hang hP h K.rt hd hf (i:=nu pg (d + 1) % 32) (Nat.mod_lt _ (by decide)) (by rw [nu_at pg (by omega)]; exact hn) hcq _ he
      rw [nu_at pg (by omega)] at E
      generalize op1 h P r pg d S = S' at *
      have ec:cU S'.2 3 4096 = cU S.2 3 4096 + 1:=by rw [he]; exact hc
      have em:=miss_less (p:=pr (wd S.1.m) r) (p':=pr (wd S'.1.m) r) (q:=nd xs) (Nat.succ_pos d) (by omega) hk hp0 (by unfold pr; rw [E r K.rt _ _ (by omega),if_pos ⟨rfl,rfl,rfl⟩]; rfl) hx (fun d' k' h3 hne=>by unfold pr; rw [E r K.rt d' k' h3,if_neg (fun z=>hne z.2)])
      refine ⟨⟨⟨K',K.rt,by omega⟩,fun d' k' h3 hz => ?_,fun d' k' h3 hz => ?_,fun r' hr hne d' k' h3 => ?_,pw',by omega,by omega,fun x hx => ?_,fun x => ?_⟩, ?_⟩
      · rw [E r K.rt d' k' h3,if_neg]
        rintro ⟨_,rfl,rfl⟩
        exact hz hn
      · rw [E r K.rt d' k' h3] at hz
        by_cases q:r = r∧d' = d + 1∧k' = nu pg (d + 1)
        · exact Or.inr (by rw [q.2.1,q.2.2]; exact hx)
        · rw [if_neg q] at hz; exact Or.inl hz
      · rw [E r' hr d' k' h3,if_neg (fun z=>hne z.1)]
      · rw [he]
        show B.pt S.2 (nf P S.2) (some 3) x = S.2 x
        unfold B.pt
        rw [if_neg (fun z=>hx (by rw [z]; exact e0))]
      · rw [he]
        show B.pt S.2 (nf P S.2) (some 3) x = S.2 x ∨ B.pt S.2 (nf P S.2) (some 3) x = some 3
        unfold B.pt
        split
        · exact Or.inr rfl
        · exact Or.inl rfl
      · rw [E r K.rt _ _ (by omega),if_pos ⟨rfl,rfl,rfl⟩]
        exact nofun
  · rw [op1_has hn]
    exact ⟨Nxt.refl K,hn⟩
noncomputable def opp (h:Hw) (P:Par) (r pg:Nat) (S:Sc × Us):Sc × Us:=op1 h P r pg 2 (op1 h P r pg 1 (op1 h P r pg 0 S))
theorem tb_root (W:Nat→Nat→Int) (r:Nat) {pg:Nat} (hp:pg < 1048576):tb W r 0 (nu pg 0) = some r:=by rw [nu_zero hp]; rfl
theorem nd_page {xs:List (Int × Int)} {pg:Nat} (h:nd xs 3 (pg / 32) = true):∀ d,d < 3→nd xs (d + 1) (nu pg (d + 1)) = true:=by
  intro d hd
  have h3:nd xs 3 (nu pg 3) = true:=h
  have h2:=nd_up (by decide) h3
  rw [nu_up pg (by decide)] at h2
  have h1:=nd_up (by decide) h2
  rw [nu_up pg (by decide)] at h1
  rcases (show d = 0 ∨ d = 1 ∨ d = 2 by omega) with rfl | rfl | rfl
  · exact h1
  · exact h2
  · exact h3
theorem opp_ok {P : Par} (hP : P.Ok) (h : Hw) {R : Nat → Prop} {r pg : Nat} {xs : List (Int × Int)} {S : Sc × Us} (K : Op P R r xs S) (hp : pg < 1048576) (hx : nd xs 3 (pg / 32) = true) :
    Nxt P R r xs S (opp h P r pg S)∧tb (wd (opp h P r pg S).1.m) r 3 (pg / 32) ≠ none:=by
  have hn:=nd_page hx
  obtain ⟨n0,b0⟩:=op1_ok hP h K hp (by decide) (hn 0 (by decide)) (by rw [tb_root _ _ hp]; exact nofun)
  obtain ⟨n1,b1⟩:=op1_ok hP h n0.op hp (by decide) (hn 1 (by decide)) b0
  obtain ⟨n2,b2⟩:=op1_ok hP h n1.op hp (by decide) (hn 2 (by decide)) b1
  exact ⟨(n0.trans n1).trans n2,b2⟩
theorem opp_same {h:Hw} {P:Par} {r pg:Nat} {S:Sc × Us} (e:tb (wd S.1.m) r 3 (pg / 32) ≠ none):opp h P r pg S = S:=by
  have h3:tb (wd S.1.m) r 3 (nu pg 3) ≠ none:=e
  have h2:tb (wd S.1.m) r 2 (nu pg 2) ≠ none:=fun q=>h3 (tb_none (by rw [nu_up pg (by decide)]; exact q))
  have h1:tb (wd S.1.m) r 1 (nu pg 1) ≠ none:=fun q=>h2 (tb_none (by rw [nu_up pg (by decide)]; exact q))
  unfold opp
  rw [op1_has (d:=0) h1,op1_has (d:=1) h2,op1_has (d:=2) h3]
noncomputable def grN (h:Hw) (P:Par) (r p:Nat) (S:Sc × Us):Nat→Sc × Us
  | 0=>S
  | n + 1=>opp h P r (p + n) (grN h P r p S n)
def inS (xs:List (Int × Int)) (p n:Nat):Prop:=∀ j,j < n→p + j < 1048576∧nd xs 3 ((p + j) / 32) = true
theorem grN_ok {P : Par} (hP : P.Ok) (h : Hw) {R : Nat → Prop} {r p : Nat} {xs : List (Int × Int)} {S : Sc × Us} (K : Op P R r xs S) : ∀ n, inS xs p n →
    Nxt P R r xs S (grN h P r p S n)∧∀ j,j < n→tb (wd (grN h P r p S n).1.m) r 3 ((p + j) / 32) ≠ none
  | 0,_=>⟨Nxt.refl K,fun j hj=>absurd hj (by omega)⟩
  | n + 1,hi=>by
    obtain ⟨k1,h1⟩:=grN_ok hP h K n (fun j hj=>hi j (by omega))
    obtain ⟨k2,h2⟩:=opp_ok hP h k1.op (hi n (by omega)).1 (hi n (by omega)).2
    refine ⟨k1.trans k2,fun j hj => ?_⟩
    by_cases e:j = n
    · subst e; exact h2
    · show tb (wd (opp h P r (p + n) (grN h P r p S n)).1.m) r 3 ((p + j) / 32) ≠ none
      rw [k2.up 3 _ (Nat.le_refl 3) (h1 j (by omega))]
      exact h1 j (by omega)
theorem grN_skip {P:Par} (hP:P.Ok) (h:Hw) {R:Nat→Prop} {r p:Nat} {xs:List (Int × Int)} {S:Sc × Us} (K:Op P R r xs S) {n m:Nat} (hi:inS xs p m) (hn:n < m):∀ j,n + j < m→(p + (n + j)) / 32 = (p + n) / 32→grN h P r p S (n + j + 1) = grN h P r p S (n + 1)
  | 0,_,_=>rfl
  | j + 1,hj,he=>by
    have ih:=grN_skip hP h K hi hn j (by omega) (by omega)
    show opp h P r (p + (n + (j + 1))) (grN h P r p S (n + j + 1)) = _
    rw [ih]
    refine opp_same ?_
    rw [he]
    exact (grN_ok hP h K (n + 1) (fun i hi'=>hi i (by omega))).2 n (by omega)
noncomputable def gr (h:Hw) (P:Par) (r:Nat) (xs:List (Int × Int)) (S:Sc × Us):Nat→Sc × Us
  | 0=>S
  | j + 1=>grN h P r ((xs.getD j (0,0)).1).toNat (gr h P r xs S j) ((xs.getD j (0,0)).2).toNat
theorem in_span {xs:List (Int × Int)} (hv:∀ s ∈ xs,A.mayS s = true) {j:Nat} (hj:j < xs.length):inS xs ((xs.getD j (0,0)).1).toNat ((xs.getD j (0,0)).2).toNat:=by
  have hm:xs.getD j (0,0) ∈ xs:=by rw [List.getD_eq_getElem?_getD,List.getElem?_eq_getElem hj]; exact List.getElem_mem hj
  generalize xs.getD j (0,0) = s at *
  have:=hv s hm
  simp only [A.mayS,Bool.and_eq_true,decide_eq_true_eq] at this
  intro i hi
  refine ⟨by omega, ?_⟩
  unfold nd
  rw [A.cov_iff]
  refine ⟨s,hm, ?_⟩
  rw [A.ned_iff]
  simp only [qd]
  omega
theorem gr_ok {P : Par} (hP : P.Ok) (h : Hw) {R : Nat → Prop} {r : Nat} {xs : List (Int × Int)} (hv : ∀ s ∈ xs, A.mayS s = true) {S : Sc × Us} (K : Op P R r xs S) : ∀ j, j ≤ xs.length →
    Nxt P R r xs S (gr h P r xs S j)∧∀ i,i < j→∀ x,x < ((xs.getD i (0,0)).2).toNat→tb (wd (gr h P r xs S j).1.m) r 3 ((((xs.getD i (0,0)).1).toNat + x) / 32) ≠ none
  | 0,_=>⟨Nxt.refl K,fun j hj=>absurd hj (by omega)⟩
  | j + 1,hj=>by
    obtain ⟨k1,h1⟩:=gr_ok hP h hv K j (by omega)
    obtain ⟨k2,h2⟩:=grN_ok hP h k1.op _ (in_span hv (show j < xs.length by omega))
    refine ⟨k1.trans k2,fun i hi x hx => ?_⟩
    by_cases e:i = j
    · subst e; exact h2 x hx
    · have:=h1 i (by omega) x hx
      show tb (wd (grN h P r _ (gr h P r xs S j) _).1.m) r 3 _ ≠ none
      rw [k2.up 3 _ (Nat.le_refl 3) this]
      exact this
structure Ag (S T:Sc × Us):Prop where
  re:T.1 = { S.1 with m:=T.1.m }
  us:T.2 = S.2
  wd:∀ f,S.2 f = some 3→∀ i,wd T.1.m f i = wd S.1.m f i
theorem Ag.tb {P:Par} {R:Nat→Prop} {S T:Sc × Us} (h:Ag S T) (K:Ok P R S) {r:Nat} (hr:R r) {d:Nat} (hd:d ≤ 3) (k:Nat):Pg.tb (Pg.wd T.1.m) r d k = Pg.tb (Pg.wd S.1.m) r d k:=(K.fo.same (fun f hf i _=>h.wd f hf i)).2 r hr d hd k
theorem Ag.ok {P:Par} {R:Nat→Prop} {S T:Sc × Us} (h:Ag S T) (K:Ok P R S):Ok P R T:=⟨by rw [h.us]; exact (K.fo.same (fun f hf i _=>h.wd f hf i)).1,by rw [h.us]; exact K.va⟩
end Go.Proofs.YtgljdbabagdhlaaGreat.Pg
namespace Go.Proofs.YtgljdbabagdhlaaGreat.Pg
open B P Go.ChangeShapes Go.WideShapes Go.ChangeAt Go.RowKit
set_option linter.unusedVariables false
def uv (h:Nat):Value:=.agg #[]
theorem Tryz.zeroU:(Tryz.prog.info? 139).map (fun i=>(i.zero,i.size)) = some (some (.agg #[]),0):=by kernel_rfl
structure Vs (D:DataW Value) (N:Nat) (m:Nat→Option Nat):Prop where
  has:∀ k:Int,Maps.has D (.int .i64 k) = true ↔ ∃ (j:Nat) (h:Nat),k = j∧m j = some h
  at' : ∀ (j:Nat) h,m j = some h→∀ z,D.atKey (.int .i64 j) z = .held (uv h)
  lt:∀ j h,m j = some h→j < N∧h ≤ 6
def Ms (w:World) (b N:Nat) (m:Nat→Option Nat):Prop:=∃ D,w.ownsMap Tryz.prog 3 Rv b N D∧Vs D N m
theorem Ms.lt {w:World} {b N:Nat} {m:Nat→Option Nat} (h:Ms w b N m):b < w.heap.size:=by
  obtain ⟨D,ho,_⟩:=h
  exact ho.lt
theorem Ms.ok {w:World} {b N:Nat} {m:Nat→Option Nat} (h:Ms w b N m) {j:Nat} {u:Nat} (e:m j = some u):j < N∧u ≤ 6:=by
  obtain ⟨D,ho,hv⟩:=h
  exact hv.lt j u e
theorem ms_new (w:World) (N:Nat):Ms (w.alloc (.map #[] 0)) w.heap.size N (fun _=>none):=
  ⟨_,(World.ownsMap_made w Tryz.prog 3 Rv).mono (Nat.zero_le _),⟨fun k=>by simp [Maps.has],fun j h e=>by simp at e,fun j h e=>by simp at e⟩⟩
theorem mem_ms {D:DataW Value} {N:Nat} {m:Nat→Option Nat} (v:Vs D N m) (x:Int):x ∈ usI N m ↔ Maps.has D (.int .i64 x) = true:=by
  rw [v.has x]
  simp only [usI,us,List.mem_map,List.mem_filter,List.mem_range]
  constructor
  · rintro ⟨j,⟨h1,h2⟩,rfl⟩
    obtain ⟨h,e⟩:=Option.isSome_iff_exists.1 h2
    exact ⟨j,h,rfl,e⟩
  · rintro ⟨j,h,rfl,e⟩
    exact ⟨j,⟨(v.lt j h e).1,by rw [e]; rfl⟩,rfl⟩
theorem keys_ms {w:World} {b n N:Nat} {D:DataW Value} {m:Nat→Option Nat} (ho:w.ownsMap Tryz.prog 3 Rv b n D) (v:Vs D N m):(usI N m).Perm (intKeys D):=by
  obtain ⟨es,hD,hpw,_⟩:=ho.entries keyed
  obtain ⟨es',hD',hko⟩:=ho.keysOf
  obtain rfl:es = es':=by rw [hD] at hD'; simpa using hD'
  subst hD
  exact perm_intKeys hpw (fun p hp=>by obtain ⟨k,hk⟩:=hko p hp; obtain ⟨x,_,hx,_⟩:=Maps.keyOf_i64 Tryz.underlying3 hk; exact ⟨x,hx⟩) (usI_nodup N m) (mem_ms v)
theorem Ms.mk' {w:World} {b n N:Nat} {D:DataW Value} {m:Nat→Option Nat} (ho:w.ownsMap Tryz.prog 3 Rv b n D) (v:Vs D N m):Ms w b N m:=by
  have h1:=keys_size ho
  have h2:=(keys_ms ho v).length_eq
  have h3:=us_len N m
  have h4:Maps.size D ≤ N:=by omega
  obtain ⟨es,clock,hb,F,hs,hD⟩:=ho
  refine ⟨D,⟨es,clock,hb,F, ?_,hD⟩,v⟩
  have e:Maps.size D = es.size:=by rw [hD]; simp [Maps.size,length_sorted]
  omega
theorem Vs.put {D:DataW Value} {N:Nat} {m:Nat→Option Nat} (v:Vs D N m) (hD:Maps.IsMap D) (j:Nat) (hj:j < N) (h:Nat) (hh:h ≤ 6):Vs (D.put (.int .i64 j) (.held (uv h))) N (pt m j (some h)):=by
  have hk:WideAt.IsKeyLit (.int .i64 (j:Int)):=by simp [WideAt.IsKeyLit]
  refine ⟨fun k => ?_,fun i u e z => ?_,fun i u e => ?_⟩
  · by_cases hkj:k = j
    · subst hkj
      rw [Maps.has_put_same hD hk]
      simp only [true_iff]
      exact ⟨j,h,rfl,by simp [pt]⟩
    · rw [Maps.has_put_other (by intro e; injection e with _ e2; exact hkj e2),v.has k]
      constructor
      · rintro ⟨i,u,rfl,e⟩
        exact ⟨i,u,rfl,by unfold pt; rw [if_neg (by omega)]; exact e⟩
      · rintro ⟨i,u,rfl,e⟩
        unfold pt at e
        rw [if_neg (by omega)] at e
        exact ⟨i,u,rfl,e⟩
  · unfold pt at e
    by_cases hij:i = j
    · subst hij
      rw [if_pos rfl] at e
      cases e
      exact Maps.atKey_put_same hD hk _ _
    · rw [if_neg hij] at e
      rw [Maps.atKey_put_other (by intro e; injection e with _ e2; omega)]
      exact v.at' i u e z
  · unfold pt at e
    by_cases hij:i = j
    · subst hij
      rw [if_pos rfl] at e
      cases e
      exact ⟨hj,hh⟩
    · rw [if_neg hij] at e
      exact v.lt i u e
theorem Ms.look_some {w : World} {b N : Nat} {m : Nat → Option Nat} (h : Ms w b N m) (hN : N ≤ 4096) {j u : Nat} (e : m j = some u) :
    (Instr.lookup 136 (.map (some b)) (.int .i64 j) true).run Tryz.prog w = .ok (.tuple #[.agg #[],.bool true]) w:=by
  obtain ⟨D,ho,v⟩:=h
  have hj:=(v.lt j u e).1
  obtain ⟨x,ps,hr,hx⟩:=ho.look_ok keyed Tryz.underlying136 (z:=.agg #[]) ((zero_of_info Tryz.zeroU).1 w) (zd:=.held (.agg #[])) (zp:=[]) rfl (key_at j (by omega))
  rw [(v.has j).2 ⟨j,u,rfl,e⟩] at hr
  rw [v.at' j u e] at hx
  simp [Rv,uv] at hx
  rw [hr,hx.1]
theorem Ms.look_none {w : World} {b N : Nat} {m : Nat → Option Nat} (h : Ms w b N m) {j : Int} (h0 : -9223372036854775808 ≤ j) (h1 : j ≤ 9223372036854775807) (e : ∀ i : Nat, j = i → m i = none) :
    (Instr.lookup 136 (.map (some b)) (.int .i64 j) true).run Tryz.prog w = .ok (.tuple #[.agg #[],.bool false]) w:=by
  obtain ⟨D,ho,v⟩:=h
  obtain ⟨x,ps,hr,hx⟩:=ho.look_ok keyed Tryz.underlying136 (z:=.agg #[]) ((zero_of_info Tryz.zeroU).1 w) (zd:=.held (.agg #[])) (zp:=[]) rfl (key_all j h0 h1)
  have hf:Maps.has D (.int .i64 j) = false:=by
    rw [Bool.eq_false_iff]
    intro ht
    obtain ⟨i,u,e1,e2⟩:=(v.has j).1 ht
    rw [e i e1] at e2
    cases e2
  rw [hf] at hr
  rw [Maps.atKey_of_not_has hf] at hx
  simp [Rv] at hx
  rw [hr,hx.1]
theorem Ms.store {w : World} {b N : Nat} {m : Nat → Option Nat} (h : Ms w b N m) (hN : N ≤ 4096) (j : Nat) (hj : j < N) (u : Nat) (hu : u ≤ 6) :
    ∃ w',(Instr.mapUpdate 136 (.map (some b)) (.int .i64 j) (.agg #[])).run Tryz.prog w = .ok () w'∧Ms w' b N (pt m j (some u))∧w.grownBy w' (some b):=by
  obtain ⟨D,ho,v⟩:=h
  obtain ⟨w',hr,ho',g⟩:=ho.update keyed Tryz.underlying136 (by unfold maxLen; omega) (key_at j (by omega)) (val:=uv u) (d:=.held (uv u)) (ps:=[]) rfl
  exact ⟨w',hr,Ms.mk' ho' (v.put ho.isMap j hj u hu),g⟩
theorem Ms.of_eq {w w' : World} {b N:Nat} {m:Nat→Option Nat} (h:Ms w b N m) (e:w'.heap[b]? = w.heap[b]?) (hs:w.heap.size ≤ w'.heap.size):Ms w' b N m:=by
  obtain ⟨D,ho,v⟩:=h
  obtain ⟨es,clock,hb,F⟩:=ho
  exact ⟨D,⟨es,clock,e.trans hb,F⟩,v⟩
end Go.Proofs.YtgljdbabagdhlaaGreat.Pg
namespace Go.Proofs.YtgljdbabagdhlaaGreat.Pg
open P E Go.ChangeShapes Go.WideShapes Go.ChangeAt Go.RowKit
set_option linter.unusedVariables false
set_option maxRecDepth 8192
theorem kpB {X X' : Nat→Prop} {w w' : World} (h:B.Kp X X' w w'):C.Kp X X' w w':=⟨h.os,h.tape,h.output,h.size,h.block,h.new⟩
def Tt (w:World) (X:Nat→Prop) (t c p:Nat) (h:Hw) (P:Par) (S:Sc × Us) (m:Nat→Option Nat):Prop:=
  ∃ Y Z b,Cr pK w Y c h S.1∧Po w Z p P S.2∧C.Blk w t 138 [.pointer (some ⟨c,0,none⟩),.pointer (some ⟨p,0,none⟩),.map (some b)]∧Ms w b 4096 m ∧
    (∀ k,Y k→¬ Z k∧k ≠ t∧k ≠ b)∧(∀ k,Z k→k ≠ t∧k ≠ b)∧t ≠ b∧∀ k,X k ↔ Y k ∨ Z k ∨ k = t ∨ k = b
theorem Tt.lt {w:World} {X:Nat→Prop} {t c p:Nat} {h:Hw} {P:Par} {S:Sc × Us} {m:Nat→Option Nat} (K:Tt w X t c p h P S m):∀ k,X k→k < w.heap.size:=by
  obtain ⟨Y,Z,b,h1,h2,h3,h4,_,_,_,h8⟩:=K
  intro k hk
  rcases (h8 k).1 hk with q | q | rfl | rfl
  · exact h1.lt k q
  · exact h2.lt k q
  · exact h3.lt
  · exact h4.lt
theorem Tt.of_eq {w w' : World} {X:Nat→Prop} {t c p:Nat} {h:Hw} {P:Par} {S:Sc × Us} {m:Nat→Option Nat} (K:Tt w X t c p h P S m) (hs:w.heap.size ≤ w'.heap.size) (e:∀ k,X k→w'.heap[k]? = w.heap[k]?):Tt w' X t c p h P S m:=by
  obtain ⟨Y,Z,b,h1,h2,h3,h4,h5,h6,h7,h8⟩:=K
  exact ⟨Y,Z,b,h1.of_eq hs (fun k q=>e k ((h8 k).2 (Or.inl q))),h2.of_eq hs (fun k q=>e k ((h8 k).2 (Or.inr (Or.inl q)))),h3.of_eq (e t ((h8 t).2 (Or.inr (Or.inr (Or.inl rfl))))),h4.of_eq (e b ((h8 b).2 (Or.inr (Or.inr (Or.inr rfl))))) hs,h5,h6,h7,h8⟩
theorem Tt.below {w w' : World} {X:Nat→Prop} {t c p:Nat} {h:Hw} {P:Par} {S:Sc × Us} {m:Nat→Option Nat} (K:Tt w X t c p h P S m) (b:Below w.heap.size w w'):Tt w' X t c p h P S m:=K.of_eq b.size (fun k hk=>b.block k (K.lt k hk))
def Tv (w:World) (X:Nat→Prop) (t c p:Nat) (h:Hw) (P:Par) (S:Sc × Us) (m:Nat→Option Nat) (w' : World):Prop:=∃ X',Tt w' X' t c p h P S m∧C.Kp X X' w w'
theorem Tt.tv {w:World} {X:Nat→Prop} {t c p:Nat} {h:Hw} {P:Par} {S:Sc × Us} {m:Nat→Option Nat} (K:Tt w X t c p h P S m):Tv w X t c p h P S m w:=⟨X,K,C.Kp.refl _ _⟩
theorem Tv.pre {w w1 w2:World} {X X1:Nat→Prop} {t c p:Nat} {h:Hw} {P:Par} {S:Sc × Us} {m:Nat→Option Nat} (g:Tv w1 X1 t c p h P S m w2) (k:C.Kp X X1 w w1):Tv w X t c p h P S m w2:=by
  obtain ⟨X2,c,k2⟩:=g
  exact ⟨X2,c,k.trans k2⟩
theorem Tv.below {w w1 w2:World} {X:Nat→Prop} {t c p:Nat} {h:Hw} {P:Par} {S:Sc × Us} {m:Nat→Option Nat} (g:Tv w X t c p h P S m w1) (b:Below w1.heap.size w1 w2):Tv w X t c p h P S m w2:=by
  obtain ⟨X1,c,k⟩:=g
  exact ⟨X1,c.below b,k.trans (kp_of_below _ b)⟩
theorem Tv.core {w w1:World} {X:Nat→Prop} {t c p:Nat} {h:Hw} {P:Par} {S:Sc × Us} {m:Nat→Option Nat} (K:Tv w X t c p h P S m w1):∃ Y,Cr pK w1 Y c h S.1∧(∀ k,w1.heap.size ≤ k→¬ Y k)∧∀ s' w2,Gv pK w1 Y c h s' w2→Tv w X t c p h P (s',S.2) m w2:=by
  obtain ⟨X1,⟨Y,Z,b,h1,h2,h3,h4,h5,h6,h7,h8⟩,k1⟩:=K
  refine ⟨Y,h1,fun k hk q=>by have:=h1.lt k q; omega,fun s' w2 ⟨Y',c',k'⟩ => ?_⟩
  have nw:∀ k,k < w1.heap.size→¬ Y k→¬ Y' k:=fun k hk hn q=>by
    rcases k'.new k q with q | q
    · exact hn q
    · omega
  have hz:∀ k,Z k→¬ Y k:=fun k q z=>(h5 k z).1 q
  have ht:¬ Y t:=fun z=>(h5 t z).2.1 rfl
  have hb:¬ Y b:=fun z=>(h5 b z).2.2 rfl
  refine ⟨fun k=>Y' k ∨ Z k ∨ k = t ∨ k = b,⟨Y',Z,b,c',h2.of_eq k'.size (fun x q=>k'.block x (h2.lt x q) (hz x q)),h3.of_eq (k'.block t h3.lt ht),h4.of_eq (k'.block b h4.lt hb) k'.size,fun k q=>⟨fun z=>nw k (h2.lt k z) (hz k z) q, ?_, ?_⟩,h6,h7,fun _=>Iff.rfl⟩,k1.trans ⟨k'.os,k'.tape,k'.output,k'.size,fun x hx hn=>k'.block x hx (fun q=>hn ((h8 x).2 (Or.inl q))),fun x hx => ?_⟩⟩
  · rintro rfl; exact nw k h3.lt ht q
  · rintro rfl; exact nw k h4.lt hb q
  · rcases hx with q | q
    · rcases k'.new x q with q | q
      · exact Or.inl ((h8 x).2 (Or.inl q))
      · exact Or.inr q
    · exact Or.inl ((h8 x).2 (Or.inr q))
theorem Tv.pool {w w1:World} {X:Nat→Prop} {t c p:Nat} {h:Hw} {P:Par} {S:Sc × Us} {m:Nat→Option Nat} (K:Tv w X t c p h P S m w1):∃ Z,Po w1 Z p P S.2∧∀ us' w2 Z',Po w2 Z' p P us'→B.Kp Z Z' w1 w2→Tv w X t c p h P (S.1,us') m w2:=by
  obtain ⟨X1,⟨Y,Z,b,h1,h2,h3,h4,h5,h6,h7,h8⟩,k1⟩:=K
  refine ⟨Z,h2,fun us' w2 Z' c' k' => ?_⟩
  have nw:∀ k,k < w1.heap.size→¬ Z k→¬ Z' k:=fun k hk hn q=>by
    rcases k'.new k q with q | q
    · exact hn q
    · omega
  have hz:∀ k,Y k→¬ Z k:=fun k q=>(h5 k q).1
  have ht:¬ Z t:=fun z=>(h6 t z).1 rfl
  have hb:¬ Z b:=fun z=>(h6 b z).2 rfl
  refine ⟨fun k=>Y k ∨ Z' k ∨ k = t ∨ k = b,⟨Y,Z',b,h1.of_eq k'.size (fun x q=>k'.block x (h1.lt x q) (hz x q)),c',h3.of_eq (k'.block t h3.lt ht),h4.of_eq (k'.block b h4.lt hb) k'.size,fun k q=>⟨nw k (h1.lt k q) (hz k q),(h5 k q).2⟩,fun k q=>⟨?_, ?_⟩,h7,fun _=>Iff.rfl⟩,k1.trans ⟨k'.os,k'.tape,k'.output,k'.size,fun x hx hn=>k'.block x hx (fun q=>hn ((h8 x).2 (Or.inr (Or.inl q)))),fun x hx => ?_⟩⟩
  · rintro rfl; exact nw k h3.lt ht q
  · rintro rfl; exact nw k h4.lt hb q
  · rcases hx with q | q | q
    · exact Or.inl ((h8 x).2 (Or.inl q))
    · rcases k'.new x q with q | q
      · exact Or.inl ((h8 x).2 (Or.inr (Or.inl q)))
      · exact Or.inr q
    · exact Or.inl ((h8 x).2 (Or.inr (Or.inr q)))
theorem Tv.own {w w1:World} {X:Nat→Prop} {t c p:Nat} {h:Hw} {P:Par} {S:Sc × Us} {m:Nat→Option Nat} (K:Tv w X t c p h P S m w1):∃ b,C.Blk w1 t 138 [.pointer (some ⟨c,0,none⟩),.pointer (some ⟨p,0,none⟩),.map (some b)]∧Ms w1 b 4096 m∧∀ m' w2,Ms w2 b 4096 m'→w1.grownBy w2 (some b)→Tv w X t c p h P S m' w2:=by
  obtain ⟨X1,⟨Y,Z,b,h1,h2,h3,h4,h5,h6,h7,h8⟩,k1⟩:=K
  refine ⟨b,h3,h4,fun m' w2 c' g=>⟨X1,⟨Y,Z,b,h1.of_eq g.size (fun x q=>g.block x (h1.lt x q) (C.some_ne (h5 x q).2.2)),h2.of_eq g.size (fun x q=>g.block x (h2.lt x q) (C.some_ne (h6 x q).2)),h3.kept g (C.some_ne h7),c',h5,h6,h7,h8⟩,k1.trans (C.Kp.of_grown g (fun x hx=>by cases hx; exact (h8 b).2 (Or.inr (Or.inr (Or.inr rfl)))) (fun _ q=>Or.inl q))⟩⟩
theorem Tv.c0 {w w1:World} {X:Nat→Prop} {t c p:Nat} {h:Hw} {P:Par} {S:Sc × Us} {m:Nat→Option Nat} (K:Tv w X t c p h P S m w1):w1.cell? ⟨t,0,none⟩ = some (.pointer (some ⟨c,0,none⟩)):=by
  obtain ⟨b,hb,_⟩:=K.own
  exact hb.cell 0
theorem Tv.c1 {w w1:World} {X:Nat→Prop} {t c p:Nat} {h:Hw} {P:Par} {S:Sc × Us} {m:Nat→Option Nat} (K:Tv w X t c p h P S m w1):w1.cell? ⟨t,1,none⟩ = some (.pointer (some ⟨p,0,none⟩)):=by
  obtain ⟨b,hb,_⟩:=K.own
  exact hb.cell 1
theorem Tv.hw {w w1:World} {X:Nat→Prop} {t c p:Nat} {h:Hw} {P:Par} {S:Sc × Us} {m:Nat→Option Nat} (K:Tv w X t c p h P S m w1):h.Ok:=by
  obtain ⟨Y,c,_⟩:=K.core
  exact c.ok
theorem Tv.par {w w1:World} {X:Nat→Prop} {t c p:Nat} {h:Hw} {P:Par} {S:Sc × Us} {m:Nat→Option Nat} (K:Tv w X t c p h P S m w1):P.Ok∧Va P S.2:=by
  obtain ⟨Z,c,_⟩:=K.pool
  exact ⟨c.ok,c.va⟩
theorem maps_nil (r:Option Nat):∀ w:World,(binOp .neq 136 (.map r) (.map none)).run Tryz.prog w = .ok (.bool r.isSome) w:=fun w=>by rw [run_neq_map_nil w _ _ _ r Tryz.underlying136]; cases r <;> rfl
theorem made_t {w w1:World} {X:Nat→Prop} {t c p:Nat} {h:Hw} {P:Par} {S:Sc × Us} {m:Nat→Option Nat} (K:Tv w X t c p h P S m w1):Calls Tryz.prog 52 #[.pointer (some ⟨t,0,none⟩)] w1 fun e w'=>e = .returned (.bool true)∧w' = w1:=by
  obtain ⟨b,hb,_⟩:=K.own
  have hc:=hb.cell 2
  have hq:=maps_nil (some b)
  clear K hb
  simp only [List.getElem?_cons_succ,List.getElem?_cons_zero] at hc
  go_enter Tryz.func52,Tryz.ntmps52
  go_wp2
  go_ret
  exact ⟨rfl,rfl⟩
def isR (m:Nat→Option Nat) (r:Int):Prop:=∃ k:Nat,r = k∧m k ≠ none
theorem check_arg {w w1:World} {X:Nat→Prop} {t c p:Nat} {h:Hw} {P:Par} {S:Sc × Us} {m:Nat→Option Nat} (K:Tv w X t c p h P S m w1) (r:Int) (h0 : -9223372036854775808 ≤ r) (h1:r ≤ 9223372036854775807) (hr:¬ isR m r):Calls Tryz.prog 54 #[.pointer (some ⟨t,0,none⟩),.int .i64 r] w1 fun e w'=>e = .returned (.int .i64 2)∧Below w1.heap.size w1 w':=by
  have HK:Hid (Calls _ _ _ _ _):=made_t K
  obtain ⟨b,hb,hm,_⟩:=K.own
  have hc:=hb.cell 2
  have hl:=hm.look_none h0 h1 (fun i e=>by
    cases q:m i with
    | none=>rfl
    | some u=>exact absurd ⟨i,e,by rw [q]; exact nofun⟩ hr)
  clear K hb hm hr
  simp only [List.getElem?_cons_succ,List.getElem?_cons_zero] at hc
  go_enter Tryz.func54,Tryz.ntmps54
  go_wp2_with (go_at_call 52; refine HK.out.mono ?_; rintro e w' ⟨rfl,rfl⟩)
  go_ret
  exact ⟨rfl,(Below.refl _ _).alloc (Nat.le_refl _) _⟩
theorem check_ok {w w1:World} {X:Nat→Prop} {t c p:Nat} {h:Hw} {P:Par} {S:Sc × Us} {m:Nat→Option Nat} (K:Tv w X t c p h P S m w1) (r:Nat) (hr:m r ≠ none):Calls Tryz.prog 54 #[.pointer (some ⟨t,0,none⟩),.int .i64 r] w1 fun e w'=>e = .returned (.int .i64 0)∧Below w1.heap.size w1 w':=by
  have HK:Hid (Calls _ _ _ _ _):=made_t K
  obtain ⟨b,hb,hm,_⟩:=K.own
  have hc:=hb.cell 2
  obtain ⟨u,hu⟩:=Option.ne_none_iff_exists'.1 hr
  have hl:=hm.look_some (Nat.le_refl _) hu
  clear K hb hm hr hu
  simp only [List.getElem?_cons_succ,List.getElem?_cons_zero] at hc
  go_enter Tryz.func54,Tryz.ntmps54
  go_wp2_with (go_at_call 52; refine HK.out.mono ?_; rintro e w' ⟨rfl,rfl⟩)
  go_ret
  exact ⟨rfl,(Below.refl _ _).alloc (Nat.le_refl _) _⟩
theorem place_ok (f i:Nat) (hf:f < 4096) (hi:i < 32) (w:World):Calls Tryz.prog 100 #[.int .i64 f,.int .i64 i] w fun e w'=>e = .returned (.int .u64 ((f * 256 + i * 8:Nat):Int))∧w' = w:=by
  have CP:Hid (Calls Tryz.prog 66 #[.int .i64 f,.int .i64 ((i:Int) * 8)] w fun e w'=>e = .returned (.tuple #[.int .u64 ((f * 256 + i * 8:Nat):Int),.int .i64 0])∧w' = w):=by
    have:=F.Place_ok (f:Int) ((i:Int) * 8) (by omega) (by omega) (by omega) (by omega) w
    have e:((f:Int) * 256 + (i:Int) * 8) = ((f * 256 + i * 8:Nat):Int):=by push_cast; rfl
    rw [e] at this
    exact this
  generalize f * 256 + i * 8 = x at *
  go_enter Tryz.func100,Tryz.ntmps100
  go_wp2_with (go_at_call 66; refine CP.out.mono ?_; rintro e w' ⟨rfl,rfl⟩)
  go_ret
  exact ⟨rfl,rfl⟩
theorem Tv.word {w w1:World} {X:Nat→Prop} {t c p:Nat} {h:Hw} {P:Par} {S:Sc × Us} {m:Nat→Option Nat} (K:Tv w X t c p h P S m w1) {f i:Nat} (hf:f < h.n) (hi:i < 32):0 ≤ wd S.1.m f i∧wd S.1.m f i < 18446744073709551616:=by
  obtain ⟨Y,cr,_,_⟩:=K.core
  obtain ⟨pm,gm,_,hM,_⟩:=cr.mem
  rw [wd_at _ _ hi]
  have:=F.num_bd S.1.m (f * 256 + i * 8) 8 (fun j hj=>hM.ok (f * 256 + i * 8 + j) (by omega)) 8 (Nat.le_refl _)
  exact ⟨this.1,by simpa using this.2⟩
theorem load_w {w w1 : World} {X : Nat → Prop} {t c p : Nat} {h : Hw} {P : Par} {S : Sc × Us} {m : Nat → Option Nat} (K : Tv w X t c p h P S m w1) {f i : Nat} (hf : f < h.n) (hi : i < 32) : ∃ pm, w1.cell? ⟨c, 0, none⟩ = some (.pointer (some ⟨pm, 0, none⟩)) ∧
    ∀ W,Below w1.heap.size w1 W→Calls Tryz.prog 29 #[.pointer (some ⟨pm,0,none⟩),.int .u64 ((f * 256 + i * 8:Nat):Int),.int .i64 8] W fun e w'=>e = .returned (.tuple #[.int .u64 (wd S.1.m f i),.int .i64 0])∧w' = W:=by
  obtain ⟨Y,cr,_,_⟩:=K.core
  obtain ⟨pm,gm,c0,hM,_⟩:=cr.mem
  refine ⟨pm,c0,fun W hW => ?_⟩
  rw [wd_at _ _ hi]
  exact F.Load_ok (hM.of_eq hW.size (hW.block _ hM.lt) (hW.block _ hM.by'.1)) K.hw.n2 (f * 256 + i * 8) 8 (by decide) (by decide) (by omega)
theorem below2 (w:World) (a b:Obj):Below w.heap.size w ((w.alloc a).alloc b):=((Below.refl _ _).alloc (Nat.le_refl _) _).alloc (by simp) _
theorem box_new (w:World) (ty:TypeId) (Z:Array Value):C.Blk (w.alloc (.cells Z ty)) w.heap.size ty Z.toList:=C.blk_new w Z.toList ty
theorem _root_.Go.Proofs.YtgljdbabagdhlaaGreat.C.Blk.whole {w:World} {g:Nat} {ty:TypeId} {L:List Value} (h:C.Blk w g ty L) (A:Array Value) (hs:A.size = L.length):w.there g 0 A.size∧C.Blk (w.setCells g 0 A.toList) g ty A.toList:=by
  refine ⟨fun j hj=>⟨?_,h.frozen _⟩, ?_⟩
  · rw [h.cell,List.getElem?_eq_getElem (by omega)]
    rfl
  · have:=C.Blk.sets A.toList 0 w L h (by simp; omega)
    rw [List.take_zero,List.nil_append,Nat.zero_add,List.drop_of_length_le (by simp; omega),List.append_nil] at this
    exact this
theorem _root_.Go.Proofs.YtgljdbabagdhlaaGreat.C.Blk.range {w:World} {g:Nat} {ty:TypeId} {L:List Value} (h:C.Blk w g ty L):w.rangeAt g 0 L:=fun j v hv=>by
  rw [Nat.zero_add,h.cell]
  exact hv
theorem below_sets {B:Nat} {w w' : World} (h:Below B w w') (g:Nat) (hg:B ≤ g):∀ (vs:List Value) (k:Nat),Below B w (w'.setCells g k vs):=by
  intro vs
  induction vs generalizing w' with
  | nil=>intro k; exact h
  | cons v vs ih=>intro k; exact ih (h.setCell hg v) (k + 1)
theorem sets_other (g x:Nat) (hn:x ≠ g):∀ (vs:List Value) (k:Nat) (w:World),(w.setCells g k vs).heap[x]? = w.heap[x]?
  | [],_,_=>rfl
  | v :: vs,k,w=>by
    rw [World.setCells,sets_other g x hn vs (k + 1)]
    exact Below.heap_setCell w ⟨g,k,none⟩ v x hn
theorem Tryz.infoN:(Tryz.prog.info? 32).map (fun i=>(i.zero,i.size)) = some (some (.agg #[.bool false,.bool false,.bool false,.bool false,.bool false,.bool false,.int .i64 0]),7):=by kernel_rfl
set_option maxHeartbeats 1000000 in
theorem read_ok {w w1 : World} {X : Nat → Prop} {t c p : Nat} {h : Hw} {P : Par} {S : Sc × Us} {m : Nat → Option Nat} (K : Tv w X t c p h P S m w1) {f i : Nat} (hf : f < h.n) (hi : i < 32) (hv : N.mayW (wd S.1.m f i) = true) :
    Calls Tryz.prog 30 #[.pointer (some ⟨t,0,none⟩),.int .u64 ((f * 256 + i * 8:Nat):Int)] w1 fun e w'=>e = .returned (.agg #[.bool (N.fb (wd S.1.m f i) 1),.bool (N.fb (wd S.1.m f i) 2),.bool (N.fb (wd S.1.m f i) 4),.bool (N.fb (wd S.1.m f i) 8),.bool (N.fb (wd S.1.m f i) 16),.bool (N.fb (wd S.1.m f i) 32),.int .i64 ((wd S.1.m f i) / 256)])∧Below w1.heap.size w1 w':=by
  obtain ⟨pm,c0,hl⟩:=load_w K hf hi
  have hw:=K.word hf hi
  have c1:=K.c0
  have CL:Hid (∀ W,Below w1.heap.size w1 W→Calls Tryz.prog 29 #[.pointer (some ⟨pm,0,none⟩),.int .u64 ((f * 256 + i * 8:Nat):Int),.int .i64 8] W fun e w'=>e = .returned (.tuple #[.int .u64 (wd S.1.m f i),.int .i64 0])∧w' = W):=hl
  have CR:Hid (∀ W,Calls Tryz.prog 69 #[.int .u64 (wd S.1.m f i)] W fun e w'=>e = .returned (.tuple #[.agg #[.bool (N.fb (wd S.1.m f i) 1),.bool (N.fb (wd S.1.m f i) 2),.bool (N.fb (wd S.1.m f i) 4),.bool (N.fb (wd S.1.m f i) 8),.bool (N.fb (wd S.1.m f i) 16),.bool (N.fb (wd S.1.m f i) 32),.int .i64 ((wd S.1.m f i) / 256)],.int .i64 0])∧Below W.heap.size W w'):=fun W=>N.Read_ok _ hw.1 hw.2 hv W
  have hs:(#[.bool (N.fb (wd S.1.m f i) 1),.bool (N.fb (wd S.1.m f i) 2),.bool (N.fb (wd S.1.m f i) 4),.bool (N.fb (wd S.1.m f i) 8),.bool (N.fb (wd S.1.m f i) 16),.bool (N.fb (wd S.1.m f i) 32),.int .i64 ((wd S.1.m f i) / 256)]:Array Value).size = 7:=rfl
  have ho:(#[.bool (N.fb (wd S.1.m f i) 1),.bool (N.fb (wd S.1.m f i) 2),.bool (N.fb (wd S.1.m f i) 4),.bool (N.fb (wd S.1.m f i) 8),.bool (N.fb (wd S.1.m f i) 16),.bool (N.fb (wd S.1.m f i) 32),.int .i64 ((wd S.1.m f i) / 256)]:Array Value).all (·.oneCell') = true:=by simp [Value.oneCell']
  have HC:Hid (∀ W,Below w1.heap.size w1 W→W.cell? ⟨c,0,none⟩ = some (.pointer (some ⟨pm,0,none⟩))∧W.cell? ⟨t,0,none⟩ = some (.pointer (some ⟨c,0,none⟩))):=fun W hW=>⟨by
    rw [hW.cell (by obtain ⟨Y,cr,_,_⟩:=K.core; obtain ⟨_,_,_,_,q⟩:=cr.mem; exact q)]; exact c0,(K.below hW).c0⟩
  clear K hl hv hw c0 c1
  generalize wd S.1.m f i = v at *
  generalize (#[.bool (N.fb v 1),.bool (N.fb v 2),.bool (N.fb v 4),.bool (N.fb v 8),.bool (N.fb v 16),.bool (N.fb v 32),.int .i64 (v / 256)]:Array Value) = A at *
  generalize f * 256 + i * 8 = x at *
  have hz:=(zero_of_info Tryz.infoN).1
  have hA:(Tryz.prog.info? 32).map (·.size) = some A.size:=by rw [hs]; exact (zero_of_info Tryz.infoN).2
  have hzs:(#[.bool false,.bool false,.bool false,.bool false,.bool false,.bool false,.int .i64 0]:Array Value).size = 7:=rfl
  generalize (#[.bool false,.bool false,.bool false,.bool false,.bool false,.bool false,.int .i64 0]:Array Value) = Z at *
  have B1:Hid (Below w1.heap.size w1 (w1.alloc (.cells Z 32))):=(Below.refl _ _).alloc (Nat.le_refl _) _
  obtain ⟨d0,d1⟩:=HC.out _ B1.out
  have HR0:Hid (C.Blk (w1.alloc (.cells Z 32)) w1.heap.size 32 Z.toList):=box_new _ _ _
  have HI:Hid ((Tryz.prog.info? 32).map (·.size) = some A.size):=hA
  have HO:Hid (A.all (·.oneCell') = true):=ho
  have HSZ:Hid (A.size = 7∧Z.size = 7):=⟨hs,hzs⟩
  clear hA ho hs hzs
  go_enter Tryz.func30,Tryz.ntmps30
  go_wp2_with fail
  refine (CL.out _ B1.out).mono ?_
  rintro e w' ⟨rfl,rfl⟩
  go_wp2_with fail
  refine (CR.out _).mono ?_
  rintro e w2 ⟨rfl,hb⟩
  have HR2:Hid (C.Blk w2 w1.heap.size 32 Z.toList):=HR0.out.of_eq (hb.block _ HR0.out.lt)
  have B2:Hid (Below w1.heap.size w1 w2):=B1.out.trans (hb.mono B1.out.size)
  clear hb
  have HX1:Hid ((w2.alloc (.cells Z 32)).there w2.heap.size 0 A.size∧C.Blk ((w2.alloc (.cells Z 32)).setCells w2.heap.size 0 A.toList) w2.heap.size 32 A.toList):=(box_new w2 32 Z).whole A (by rw [Array.length_toList,HSZ.out.1,HSZ.out.2])
  have HR3:Hid (C.Blk ((w2.alloc (.cells Z 32)).setCells w2.heap.size 0 A.toList) w1.heap.size 32 Z.toList):=by
    refine (HR2.out.of_eq (heap_alloc_old _ _ HR2.out.lt)).of_eq (sets_other _ _ (Nat.ne_of_lt HR2.out.lt) _ _ _)
  have HR4:Hid (((w2.alloc (.cells Z 32)).setCells w2.heap.size 0 A.toList).there w1.heap.size 0 A.size∧C.Blk (((w2.alloc (.cells Z 32)).setCells w2.heap.size 0 A.toList).setCells w1.heap.size 0 A.toList) w1.heap.size 32 A.toList):=HR3.out.whole A (by rw [Array.length_toList,HSZ.out.1,HSZ.out.2])
  go_wp2_with (first
    | (refine wpList_store_mid rfl 32 (.tmp 7) (.tmp 24) rfl _ 0 A rfl rfl HX1.out.1 HI.out HO.out ?_)
    | (refine wpList_load_mid rfl 32 (.tmp 7) rfl _ 0 rfl A.toList _ HX1.out.2.range Tryz.underlying32 rfl (by rw [Array.length_toList]; exact HI.out) ?_)
    | (refine wpList_store_mid rfl 32 (.tmp 4) (.tmp 26) rfl _ 0 A rfl rfl HR4.out.1 HI.out HO.out ?_))
  exact bodyPost_ret (v:=.agg A) (results_cell_row Tryz.results30 _ _ w1.heap.size 32 _ (0,0) _ rfl HR4.out.2 Tryz.underlying32 rfl (by simpa using HI.out)) rfl ⟨rfl,below_sets (below_sets (B2.out.alloc B2.out.size _) _ B2.out.size _ _) _ (Nat.le_refl _) _ _⟩
theorem store_w {w w1 : World} {X : Nat → Prop} {t c p : Nat} {h : Hw} {P : Par} {S : Sc × Us} {m : Nat → Option Nat} (K : Tv w X t c p h P S m w1) {f i : Nat} (hf : f < h.n) (hi : i < 32) {v : Int} (h0 : 0 ≤ v) (h1 : v < 18446744073709551616) : ∃ pm, w1.cell? ⟨c, 0, none⟩ = some (.pointer (some ⟨pm, 0, none⟩)) ∧
    ∀ W,Below w1.heap.size w1 W→Calls Tryz.prog 28 #[.pointer (some ⟨pm,0,none⟩),.int .u64 ((f * 256 + i * 8:Nat):Int),.int .i64 8,.int .u64 v] W fun e w'=>e = .returned (.int .i64 0)∧Tv w X t c p h P (lk S.1 f i v,S.2) m w':=by
  obtain ⟨Y,cr,_,_⟩:=K.core
  obtain ⟨pm,_,c0,_,_⟩:=cr.mem
  refine ⟨pm,c0,fun W hW => ?_⟩
  obtain ⟨Y,cr,_,ht⟩:=(K.below hW).core
  obtain ⟨pm',gm,c0',hM,_,ht'⟩:=cr.memt
  have e:pm' = pm:=by
    rw [hW.cell (p:=⟨c,0,none⟩) (by obtain ⟨Y,cr,_,_⟩:=K.core; obtain ⟨_,_,_,_,q⟩:=cr.mem; exact q),c0] at c0'
    simpa using c0'.symm
  subst e
  refine (F.Store_ok hM K.hw.n2 (f * 256 + i * 8) 8 (by decide) (by decide) (by omega) v h0 h1).mono ?_
  rintro e w2 ⟨rfl,m2,g2⟩
  exact ⟨rfl,ht _ _ (ht' _ _ m2 g2)⟩
theorem write_ok {w w1 : World} {X : Nat → Prop} {t c p : Nat} {h : Hw} {P : Par} {S : Sc × Us} {m : Nat → Option Nat} (K : Tv w X t c p h P S m w1) {f i : Nat} (hf : f < h.n) (hi : i < 32) (b1 b2 b3 b4 b5 b6 : Bool) (x : Int) (hm : N.may b1 b2 b3 b4 b5 b6 x = true) :
    Calls Tryz.prog 25 #[.pointer (some ⟨t,0,none⟩),.int .u64 ((f * 256 + i * 8:Nat):Int),.agg #[.bool b1,.bool b2,.bool b3,.bool b4,.bool b5,.bool b6,.int .i64 x]] w1 fun e w'=>e = .returned (.tuple #[])∧Tv w X t c p h P (lk S.1 f i (N.lo b1 b2 b3 b4 b5 b6 + x * 256),S.2) m w':=by
  have hx:=N.may_range hm
  have hl:=N.lo_range b1 b2 b3 b4 b5 b6
  obtain ⟨pm,c0,hst⟩:=store_w K hf hi (v:=N.lo b1 b2 b3 b4 b5 b6 + x * 256) (by omega) (by omega)
  have CM:Hid (∀ W,Calls Tryz.prog 63 #[.agg #[.bool b1,.bool b2,.bool b3,.bool b4,.bool b5,.bool b6,.int .i64 x]] W fun e w'=>e = .returned (.tuple #[.int .u64 (N.lo b1 b2 b3 b4 b5 b6 + x * 256),.int .i64 0])∧Below W.heap.size W w'):=fun W=>N.Make_ok _ _ _ _ _ _ _ hm W
  have CS:Hid (∀ W,Below w1.heap.size w1 W→Calls Tryz.prog 28 #[.pointer (some ⟨pm,0,none⟩),.int .u64 ((f * 256 + i * 8:Nat):Int),.int .i64 8,.int .u64 (N.lo b1 b2 b3 b4 b5 b6 + x * 256)] W fun e w'=>e = .returned (.int .i64 0)∧Tv w X t c p h P (lk S.1 f i (N.lo b1 b2 b3 b4 b5 b6 + x * 256),S.2) m w'):=hst
  have B1:Hid (∀ A:Array Value,Below w1.heap.size w1 (w1.alloc (.cells A 32))):=fun A=>(Below.refl _ _).alloc (Nat.le_refl _) _
  have HC:Hid (∀ W,Below w1.heap.size w1 W→W.cell? ⟨c,0,none⟩ = some (.pointer (some ⟨pm,0,none⟩))∧W.cell? ⟨t,0,none⟩ = some (.pointer (some ⟨c,0,none⟩))):=fun W hW=>⟨by
    rw [hW.cell (by obtain ⟨Y,cr,_,_⟩:=K.core; obtain ⟨_,_,_,_,q⟩:=cr.mem; exact q)]; exact c0,(K.below hW).c0⟩
  clear K hst hx hl hm c0
  generalize N.lo b1 b2 b3 b4 b5 b6 + x * 256 = v at *
  generalize f * 256 + i * 8 = y at *
  go_enter Tryz.func25,Tryz.ntmps25
  go_wp2_with fail
  refine (CM.out _).mono ?_
  rintro e w2 ⟨rfl,hb⟩
  have B2:Hid (Below w1.heap.size w1 w2):=(B1.out _).trans (hb.mono (B1.out _).size)
  obtain ⟨d0,d1⟩:=HC.out w2 B2.out
  clear hb
  go_wp2_with (go_at_call 28; refine (CS.out _ B2.out).mono ?_; rintro e w3 ⟨rfl,hT⟩; have HT:Hid (Tv w X t c p h P (lk S.1 _ _ v,S.2) m w3):=hT; clear hT)
  go_end0
  exact ⟨rfl,HT.out⟩
theorem fresh_ok {w w1 : World} {X : Nat → Prop} {t c p : Nat} {h : Hw} {P : Par} {S : Sc × Us} {m : Nat → Option Nat} (K : Tv w X t c p h P S m w1) (hN : P.N * P.C ≤ h.n) (hq : cU S.2 3 4096 < P.q 3) :
    Calls Tryz.prog 53 #[.pointer (some ⟨t,0,none⟩)] w1 fun e w'=>e = .returned (.tuple #[.int .i64 (nf P S.2:Nat),.int .i64 0])∧Tv w X t c p h P (zr h S.1 (nf P S.2),B.pt S.2 (nf P S.2) (some 3)) m w':=by
  have hlt:=(nf_is K.par.1 K.par.2 hq).2.2.1
  have c1:=K.c1
  obtain ⟨Z,po,ht⟩:=K.pool
  have CT:Hid (Calls Tryz.prog 91 #[.pointer (some ⟨p,0,none⟩),.int .u8 3] w1 fun e w'=>e = .returned (.tuple #[.int .i64 (nf P S.2:Nat),.int .i64 0])∧Tv w X t c p h P (S.1,B.pt S.2 (nf P S.2) (some 3)) m w'):=by
    refine (Take_p po 3 (by decide) (by decide) hq).mono ?_
    rintro e w2 ⟨g,us',F',rfl,hT,hP,hK⟩
    obtain ⟨rfl,rfl⟩:=nf_of hT
    exact ⟨rfl,ht _ _ _ hP hK⟩
  clear K po ht
  generalize nf P S.2 = g at *
  have hg:g < h.n:=by omega
  clear hlt
  go_enter Tryz.func53,Tryz.ntmps53
  go_wp2_with fail
  refine CT.out.mono ?_
  rintro e w2 ⟨rfl,hT⟩
  have c0:=hT.c0
  obtain ⟨Y,cr,_,ht⟩:=hT.core
  have CZ:Hid (Calls _ _ _ _ _):=Zero_ok cr g hg
  have HT:Hid (∀ s' w3,Gv pK w2 Y c h s' w3→Tv w X t c p h P (s',B.pt S.2 g (some 3)) m w3):=ht
  clear hT cr ht
  go_wp2_with (go_at_call 92; refine CZ.out.mono ?_; rintro e w3 ⟨rfl,hG⟩; have HZ:Hid (Tv w X t c p h P (zr h S.1 g,B.pt S.2 g (some 3)) m w3):=HT.out _ _ hG; clear hG)
  go_ret2
  exact ⟨rfl,HZ.out⟩
theorem Root_ok {w w1 : World} {X : Nat → Prop} {t c p : Nat} {h : Hw} {P : Par} {S : Sc × Us} {m : Nat → Option Nat} (K : Tv w X t c p h P S m w1) (hN : P.N * P.C ≤ h.n) (hq : cU S.2 3 4096 < P.q 3) :
    Calls Tryz.prog 21 #[.pointer (some ⟨t,0,none⟩)] w1 fun e w'=>e = .returned (.tuple #[.int .i64 (nf P S.2:Nat),.int .i64 0])∧Tv w X t c p h P (zr h S.1 (nf P S.2),B.pt S.2 (nf P S.2) (some 3)) (B.pt m (nf P S.2) (some 0)) w':=by
  have hlt:=(nf_is K.par.1 K.par.2 hq).2.2.1
  have hn:=K.hw.n2
  have HK:Hid (Calls _ _ _ _ _):=made_t K
  have CF:Hid (Calls _ _ _ _ _):=fresh_ok K hN hq
  clear K
  generalize nf P S.2 = g at *
  go_enter Tryz.func21,Tryz.ntmps21
  go_wp2_with fail
  refine HK.out.mono ?_
  rintro e w' ⟨rfl,rfl⟩
  go_wp2_with fail
  refine CF.out.mono ?_
  rintro e w2 ⟨rfl,hT⟩
  obtain ⟨b,hb,hm,ht⟩:=hT.own
  have c2:=hb.cell 2
  simp only [List.getElem?_cons_succ,List.getElem?_cons_zero] at c2
  obtain ⟨w3,hr,m3,g3⟩:=hm.store (Nat.le_refl _) g (by omega) 0 (by decide)
  have HF:Hid (Tv w X t c p h P (zr h S.1 g,B.pt S.2 g (some 3)) (B.pt m g (some 0)) w3):=ht _ _ m3 g3
  clear hT hb hm ht m3 g3
  go_wp2
  go_ret2
  exact ⟨rfl,HF.out⟩
end Go.Proofs.YtgljdbabagdhlaaGreat.Pg
