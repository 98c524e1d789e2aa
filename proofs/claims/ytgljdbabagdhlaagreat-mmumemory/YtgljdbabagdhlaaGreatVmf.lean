/- What holds of the statements' own tables through all accesses: frames that are no tables, entries and translations that lead there; no condition but those named. -/
import Derived.Test.YtgljdbabagdhlaaGreatVme
namespace Go.Proofs.YtgljdbabagdhlaaGreat.Pg
open P E Go.ChangeShapes Go.WideShapes Go.ChangeAt Go.RowKit
set_option linter.unusedVariables false
set_option maxRecDepth 8192
def upd (v:Nat→Int) (pg:Nat) (x:Int):Nat→Int:=fun q=>if q = pg then x else v q
def Fr (x:Int):Prop:=∃ f:Nat,x = f∧40 ≤ f∧f < 64
structure Iv (R:Nat→Prop) (S:E.Sc × Us) (v:Nat→Int):Prop where
  ok:Ok (par us 0) R S
  rt:R 0
  un:∃ n,n ≤ 4∧S.2 = uN n
  lf:∃ f,tb (wd S.1.m) 0 3 0 = some f
  pw:∀ pg,pg < 32→pw (wd S.1.m) 0 pg = v pg
  tr:∀ x ∈ S.1.l,Fr x.f
  fr:∀ pg,pg < 32→N.fb (v pg) 1 = true→Fr (v pg / 256)
section
variable {R:Nat→Prop} {S:E.Sc × Us} {v:Nat→Int}
theorem Iv.own (I:Iv R S v) {d k f:Nat} (hd:d ≤ 3) (h:tb (wd S.1.m) 0 d k = some f):f < 8:=by
  obtain ⟨n,hn,e⟩:=I.un
  have:=I.ok.fo.ow 0 I.rt d k f hd h
  exact uN_lt hn (fun q=>by rw [← e,this] at q; exact absurd q nofun)
theorem Iv.m_eq (I:Iv R S v) {s:E.Sc} (e:s.m = S.1.m) (hl:∀ x ∈ s.l,Fr x.f):Iv R (s,S.2) v:=⟨I.ok.m_eq e,I.rt,I.un,by show ∃ f,tb (wd s.m) 0 3 0 = some f; rw [e]; exact I.lf,by show ∀ pg,pg < 32→Pg.pw (wd s.m) 0 pg = v pg; rw [e]; exact I.pw,hl,I.fr⟩
theorem Iv.leaf (I:Iv R S v) {pg:Nat} (h:pg < 32):∃ f,tb (wd S.1.m) 0 3 (pg / 32) = some f∧f < 8:=by
  obtain ⟨f,hf⟩:=I.lf
  rw [Nat.div_eq_of_lt h]
  exact ⟨f,hf,I.own (Nat.le_refl 3) hf⟩
theorem Iv.has (I:Iv R S v) {pg:Nat} (h:pg < 32):hasP (wd S.1.m) 0 pg = true:=by
  obtain ⟨f,hf,_⟩:=I.leaf h
  unfold hasP
  rw [hf]
  rfl
theorem Iv.word (I:Iv R S v) {pg:Nat} (h:pg < 32):Lf (v pg):=by
  rw [← I.pw pg h]
  exact I.ok.word I.rt pg
theorem Iv.set (I:Iv R S v) {pg:Nat} (h:pg < 32) {x:Int} (hx:Lf x) (hf:N.fb x 1 = true→Fr (x / 256)):Iv R (setS S.1 0 pg true x,S.2) (upd v pg x):=by
  obtain ⟨f,e,_⟩:=I.leaf h
  have hs:setS S.1 0 pg true x = lk S.1 f (pg % 32) x:=setS_some e
  obtain ⟨o1,o2,o3⟩:=I.ok.set I.rt e hx
  obtain ⟨f0,e0⟩:=I.lf
  rw [hs]
  refine ⟨o1,I.rt,I.un,⟨f0,by rw [o2 0 I.rt 3 0 (Nat.le_refl 3)]; exact e0⟩,fun q hq => ?_,I.tr,fun q hq hb => ?_⟩
  · rw [o3 0 q I.rt]
    unfold upd
    by_cases c:q = pg
    · rw [if_pos ⟨rfl,c⟩,if_pos c]
    · rw [if_neg (fun z=>c z.2),if_neg c]
      exact I.pw q hq
  · unfold upd at hb ⊢
    by_cases c:q = pg
    · rw [if_pos c] at hb ⊢; exact hf hb
    · rw [if_neg c] at hb ⊢; exact I.fr q hq hb
theorem Iv.lay (I:Iv R S v) {f o z:Nat} (hf:40 ≤ f) (g:Nat→Int):Iv R ({ S.1 with m:=F.lay S.1.m (f * 256 + o) z g },S.2) v:=by
  have A:Ag S ({ S.1 with m:=F.lay S.1.m (f * 256 + o) z g },S.2):=⟨rfl,rfl,fun x hx i=>by
    obtain ⟨n,hn,e⟩:=I.un
    have:x < 8:=uN_lt hn (fun q=>by rw [← e,hx] at q; exact absurd q nofun)
    exact wd_other _ _ (Or.inr (by omega)) i⟩
  obtain ⟨f0,e0⟩:=I.lf
  refine ⟨A.ok I.ok,I.rt,I.un,⟨f0,by rw [A.tb I.ok I.rt (Nat.le_refl 3)]; exact e0⟩,fun q hq => ?_,I.tr,I.fr⟩
  rw [← I.pw q hq]
  obtain ⟨f1,e1,h1⟩:=I.leaf hq
  have e2:=(A.tb I.ok I.rt (Nat.le_refl 3) (q / 32)).trans e1
  rw [pw_some e1,pw_some e2]
  exact wd_other _ _ (Or.inr (by omega)) _
theorem fold_ln {h:Hw}:∀ {l:List Nat} {s:E.Sc},Ln s→(∀ a ∈ l,a < 2048)→Ln (l.foldl (tou h) s)
  | [],s,L,_=>L
  | a :: l,s,L,hl=>by
    rw [List.foldl_cons]
    exact fold_ln (L.tou h (hl a (List.mem_cons_self ..))) (fun b hb=>hl b (List.mem_cons_of_mem _ hb))
end
theorem look_in {a p:Int} {l:List T.Tr} {x:T.Tr} (h:T.look a p l = some x):x ∈ l:=by
  unfold T.look at h
  exact List.mem_of_find?_eq_some h
theorem pk_in {a p:Int} {l:List T.Tr} (h:(T.pk a p l).2.1 = true):(T.pk a p l).1 ∈ l:=by
  unfold T.pk at h ⊢
  by_cases c:(T.okA a && T.okP p) = true
  · rw [if_pos c] at h ⊢
    cases hx:T.look a p l with
    | some x=>exact look_in hx
    | none=>rw [hx] at h; exact absurd h (by decide)
  · rw [if_neg c] at h
    exact absurd h (by decide)
theorem rm_in {a p:Int} {l:List T.Tr} {x:T.Tr} (h:x ∈ T.rm a p l):x ∈ l:=by
  unfold T.rm at h
  exact (List.mem_filter.1 h).1
theorem fd_in {a p:Int} {l:List T.Tr} {x:T.Tr} (h:x ∈ T.fd a p l):x ∈ l:=by
  unfold T.fd at h
  split at h
  · split at h
    · rename_i y hy
      rcases List.mem_cons.1 h with e | e
      · rw [e]; exact look_in hy
      · exact rm_in e
    · exact h
  · exact h
theorem rmL_in {a p:Int} {l:List T.Tr} {x:T.Tr} (h:x ∈ T.rmL a p l):x ∈ l:=by
  unfold T.rmL at h
  split at h
  · exact rm_in h
  · exact h
theorem filL_in {n:Nat} {y:T.Tr} {l:List T.Tr} {x:T.Tr} (h:x ∈ T.filL n y l):x = y ∨ x ∈ l:=by
  unfold T.filL at h
  split at h
  · unfold T.fil at h
    rcases List.mem_cons.1 (List.mem_of_mem_take h) with e | e
    · exact Or.inl e
    · exact Or.inr (rm_in e)
  · exact Or.inr h
theorem mrkL_fr {a p:Int} {l:List T.Tr} (hl:∀ x ∈ l,Fr x.f):∀ x ∈ T.mrkL a p l,Fr x.f:=by
  intro x h
  unfold T.mrkL at h
  split at h
  · unfold T.mrk at h
    obtain ⟨y,hy,e⟩:=List.mem_map.1 h
    rw [← e]
    cases T.hk a p y
    · exact hl y hy
    · exact hl y hy
  · exact hl x h
section
variable {R:Nat→Prop} {S:E.Sc × Us} {v:Nat→Int}
theorem wk_tr (h:Hw) (s:E.Sc) (r pg:Nat) (hl:∀ x ∈ s.l,Fr x.f):∀ x ∈ (wkS h s r pg).l,Fr x.f:=by rw [wk_l]; exact hl
noncomputable def wkV (v:Nat→Int) (pg:Nat) (wr:Bool):Nat→Int:=if alV (v pg) wr = 0 then upd v pg (acc (v pg)) else v
theorem acc_lf {x:Int} (hx:Lf x) {wr:Bool} (h:alV x wr = 0):Lf (acc x):=lf_word (may_acc hx h)
theorem Iv.why (I:Iv R S v) {pg:Nat} (h:pg < 32) (wr:Bool):whyV (wd S.1.m) 0 pg wr = alV (v pg) wr:=by unfold whyV; rw [I.pw pg h]
theorem Iv.walk (I:Iv R S v) (h:Hw) (a:Int) {pg:Nat} (hp:pg < 32) (wr:Bool):Iv R ((walkS h S.1 a 0 pg wr).1,S.2) (wkV v pg wr)∧((walkS h S.1 a 0 pg wr).2.2 = 0→Fr (walkS h S.1 a 0 pg wr).2.1.f)∧(walkS h S.1 a 0 pg wr).2.2 = alV (v pg) wr:=by
  have Iw:Iv R (wkS h S.1 0 pg,S.2) v:=I.m_eq (wk_m h S.1 0 pg) (wk_tr h S.1 0 pg I.tr)
  unfold walkS wkV
  rw [I.why hp wr,I.pw pg hp]
  by_cases c:alV (v pg) wr = 0
  · rw [if_pos c,if_pos c]
    have hb:=acc_bits (I.word hp)
    have hfr:Fr (v pg / 256):=I.fr pg hp (al_pres c).1
    have hm:=may_acc (I.word hp) c
    have J:=Iw.set hp (acc_lf (I.word hp) c) (fun _=>by rw [hb.2.2.2.2.2.2]; exact hfr)
    refine ⟨?_,fun _=>hfr,c.symm⟩
    unfold fillS
    rw [hm]
    refine J.m_eq rfl (fun x hx => ?_)
    rcases filL_in hx with e | e
    · rw [e]; exact hfr
    · rw [set_l] at e; exact Iw.tr x e
  · rw [if_neg c,if_neg c]
    exact ⟨Iw,fun q=>absurd q c,rfl⟩
noncomputable def lkV (s:E.Sc) (v:Nat→Int) (a:Int) (pg:Nat) (wr:Bool):Nat→Int:=if ((T.pk a pg s.l).2.1 && alw wr (T.pk a pg s.l).1) = true then v else wkV v pg wr
theorem Iv.look (I:Iv R S v) (h:Hw) (a:Int) {pg:Nat} (hp:pg < 32) (wr:Bool):Iv R ((lookS h S.1 a 0 pg wr).1,S.2) (lkV S.1 v a pg wr)∧((lookS h S.1 a 0 pg wr).2.2.2 = 0→Fr (lookS h S.1 a 0 pg wr).2.1.f):=by
  unfold lookS lkV
  by_cases c:((T.pk a pg S.1.l).2.1 && alw wr (T.pk a pg S.1.l).1) = true
  · rw [if_pos c,if_pos c]
    exact ⟨I.m_eq rfl (fun x hx=>I.tr x (fd_in hx)),fun _=>I.tr _ (pk_in (Bool.and_eq_true_iff.1 c).1)⟩
  · rw [if_neg c,if_neg c]
    have I1:Iv R ({ S.1 with l:=T.rmL a pg (T.fd a pg S.1.l) },S.2) v:=I.m_eq rfl (fun x hx=>I.tr x (fd_in (rmL_in hx)))
    obtain ⟨w1,w2,_⟩:=I1.walk h a hp wr
    exact ⟨w1,w2⟩
noncomputable def soV (v:Nat→Int) (pg:Nat):Nat→Int:=if N.fb (v pg) 1 = true then upd v pg (drt (v pg)) else v
theorem Iv.soil (I:Iv R S v) (h:Hw) (a:Int) {pg:Nat} (hp:pg < 32):Iv R (soilS h S.1 a 0 pg,S.2) (soV v pg):=by
  unfold soilS soil0 soV
  rw [I.has hp,if_pos rfl,I.pw pg hp]
  by_cases c:N.fb (v pg) 1 = true
  · rw [if_pos c,may_drt (I.word hp) c]
    have hb:=drt_bits (I.word hp)
    have hm:=may_drt (I.word hp) c
    have J:=I.set hp (x:=drt (v pg)) (lf_word hm) (fun _=>by rw [hb.2.2.2.2.2.2]; exact I.fr pg hp c)
    refine J.m_eq rfl (mrkL_fr ?_)
    show ∀ x ∈ (setS S.1 0 pg true (drt (v pg))).l,Fr x.f
    rw [set_l]
    exact I.tr
  · have c' : N.fb (v pg) 1 = false:=by simpa using c
    rw [if_neg c,may_drt_no c']
    have e:∀ x,setS S.1 0 pg false x = S.1:=fun x=>by unfold setS; rfl
    rw [e]
    exact I.m_eq rfl (mrkL_fr I.tr)
end
section
variable {R:Nat→Prop} {S:E.Sc × Us} {v:Nat→Int}
noncomputable def ahV (h:Hw) (s:E.Sc) (v:Nat→Int) (a:Int) (pg:Nat) (wr:Bool):Nat→Int:=if (wr && !(lookS h s a 0 pg wr).2.1.d) = true then soV (lkV s v a pg wr) pg else lkV s v a pg wr
theorem Iv.ahead (I:Iv R S v) (h:Hw) (a:Int) {pg:Nat} (hp:pg < 32) (wr:Bool):Iv R (aheadS h S.1 a 0 pg wr,S.2) (ahV h S.1 v a pg wr):=by
  unfold aheadS ahV
  split
  · exact (I.look h a hp wr).1.soil h a hp
  · exact (I.look h a hp wr).1
theorem Iv.tou (I:Iv R S v) (h:Hw) (pa:Nat):Iv R (E.tou h S.1 pa,S.2) v:=I.m_eq rfl I.tr
end
section
variable {Z:Nat→Prop} {w:World} {t c p:Nat} {S:E.Sc × Us} {m:Nat→Option Nat} {v:Nat→Int}
theorem chk_ok {m:Nat→Option Nat} {a:Int} (ha:T.okA a = true) (hm:m 0 ≠ none):chkE m a ((0:Nat):Int) = 0:=by
  unfold chkE rtE
  rw [if_pos ha,if_pos]
  exact ⟨0,rfl,hm⟩
theorem hw_n:(hwOf us).n = 64:=by decide
end
end Go.Proofs.YtgljdbabagdhlaaGreat.Pg
