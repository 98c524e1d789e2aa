/- An access ahead of its last touch touches table words only; what 'awake' is told; no condition but those named. -/
import Derived.Test.YtgljdbabagdhlaaGreatVmf
namespace Go.Proofs.YtgljdbabagdhlaaGreat.Pg
open P E Go.ChangeShapes Go.WideShapes Go.ChangeAt Go.RowKit
set_option linter.unusedVariables false
set_option maxRecDepth 8192
section
variable {R:Nat→Prop} {S:E.Sc × Us} {v:Nat→Int}
theorem tan_lt {W:Nat→Nat→Int} {pg:Nat} (hW:∀ d k f,d ≤ 3→tb W 0 d k = some f→f < 8):∀ n,n ≤ 4→∀ a ∈ tan W 0 pg n,a < 2048
  | 0,_,a,h=>absurd h (List.not_mem_nil)
  | n + 1,hn,a,h=>by
    have e:tan W 0 pg (n + 1) = tan W 0 pg n ++ (match tb W 0 n (nu pg n) with | some f=>[f * 256 + nu pg (n + 1) % 32 * 8] | none=>[]):=rfl
    rw [e] at h
    rcases List.mem_append.1 h with q | q
    · exact tan_lt hW n (by omega) a q
    · cases hf:tb W 0 n (nu pg n) with
      | none=>rw [hf] at q; exact absurd q (List.not_mem_nil)
      | some f=>
        rw [hf] at q
        have:=List.mem_singleton.1 q
        have:=hW n _ f (by omega) hf
        omega
theorem Ln.ab {s s' : E.Sc} (L:Ln s) (ea:s'.a = s.a) (eb:s'.b = s.b):Ln s':=by
  unfold Ln
  rw [ea,eb]
  exact L
theorem set_a (s:E.Sc) (r pg:Nat) (my:Bool) (x:Int):(setS s r pg my x).a = s.a:=by
  unfold setS
  split <;> rfl
theorem set_b (s:E.Sc) (r pg:Nat) (my:Bool) (x:Int):(setS s r pg my x).b = s.b:=by
  unfold setS
  split <;> rfl
theorem Iv.ln_wk (I:Iv R S v) (L:Ln S.1) (h:Hw) (pg:Nat):Ln (wkS h S.1 0 pg):=fold_ln L (tan_lt (fun d k f hd hf=>I.own hd hf) 4 (Nat.le_refl 4))
theorem Iv.ln_walk (I:Iv R S v) (L:Ln S.1) (h:Hw) (a:Int) (pg:Nat) (wr:Bool):Ln (walkS h S.1 a 0 pg wr).1:=by
  unfold walkS
  split
  · exact (I.ln_wk L h pg).ab (set_a _ _ _ _ _) (set_b _ _ _ _ _)
  · exact I.ln_wk L h pg
theorem Iv.ln_look (I:Iv R S v) (L:Ln S.1) (h:Hw) (a:Int) (pg:Nat) (wr:Bool):Ln (lookS h S.1 a 0 pg wr).1:=by
  unfold lookS
  split
  · exact L
  · exact Iv.ln_walk (S:=({ S.1 with l:=T.rmL a pg (T.fd a pg S.1.l) },S.2)) (I.m_eq rfl (fun x hx=>I.tr x (fd_in (rmL_in hx)))) L h a pg wr
theorem Iv.ln_soil (I:Iv R S v) (L:Ln S.1) (h:Hw) (a:Int) {pg:Nat} (hp:pg < 32):Ln (soilS h S.1 a 0 pg):=by
  obtain ⟨f,e1,e2,_⟩:=hasP_t (I.has hp)
  have hf:=I.own (Nat.le_refl 3) e1
  unfold soilS soil0
  rw [I.has hp,if_pos rfl]
  exact Ln.tou (s:=setS S.1 0 pg _ _) (L.ab (set_a _ _ _ _ _) (set_b _ _ _ _ _)) h (by rw [e2]; omega)
theorem Iv.ln_ahead (I:Iv R S v) (L:Ln S.1) (h:Hw) (a:Int) {pg:Nat} (hp:pg < 32) (wr:Bool):Ln (aheadS h S.1 a 0 pg wr):=by
  unfold aheadS
  split
  · exact (I.look h a hp wr).1.ln_soil (I.ln_look L h a pg wr) h a hp
  · exact I.ln_look L h a pg wr
theorem Ln.miss {s:E.Sc} (L:Ln s) (h:Hw) {pa:Nat} (hp:2048 ≤ pa):hA h s pa = false∧hB h s pa = false:=by
  have n1:hA h s pa = false:=by
    unfold hA
    rw [decide_eq_false_iff_not]
    intro q
    have:=L _ _ (Or.inl q)
    unfold tg at this
    omega
  refine ⟨n1, ?_⟩
  unfold hB
  rw [n1]
  have:¬ tg pa ∈ s.b (i2 h pa):=fun q=>by
    have:=L _ _ (Or.inr q)
    unfold tg at this
    omega
  simp [this]
theorem hit_again (s:E.Sc) {h:Hw} (hv:1 ≤ h.v) {pa pb:Nat} (e:pa / 16 = pb / 16):hA h (E.tou h s pa) pb = true∧hB h (E.tou h s pa) pb = false:=by
  have n1:hA h (E.tou h s pa) pb = true:=by
    unfold hA
    rw [decide_eq_true_iff]
    have e1:i1 h pb = i1 h pa:=by unfold i1; rw [e]
    have e2:tg pb = tg pa:=by unfold tg; rw [e]
    rw [e1,e2]
    show tg pa ∈ C.put s.a (i1 h pa) (C.tch h.v (tg pa) (s.a (i1 h pa))) (i1 h pa)
    unfold C.put
    rw [if_pos rfl]
    unfold C.tch
    obtain ⟨k,hk⟩:∃ k,h.v = k + 1:=⟨h.v - 1,by omega⟩
    rw [hk,List.take_succ_cons]
    exact List.mem_cons_self ..
  refine ⟨n1, ?_⟩
  unfold hB
  rw [n1]
  rfl
end
section
variable {R:Nat→Prop} {S:E.Sc × Us} {v:Nat→Int}
theorem Iv.look_miss (I:Iv R S v) (h:Hw) {a:Int} {pg:Nat} (hp:pg < 32) (wr:Bool) (hn:(T.pk a pg S.1.l).2.1 = false):(lookS h S.1 a 0 pg wr).2.2.2 = alV (v pg) wr∧(lookS h S.1 a 0 pg wr).2.2.1 = false∧(alV (v pg) wr = 0→(lookS h S.1 a 0 pg wr).2.1 = trV a pg (v pg)∧(lookS h S.1 a 0 pg wr).1.l = T.filL h.t (trV a pg (v pg)) (T.rmL a pg (T.fd a pg S.1.l))):=by
  have I1:Iv R ({ S.1 with l:=T.rmL a pg (T.fd a pg S.1.l) },S.2) v:=I.m_eq rfl (fun x hx=>I.tr x (fd_in (rmL_in hx)))
  have c:¬ ((T.pk a pg S.1.l).2.1 && alw wr (T.pk a pg S.1.l).1) = true:=by rw [hn]; simp
  unfold lookS
  rw [if_neg c]
  refine ⟨(I1.walk h a hp wr).2.2,rfl,fun q => ?_⟩
  have hw:whyV (wd ({ S.1 with l:=T.rmL a pg (T.fd a pg S.1.l) }:E.Sc).m) 0 pg wr = alV (v pg) wr:=I1.why hp wr
  unfold walkS
  rw [hw,if_pos q]
  have hpw:Pg.pw (wd ({ S.1 with l:=T.rmL a pg (T.fd a pg S.1.l) }:E.Sc).m) 0 pg = v pg:=I1.pw pg hp
  dsimp only at hpw ⊢
  rw [hpw]
  refine ⟨rfl, ?_⟩
  unfold fillS
  dsimp only
  rw [set_l,wk_l]
theorem look_hit (h:Hw) (s:E.Sc) {a:Int} {pg:Nat} (wr:Bool) (hn:((T.pk a pg s.l).2.1 && alw wr (T.pk a pg s.l).1) = true):lookS h s a 0 pg wr = ({ s with l:=T.fd a pg s.l },(T.pk a pg s.l).1,true,0):=by
  unfold lookS
  rw [if_pos hn]
theorem upd_ne {v:Nat→Int} {pg q:Nat} (x:Int) (h:q ≠ pg):upd v pg x q = v q:=if_neg h
theorem wkV_ne {v:Nat→Int} {pg q:Nat} (wr:Bool) (h:q ≠ pg):wkV v pg wr q = v q:=by
  unfold wkV
  split
  · exact upd_ne _ h
  · rfl
theorem lkV_ne {s:E.Sc} {v:Nat→Int} {a:Int} {pg q:Nat} (wr:Bool) (h:q ≠ pg):lkV s v a pg wr q = v q:=by
  unfold lkV
  split
  · rfl
  · exact wkV_ne wr h
theorem soV_ne {v:Nat→Int} {pg q:Nat} (h:q ≠ pg):soV v pg q = v q:=by
  unfold soV
  split
  · exact upd_ne _ h
  · rfl
theorem ahV_ne {h:Hw} {s:E.Sc} {v:Nat→Int} {a:Int} {pg q:Nat} (wr:Bool) (hq:q ≠ pg):ahV h s v a pg wr q = v q:=by
  unfold ahV
  split
  · exact (soV_ne hq).trans (lkV_ne wr hq)
  · exact lkV_ne wr hq
def w1:Int:=N.lo true false true true false false + 40 * 256
def w2:Int:=N.lo true false true false false false + 41 * 256
theorem w1_al:alV w1 true = 0:=by decide +kernel
theorem w2_al:alV w2 true = 3:=by decide +kernel
theorem w0_al:alV 0 false = 1:=by decide +kernel
theorem w1_tr:trV 3 (1:Nat) w1 = ⟨3,1,40,true,true,false⟩:=by
  unfold trV
  have e1:w1 / 256 = 40:=by decide +kernel
  have e2:N.fb w1 4 = true:=by decide +kernel
  have e3:N.fb w1 8 = true:=by decide +kernel
  have e4:N.fb w1 32 = false:=by decide +kernel
  rw [e1,e2,e3,e4]
  rfl
theorem byte_back (m:Nat→Int) (a:Nat):F.num (F.lay m a 2 (F.byt 4660)) (a + 1) 1 = 18:=by
  simp only [F.num,F.lay,F.byt]
  simp
end
section
variable {Z:Nat→Prop} {w w0:World} {t c p:Nat} {h:Hw} {P:Par} {S:E.Sc × Us} {m:Nat→Option Nat}
theorem settle_q (K:Zq Z w t c p h P S m):Calls Tryz.prog 13 #[.pointer (some ⟨c,0,none⟩)] w fun e w'=>e = .returned (.tuple #[.int .u64 S.1.z,.int .i64 0])∧Zq Z w' t c p h P ({ S.1 with z:=0 },S.2) m∧Ky Z w w':=by
  refine K.call (R:=fun e=>e = .returned (.tuple #[.int .u64 S.1.z,.int .i64 0])) (fun X tt => ?_)
  obtain ⟨Y,cr,_,ht⟩:=tt.tv.core
  exact (Settle_ok cr).mono fun e w' ⟨he,g⟩=>⟨he,ht _ _ g⟩
end
section
variable {w w' : World} {t c p n:Nat} {S:E.Sc × Us} {m:Nat→Option Nat}
theorem Ov.iv (O:Ov w w' t c p n S m):Iv (fun r=>m r ≠ none) S (fun _=>0)∧Ln S.1∧S.1.l = []:=by
  have hl:pr (wd S.1.m) 0 3 0 = true:=by rw [O.has]; decide +kernel
  refine ⟨⟨O.ts.ok,O.rt,⟨n,O.n4,O.gd.uu⟩,Option.isSome_iff_exists.1 hl,fun pg _=>O.pw pg,fun x hx => ?_,fun pg _ hb => ?_⟩,O.gd.ln,O.gd.l⟩
  · rw [O.gd.l] at hx
    exact absurd hx (List.not_mem_nil)
  · exact absurd hb (by decide +kernel)
end
end Go.Proofs.YtgljdbabagdhlaaGreat.Pg
