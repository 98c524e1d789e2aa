/- Which frames the pool of the statements' own configuration gives for tables; no condition. -/
import Derived.Test.YtgljdbabagdhlaaGreatVmd
import Derived.Test.YtgljdbabagdhlaaGreatVti
import Derived.Test.YtgljdbabagdhlaaGreatVWa
namespace Go.Proofs.YtgljdbabagdhlaaGreat.Pg
open P E Go.ChangeShapes Go.WideShapes Go.ChangeAt Go.RowKit
set_option linter.unusedVariables false
set_option maxRecDepth 8192
def whb (op:Nat→Bool) (k q:Nat):Bool:=(List.range (2 ^ k)).all fun j=>op (q * 2 ^ k + j)
theorem whb_iff {op:Nat→Bool} {k q:Nat}:whb op k q = true ↔ B.wh op k q:=by
  unfold whb B.wh
  rw [List.all_eq_true]
  have hp:0 < 2 ^ k:=Nat.pow_pos (by decide)
  constructor
  · intro h i hi
    have:=h (i % 2 ^ k) (List.mem_range.2 (Nat.mod_lt _ hp))
    rw [← hi,Nat.mul_comm,Nat.div_add_mod] at this
    exact this
  · intro h j hj
    have hj:=List.mem_range.1 hj
    refine h _ ?_
    rw [Nat.mul_comm,Nat.mul_add_div hp,Nat.div_eq_of_lt hj,Nat.add_zero]
def mxb (op:Nat→Bool) (k q:Nat):Bool:=whb op k q && (decide (6 ≤ k) || !whb op (k + 1) (q / 2))
theorem mxb_iff {op:Nat→Bool} {k q:Nat}:mxb op k q = true ↔ B.mx op k q:=by
  unfold mxb B.mx
  rw [Bool.and_eq_true,whb_iff,Bool.or_eq_true,decide_eq_true_eq,Bool.not_eq_true', ← Bool.not_eq_true,whb_iff]
  constructor
  · rintro ⟨h1,h2⟩
    exact ⟨h1,fun h=>h2.resolve_left (by omega)⟩
  · rintro ⟨h1,h2⟩
    refine ⟨h1, ?_⟩
    by_cases h:6 ≤ k
    · exact Or.inl h
    · exact Or.inr (h2 (by omega))
def nxb (op:Nat→Bool) (n k a:Nat):Bool:=decide (k ≤ 6) && ((List.range k).all (fun i=>(List.range n).all fun q=>!mxb op i q) && (decide (a % 2 ^ k = 0) && (mxb op k (a / 2 ^ k) && (List.range n).all fun q=>!mxb op k q || decide (a / 2 ^ k ≤ q))))
theorem mx_lt {op:Nat→Bool} {n k q:Nat} (hop:∀ x,op x = true→x < n) (h:B.mx op k q):q < n:=by
  have hp:0 < 2 ^ k:=Nat.pow_pos (by decide)
  have:=hop _ (h.1 (q * 2 ^ k) (Nat.mul_div_cancel _ hp))
  exact Nat.lt_of_le_of_lt (Nat.le_mul_of_pos_right q hp) this
theorem nx_of {op:Nat→Bool} {n k a:Nat} (hop:∀ x,op x = true→x < n) (h:nxb op n k a = true):Nx op 0 a:=by
  unfold nxb at h
  simp only [Bool.and_eq_true,decide_eq_true_eq] at h
  obtain ⟨h1,h2,h3,h4,h5⟩:=h
  refine ⟨k,Nat.zero_le _,h1,fun i _ hi q hq => ?_,h3,mxb_iff.1 h4,fun q hq => ?_⟩
  · have:=List.all_eq_true.1 (List.all_eq_true.1 h2 i (List.mem_range.2 hi)) q (List.mem_range.2 (mx_lt hop hq))
    rw [mxb_iff.2 hq] at this
    exact absurd this (by decide)
  · have:=List.all_eq_true.1 h5 q (List.mem_range.2 (mx_lt hop hq))
    rw [mxb_iff.2 hq] at this
    simpa using this
theorem nf_by {P:Par} {us:Us} {i k a:Nat} (hb:best P us = i) (h:nxb (opn P us i) P.N k a = true):nf P us = fm P i a:=by
  subst hb
  exact (nf_of (P:=P) (us:=us) (g:=fm P (best P us) a) ⟨a,nx_of (fun x hx=>(opn_iff.1 hx).1) h,rfl,rfl⟩).1.symm
def uN:Nat→Us
  | 0=>fun _=>none
  | n + 1=>B.pt (uN n) (fm (par us 0) (n % 2) (n / 2)) (some 3)
theorem uN0:nf (par us 0) (uN 0) = 0:=nf_by (i:=0) (k:=4) (a:=0) (by decide +kernel) (by decide +kernel)
theorem uN1:nf (par us 0) (uN 1) = 1:=nf_by (i:=1) (k:=4) (a:=0) (by decide +kernel) (by decide +kernel)
theorem uN2:nf (par us 0) (uN 2) = 4:=nf_by (i:=0) (k:=0) (a:=1) (by decide +kernel) (by decide +kernel)
theorem uN3:nf (par us 0) (uN 3) = 5:=nf_by (i:=1) (k:=0) (a:=1) (by decide +kernel) (by decide +kernel)
end Go.Proofs.YtgljdbabagdhlaaGreat.Pg
namespace Go.Proofs.YtgljdbabagdhlaaGreat
open Go.ChangeShapes Go.WideShapes Go.ChangeAt Go.RowKit
set_option linter.unusedVariables false
set_option maxRecDepth 100000 in
set_option maxHeartbeats 4000000 in
theorem usual16_any (w:World):Calls Tryz.prog 18 #[] w (Usd w):=by
  have FIN:Hid (∀ w' o,w' = ((((w.alloc o).alloc (.cells #[.int .i64 0,.int .i64 1] 3)).alloc (.cells #[.int .i64 0,.int .i64 1] 3)).alloc (.cells #[.int .i64 2] 3)).alloc (.cells #[.slice (some ⟨w.heap.size + 1 + 1,0,none⟩) 2 2,.int .i64 1,.int .i64 4,.int .i64 8,.int .i64 1,.int .i64 1,.int .i64 1,.int .i64 3,.slice (some ⟨w.heap.size + 1 + 1 + 1,0,none⟩) 1 1,.int .i64 0,.int .i64 2,.int .i64 6,.int .i64 1,.int .i64 1,.int .i64 1,.int .i64 3] 121)→Usd w (.returned (.agg #[.int .i64 64,.int .i64 4,.int .i64 2,.int .i64 4,.int .i64 2,.int .i64 4,.int .u64 1,.int .u64 4,.int .u64 10,.int .u64 5,.int .u64 1,.int .u64 20,.int .u64 4000,.int .u64 20,.int .u64 0,.slice (some ⟨w.heap.size + 1,0,none⟩) 2 2,.slice (some ⟨w.heap.size + 1 + 1 + 1 + 1,0,none⟩) 2 2])) w'):=fun w' o h=>usd_of h
  go_enter Tryz.func18,Tryz.ntmps18
  go_wp2
  refine bodyPost_ret (v:=(.agg #[.int .i64 64,.int .i64 4,.int .i64 2,.int .i64 4,.int .i64 2,.int .i64 4,.int .u64 1,.int .u64 4,.int .u64 10,.int .u64 5,.int .u64 1,.int .u64 20,.int .u64 4000,.int .u64 20,.int .u64 0,.slice (some ⟨w.heap.size + 1,0,none⟩) 2 2,.slice (some ⟨w.heap.size + 1 + 1 + 1 + 1,0,none⟩) 2 2])) (by simp [results,Tryz.results18,go_sem]) rfl (FIN.out _ _ rfl)
end Go.Proofs.YtgljdbabagdhlaaGreat
namespace Go.Proofs.YtgljdbabagdhlaaGreat.Pg
open P E Go.ChangeShapes Go.WideShapes Go.ChangeAt Go.RowKit
set_option linter.unusedVariables false
set_option maxRecDepth 8192
theorem tch_in {ways:Nat} {t x:Int} {l:List Int} (h:x ∈ C.tch ways t l):x = t ∨ x ∈ l:=by
  have:=List.mem_of_mem_take h
  rcases List.mem_cons.1 this with e | e
  · exact Or.inl e
  · exact Or.inr (List.mem_filter.1 e).1
def Ln (s:E.Sc):Prop:=∀ i x,(x ∈ s.a i ∨ x ∈ s.b i)→x < 128
theorem Ln.tou {s:E.Sc} (L:Ln s) (h:Hw) {pa:Nat} (hp:pa < 2048):Ln (tou h s pa):=by
  have ht:tg pa < 128:=by unfold tg; omega
  have ha:∀ i x,x ∈ C.put s.a (i1 h pa) (C.tch h.v (tg pa) (s.a (i1 h pa))) i→x < 128:=fun i x hx=>by
    unfold C.put at hx
    split at hx
    · rcases tch_in hx with e | e
      · rw [e]; exact ht
      · exact L _ _ (Or.inl e)
    · exact L _ _ (Or.inl hx)
  have hb:∀ i x,x ∈ C.put s.b (i2 h pa) (C.tch h.k (tg pa) (s.b (i2 h pa))) i→x < 128:=fun i x hx=>by
    unfold C.put at hx
    split at hx
    · rcases tch_in hx with e | e
      · rw [e]; exact ht
      · exact L _ _ (Or.inr e)
    · exact L _ _ (Or.inr hx)
  intro i x hx
  rcases hx with hx | hx
  · exact ha i x hx
  · have hx:x ∈ (bif hA h s pa then s.b else C.put s.b (i2 h pa) (C.tch h.k (tg pa) (s.b (i2 h pa)))) i:=hx
    cases q:hA h s pa with
    | true=>rw [q] at hx; exact L i x (Or.inr hx)
    | false=>rw [q] at hx; exact hb i x hx
theorem Ln.tw {s:E.Sc} (L:Ln s) (h:Hw) (f:Nat→Nat):∀ k,(∀ i,i < k→f i < 2048)→Ln (tw h s f k)
  | 0,_=>L
  | k + 1,hf=>(Ln.tw L h f k (fun i hi=>hf i (by omega))).tou h (hf k (by omega))
theorem tw_l (h:Hw) (s:E.Sc) (f:Nat→Nat):∀ k,(tw h s f k).l = s.l
  | 0=>rfl
  | k + 1=>tw_l h s f k
theorem Ln.zr {s:E.Sc} (L:Ln s) (h:Hw) {g:Nat} (hg:g < 8):Ln (zr h s g):=by
  unfold Pg.zr sw1
  exact Ln.tw (s:={ s with m:=F.lay s.m (g * 256) 256 (fun _=>0) }) L h _ 16 (fun i hi=>by unfold swF; simp; omega)
theorem zr_l (h:Hw) (s:E.Sc) (g:Nat):(zr h s g).l = s.l:=by
  unfold zr sw1
  rw [tw_l]
theorem uN_lt:∀ {n f:Nat},n ≤ 4→uN n f ≠ none→f < 8
  | 0,f,_,h=>absurd rfl h
  | n + 1,f,hn,h=>by
    by_cases e:f = fm (par us 0) (n % 2) (n / 2)
    · rw [e]
      have hc:(par us 0).C = 4:=by decide
      have hf:(par us 0).f (n % 2) < 2:=by
        rcases Nat.mod_two_eq_zero_or_one n with q | q <;> rw [q] <;> decide
      unfold fm
      rw [hc]
      omega
    · refine uN_lt (n:=n) (by omega) (fun q=>h ?_)
      show B.pt _ _ _ f = none
      unfold B.pt
      rw [if_neg e]
      exact q
theorem uN_next:∀ {n:Nat},n < 4→B.pt (uN n) (nf (par us 0) (uN n)) (some 3) = uN (n + 1)∧nf (par us 0) (uN n) < 8
  | 0,_=>⟨by rw [uN0]; rfl,by rw [uN0]; decide⟩
  | 1,_=>⟨by rw [uN1]; rfl,by rw [uN1]; decide⟩
  | 2,_=>⟨by rw [uN2]; rfl,by rw [uN2]; decide⟩
  | 3,_=>⟨by rw [uN3]; rfl,by rw [uN3]; decide⟩
structure Gd (n:Nat) (S:E.Sc × Us):Prop where
  uu:S.2 = uN n
  ln:Ln S.1
  l:S.1.l = []
  z8:∀ f,8 ≤ f→∀ i,wd S.1.m f i = 0
theorem Ln.lk {s:E.Sc} (L:Ln s) (f i:Nat) (v:Int):Ln (lk s f i v):=L
theorem lk_l (s:E.Sc) (f i:Nat) (v:Int):(lk s f i v).l = s.l:=rfl
theorem Gd.new {n:Nat} {S:E.Sc × Us} (G:Gd n S) (hn:n < 4) (h:Hw) {f i:Nat} (hf:f < 8) (hi:i < 32) (v:Int):Gd (n + 1) (lk (zr h S.1 (nf (par us 0) S.2)) f i v,B.pt S.2 (nf (par us 0) S.2) (some 3)):=by
  obtain ⟨e1,e2⟩:=uN_next hn
  rw [G.uu]
  refine ⟨e1, ?_, ?_,fun x hx j => ?_⟩
  · exact (G.ln.zr h e2).lk _ _ _
  · dsimp only
    rw [lk_l,zr_l]
    exact G.l
  · show wd (F.lay (zr h S.1 (nf (par us 0) (uN n))).m (f * 256 + i * 8) 8 (F.byt v)) x j = 0
    rw [wd_other _ _ (Or.inl (by omega)),wd_zr,nought_other _ (by omega)]
    exact G.z8 x hx j
theorem Gd.root {n:Nat} {S:E.Sc × Us} (G:Gd n S) (hn:n < 4) (h:Hw):Gd (n + 1) (zr h S.1 (nf (par us 0) S.2),B.pt S.2 (nf (par us 0) S.2) (some 3)):=by
  obtain ⟨e1,e2⟩:=uN_next hn
  rw [G.uu]
  refine ⟨e1,G.ln.zr h e2, ?_,fun x hx j => ?_⟩
  · dsimp only
    rw [zr_l]
    exact G.l
  · dsimp only
    rw [wd_zr,nought_other _ (by omega)]
    exact G.z8 x hx j
theorem Gd.op1 {n:Nat} {S:E.Sc × Us} (G:Gd n S) (hn:n < 4) (h:Hw) {R:Nat→Prop} {r:Nat} {xs:List (Int × Int)} (K:Op (par us 0) R r xs S) (pg:Nat) {d:Nat} (hd:d < 3):Gd n (op1 h (par us 0) r pg d S) ∨ Gd (n + 1) (op1 h (par us 0) r pg d S):=by
  unfold Pg.op1
  split
  · rename_i f e1 _
    have:=K.ok.fo.ow r K.rt d _ f (by omega) e1
    have hf:f < 8:=uN_lt (n:=n) (by omega) (fun q=>by rw [← G.uu,this] at q; exact absurd q nofun)
    exact Or.inr (G.new hn h hf (Nat.mod_lt _ (by decide)) _)
  · exact Or.inl G
theorem Gd.opp {S:E.Sc × Us} (G:Gd 1 S) (h:Hw) {R:Nat→Prop} {r:Nat} {xs:List (Int × Int)} (hP:(par us 0).Ok) (K:Op (par us 0) R r xs S) {pg:Nat} (hp:pg < 1048576) (hx:nd xs 3 (pg / 32) = true):∃ n,n ≤ 4∧Gd n (opp h (par us 0) r pg S):=by
  have hn:=nd_page hx
  obtain ⟨n0,b0⟩:=op1_ok hP h K hp (by decide) (hn 0 (by decide)) (by rw [tb_root _ _ hp]; exact nofun)
  obtain ⟨n1,b1⟩:=op1_ok hP h n0.op hp (by decide) (hn 1 (by decide)) b0
  unfold Pg.opp
  rcases G.op1 (by decide) h K pg (d:=0) (by decide) with G1 | G1
  · rcases G1.op1 (by decide) h n0.op pg (d:=1) (by decide) with G2 | G2
    · rcases G2.op1 (by decide) h n1.op pg (d:=2) (by decide) with G3 | G3
      · exact ⟨_,by decide,G3⟩
      · exact ⟨_,by decide,G3⟩
    · rcases G2.op1 (by decide) h n1.op pg (d:=2) (by decide) with G3 | G3
      · exact ⟨_,by decide,G3⟩
      · exact ⟨_,by decide,G3⟩
  · rcases G1.op1 (by decide) h n0.op pg (d:=1) (by decide) with G2 | G2
    · rcases G2.op1 (by decide) h n1.op pg (d:=2) (by decide) with G3 | G3
      · exact ⟨_,by decide,G3⟩
      · exact ⟨_,by decide,G3⟩
    · rcases G2.op1 (by decide) h n1.op pg (d:=2) (by decide) with G3 | G3
      · exact ⟨_,by decide,G3⟩
      · exact ⟨_,by decide,G3⟩
theorem uc_none {W:Nat→Nat→Int} {r:Nat} {D:Nat→Nat→Prop} {us:Us} (h:∀ d k,0 < d→tb W r d k = none):Uc W r D us = us:=by
  funext f
  refine Uc_neg ?_
  rintro ⟨d,k,h1,h2,h3⟩
  rw [h (d + 1) k (by omega)] at h3
  exact absurd h3 nofun
theorem gr_page {P:Par} (hP:P.Ok) (h:Hw) {R:Nat→Prop} {r:Nat} {xs:List (Int × Int)} {S:E.Sc × Us} (K:Op P R r xs S) (hi:inS xs 0 32):∀ n,n < 32→grN h P r 0 S (n + 1) = opp h P r 0 S
  | 0,_=>rfl
  | n + 1,hn=>by
    have e:grN h P r 0 S (n + 1 + 1) = opp h P r (0 + (n + 1)) (grN h P r 0 S (n + 1)):=rfl
    rw [e,opp_same,gr_page hP h K hi n (by omega)]
    have:=(grN_ok hP h K (n + 1) (fun j hj=>hi j (by omega))).2 0 (by omega)
    rw [show (0 + (n + 1)) / 32 = (0 + 0) / 32 by omega]
    exact this
variable {w0 w:World} {Z:Nat→Prop} {t c p:Nat} {S:E.Sc × Us} {m:Nat→Option Nat}
theorem fit32_ok (K : Ts w0 Z t c p (hwOf us) (par us 0) S m w) (G : Gd 1 S) {r : Nat} (hr : m r ≠ none) (hz : ∀ d k, 0 < d → tb (wd S.1.m) r d k = none) (hq : cU S.2 3 4096 + A.total [(0, 32)] ≤ (par us 0).q 3 + all (pr (wd S.1.m) r)) :
    Calls Tryz.prog 22 #[.pointer (some ⟨t,0,none⟩),.int .i64 (r:Nat),.slice (some ⟨w.heap.size,0,none⟩) 1 1] (w.alloc (.cells #[.int .i64 0,.int .i64 32] 86)) fun e w'=>∃ n' o:Nat,e = .returned (.tuple #[.int .i64 (n' : Nat),.int .i64 (o:Nat),.int .i64 0])∧∃ S' n,n ≤ 4∧Gd n S'∧Fitd (par us 0) (fun x=>m x ≠ none) r [(0,32)] S S'∧Ts w0 Z t c p (hwOf us) (par us 0) S' m w'∧Sm Z w w':=by
  obtain ⟨K',s1⟩:=K.make (.cells #[.int .i64 0,.int .i64 32] 86)
  have hv:∀ s ∈ [((0:Int),(32:Int))],A.mayS s = true:=fun s hs=>by obtain rfl:=List.mem_singleton.1 hs; decide
  have hx:∀ s ∈ [((0:Int),(32:Int))],A.fits s:=fun s hs=>by obtain rfl:=List.mem_singleton.1 hs; exact ⟨by decide,by decide⟩
  obtain ⟨X,tt,hzx,hl',hst⟩:=K'.zt.step
  refine (Fit_ok K'.par K'.ok K'.hN hr tt hr (spn_new w 0 32) (Or.inr fun b off e => ?_) (by decide:1 ≤ 1024) hv hx hq (cap:=1)).mono ?_
  · cases e
    exact ⟨K'.zt.z _ (Or.inr rfl),hzx _ (Or.inr rfl)⟩
  · rintro e w' ⟨n,rfl,M,hM,hO,hc,hcu,T'⟩
    have F:=fit_pl K'.par (hwOf us) hv K'.ok hr hM hO hc
    obtain ⟨z',s'⟩:=hst _ _ _ T'
    have hgr:fitE (hwOf us) (par us 0) r [(0,32)] S M = opp (hwOf us) (par us 0) r 0 ({ S.1 with m:=M },S.2):=by
      rw [uc_none hz] at hO
      unfold fitE
      rw [uc_none hz]
      exact gr_page K'.par (hwOf us) hO (in_span hv (j:=0) (by decide)) 31 (by decide)
    have G1:Gd 1 ({ S.1 with m:=M },S.2):=⟨G.uu,G.ln,G.l,fun f hf i=>by
      show wd M f i = 0
      rw [hM]
      unfold Wc
      split
      · rfl
      · exact G.z8 f hf i⟩
    have hO':=hO
    rw [uc_none hz] at hO'
    obtain ⟨k,hk,Gk⟩:=G1.opp (hwOf us) K'.par hO' (pg:=0) (by decide) (by decide +kernel)
    exact ⟨n,_,rfl,_,k,hk,hgr ▸ Gk,F,(⟨z',F.ok,K'.hN⟩:Ts _ _ _ _ _ _ _ _ _ _).less (fun _=>Or.inl),s1.trans (fun k hk=>s' k (Or.inl hk))⟩
theorem total032:A.total [(0,32)] = 4:=by
  unfold A.total
  rw [cov1,cov1,cov1,A.cn_congr 32768 (fun k _=>ned_pt 32 0 32 0 (by decide) rfl rfl k),A.cn_congr 1024 (fun k _=>ned_pt 1024 0 32 0 (by decide) rfl rfl k),A.cn_congr 32 (fun k _=>ned_pt 32768 0 32 0 (by decide) rfl rfl k),cn_pt _ _ (by decide),cn_pt _ _ (by decide),cn_pt _ _ (by decide)]
theorem wd_s0 (f i:Nat):wd s0.m f i = 0:=by
  unfold wd
  split
  · show F.num (fun _=>0) _ 8 = 0
    simp [F.num]
  · rfl
theorem root16 {w0 w:World} {Z:Nat→Prop} {t c p:Nat} (K:Ts w0 Z t c p (hwOf us) (par us 0) (s0,fun _=>none) (fun _=>none) w):Calls Tryz.prog 21 #[.pointer (some ⟨t,0,none⟩)] w fun e w'=>e = .returned (.tuple #[.int .i64 0,.int .i64 0])∧∃ S',Gd 1 S'∧Rootd (par us 0) (fun _=>none) 0 (s0,fun _=>none) S'∧Ts w0 Z t c p (hwOf us) (par us 0) S' (B.pt (fun _=>none) 0 (some 0)) w':=by
  obtain ⟨X,tt,hz,hl,hs⟩:=K.zt.step
  have hq:cU ((s0,fun _=>none):E.Sc × Us).2 3 4096 < (par us 0).q 3:=by rw [q0,cU_none]; decide
  have hn0:nf (par us 0) ((s0,fun _=>none):E.Sc × Us).2 = 0:=uN0
  have G0:Gd 0 ((s0,fun _=>none):E.Sc × Us):=⟨rfl,fun i x h=>(h.elim (fun q=>absurd q (List.not_mem_nil)) (fun q=>absurd q (List.not_mem_nil))),rfl,fun f _ i=>wd_s0 f i⟩
  have G1:=G0.root (by decide) (hwOf us)
  refine (Root_ok tt.tv K.hN hq).mono ?_
  rintro e w' ⟨rfl,T'⟩
  obtain ⟨z',s'⟩:=hs _ _ _ T'
  obtain ⟨o1,o2,o3,o4,o5⟩:=K.ok.root K.par (hwOf us) hq
  obtain ⟨f1,f2,f3,f4⟩:=nf_is K.par K.ok.va hq
  rw [hn0] at *
  refine ⟨rfl,_,G1,⟨rfl,by decide,f4,o3,o4,o5,fun f => ?_⟩,⟨z',o1.congr (fun x => ?_),K.hN⟩⟩
  · show B.pt (fun _=>none) 0 (some 3) f = _ ∨ B.pt (fun _=>none) 0 (some 3) f = _
    unfold B.pt
    split
    · exact Or.inr rfl
    · exact Or.inl rfl
  · unfold B.pt
    by_cases q:x = 0
    · rw [if_pos q]; exact ⟨fun _=>Or.inr q,fun _=>nofun⟩
    · rw [if_neg q]; exact ⟨Or.inl,fun z=>z.resolve_right q⟩
structure Ov (w w' : World) (t c p n:Nat) (S:E.Sc × Us) (m:Nat→Option Nat):Prop where
  ts:Ts w (fun _=>False) t c p (hwOf us) (par us 0) S m w'
  gd:Gd n S
  n4:n ≤ 4
  rt:m 0 ≠ none
  ow:∀ x,m x ≠ none→x = 0
  has:∀ k,pr (wd S.1.m) 0 3 k = nd [(0,32)] 3 k
  pw:∀ pg,pw (wd S.1.m) 0 pg = 0
set_option maxHeartbeats 1000000 in
theorem over16_any (w:World):Calls Tryz.prog 6 #[] w fun e w'=>∃ c t p n S m,e = .returned (.tuple #[.pointer (some ⟨c,0,none⟩),.pointer (some ⟨t,0,none⟩),.int .i64 0,.bool true])∧Ov w w' t c p n S m:=by
  go_enter Tryz.func6,Tryz.ntmps6
  go_wp2_with fail
  refine (usual16_any w).mono ?_
  rintro e w1 ⟨n1,n2,n3,n4,a,c,rfl,rfl,rfl,hU,_,hb⟩
  have HC:Hid (Calls _ _ _ _ _):=E.New_ok hU.cin us_may
  have HB:Hid (Below w.heap.size w w1):=hb
  clear hU hb
  generalize Ud n1 n2 n3 n4 = a at *
  go_wp2_with fail
  refine HC.out.mono ?_
  rintro e w2 ⟨cc,X1,rfl,cr,k1⟩
  have HCR:Hid (Cr pK w2 X1 cc (hwOf us) s0∧Below w.heap.size w w2∧∀ k,X1 k→w.heap.size ≤ k):=⟨cr,HB.out.trans ((kp_below k1).mono HB.out.size),fun k hk=>(k1.new k hk).elim (fun q=>q.elim) (fun q=>Nat.le_trans HB.out.size q)⟩
  clear HC HB cr k1
  go_wp2_with fail
  refine (usual16_any w2).mono ?_
  rintro e w3 ⟨m1,m2,m3,m4,a',c,rfl,rfl,rfl,hU,_,hb⟩
  have HC:Hid (Calls Tryz.prog 19 #[.agg #[.int .i64 us.F,.int .i64 us.C,.int .i64 us.W,.int .i64 us.S,.int .i64 us.V,.int .i64 us.T,.int .u64 us.k.l1,.int .u64 us.k.llc,.int .u64 us.k.mi,.int .u64 us.k.fa,.int .u64 us.k.st,.int .u64 us.k.di,.int .u64 us.sl,.int .u64 us.pd,.int .u64 us.ft,.slice (Ud m1 m2 m3 m4).ta us.tn (Ud m1 m2 m3 m4).tc,.slice (Ud m1 m2 m3 m4).pa us.pn (Ud m1 m2 m3 m4).pc],.int .i64 0] w3 _):=P.New_p hU.cin 0 us_may (by decide)
  have HB:Hid (Below w2.heap.size w2 w3):=hb
  clear hU hb
  generalize Ud m1 m2 m3 m4 = a' at *
  go_wp2_with fail
  refine HC.out.mono ?_
  rintro e w4 ⟨p,F2,rfl,po,k2⟩
  have k2':=kpB k2
  have HCN:Hid (Calls Tryz.prog 20 #[.pointer (some ⟨cc,0,none⟩),.pointer (some ⟨p,0,none⟩)] w4 fun e w'=>∃ t,e = .returned (.tuple #[.pointer (some ⟨t,0,none⟩),.int .i64 0])∧Ts w (fun _=>False) t cc p (hwOf us) (par us 0) (s0,fun _=>none) (fun _=>none) w'):=by
    have b3:=HB.out
    have b2:=HCR.out.2.1
    refine (New_ok' ((HCR.out.1.below b3).below (kp_below k2')) po (fun k hk hz => ?_)).mono ?_
    · have:=HCR.out.1.lt k hk
      have:=b3.size
      rcases k2'.new k hz with q | q
      · exact q
      · omega
    · rintro e w' ⟨t,rfl,X,tt,kk⟩
      have s2:=b2.size
      have s3:=b3.size
      have s4:=k2'.size
      have nx:∀ k,X k→w.heap.size ≤ k:=fun k hk=>by
        rcases kk.new k hk with (q | q) | q
        · exact HCR.out.2.2 k q
        · rcases k2'.new k q with z | z
          · exact z.elim
          · omega
        · omega
      have bw:Below w.heap.size w w':=by
        refine ⟨((kk.os.trans k2'.os).trans b3.os).trans b2.os,((kk.tape.trans k2'.tape).trans b3.tape).trans b2.tape,((kk.output.trans k2'.output).trans b3.output).trans b2.output,by have:=kk.size; omega,fun k hk => ?_⟩
        rw [kk.block k (by omega) ?_,k2'.block k (by omega) (fun q=>q),b3.block k (by omega),b2.block k hk]
        rintro (q | q)
        · have:=HCR.out.2.2 k q; omega
        · rcases k2'.new k q with z | z
          · exact z
          · omega
      have hO:=may_iff.1 us_may
      exact ⟨t,rfl,⟨bw,⟨X,tt,fun i hi=>⟨nx i hi,id⟩⟩,fun _ q=>q.elim⟩,(Ok.none' tt.tv.par.1 s0).congr (fun x=>⟨fun q=>absurd rfl q,False.elim⟩),par_n hO (by decide)⟩
  clear HC HB HCR po k2 k2'
  go_wp2_with fail
  refine HCN.out.mono ?_
  rintro e w5 ⟨t,rfl,K⟩
  have CR:Hid (Calls _ _ _ _ _):=root16 K
  clear K HCN
  go_wp2_with fail
  refine CR.out.mono ?_
  rintro e w6 ⟨rfl,S1,G1,D1,K1⟩
  have rt:B.pt (fun _=>none:Nat→Option Nat) 0 (some 0) 0 ≠ none:=by unfold B.pt; rw [if_pos rfl]; exact nofun
  have ow:∀ x,B.pt (fun _=>none) 0 (some 0) x ≠ none→x = 0:=fun x hx=>by
    by_cases e:x = 0
    · exact e
    · exact absurd (by unfold B.pt; rw [if_neg e]) hx
  generalize B.pt (fun _=>none) 0 (some 0) = m at *
  have CF:Hid (Calls Tryz.prog 22 #[.pointer (some ⟨t,0,none⟩),.int .i64 0,.slice (some ⟨w6.heap.size,0,none⟩) 1 1] (w6.alloc (.cells #[.int .i64 0,.int .i64 32] 86)) fun e w'=>∃ n' o:Nat,e = .returned (.tuple #[.int .i64 (n' : Nat),.int .i64 (o:Nat),.int .i64 0])∧∃ S n,Ov w w' t cc p n S m):=by
    refine (fit32_ok K1 G1 (r:=0) rt (fun d k hd=>by rw [D1.me,if_neg (by omega)]) (by rw [total032,q0,D1.all,D1.cu,cU_none]; decide)).mono ?_
    rintro e w' ⟨n',o,rfl,S',n,hn,G,F,K2,_⟩
    refine ⟨n',o,rfl,S',n,K2,G,hn,rt,ow,fun k=>F.has 3 k (by decide) (by decide),fun pg => ?_⟩
    rw [F.pw 0 pg rt,pw_none ((D1.me 3 (pg / 32)).trans (if_neg (by omega)))]
    exact ite_self _
  clear K1 G1 D1 CR rt ow
  go_wp2_with fail
  refine CF.out.mono ?_
  rintro e w7 ⟨n',o,rfl,S,n,H⟩
  have HH:Hid (Ov w w7 t cc p n S m):=H
  clear H CF
  go_wp2_with fail
  exact bodyPost_ret (v:=.tuple #[.pointer (some ⟨cc,0,none⟩),.pointer (some ⟨t,0,none⟩),.int .i64 0,.bool true]) (by simp [results,Tryz.results6,go_sem]) rfl ⟨cc,t,p,n,S,m,rfl,HH.out⟩
end Go.Proofs.YtgljdbabagdhlaaGreat.Pg
