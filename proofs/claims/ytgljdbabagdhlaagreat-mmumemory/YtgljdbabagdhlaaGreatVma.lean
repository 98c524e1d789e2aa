/- Tables beside blocks that are none of theirs, and what their core does for accesses: its translations, its bytes, a touch; no condition but those named. -/
import Derived.Test.YtgljdbabagdhlaaGreatVte
import Derived.Test.YtgljdbabagdhlaaGreatVHf
import Derived.Test.YtgljdbabagdhlaaGreatVkb
import Derived.Deep.QuietTactic
import Derived.Deep.RegionHeld3
namespace Go.Proofs.YtgljdbabagdhlaaGreat.Pg
open P E Go.ChangeShapes Go.WideShapes Go.ChangeAt Go.RowKit
set_option linter.unusedVariables false
set_option maxRecDepth 8192
structure Ky (Z:Nat→Prop) (w w' : World):Prop where
  os:w'.os = w.os
  tape:w'.tape = w.tape
  output:w'.output = w.output
  size:w.heap.size ≤ w'.heap.size
  block:∀ k,Z k→w'.heap[k]? = w.heap[k]?
structure Zq (Z:Nat→Prop) (w:World) (t c p:Nat) (h:Hw) (P:Par) (S:E.Sc × Us) (m:Nat→Option Nat):Prop where
  tt:∃ X,Tt w X t c p h P S m∧∀ k,X k→¬ Z k
  lt:∀ k,Z k→k < w.heap.size
section
variable {Z Z' : Nat→Prop} {w w' w1 w2:World} {X:Nat→Prop} {t c p:Nat} {h:Hw} {P:Par} {S:E.Sc × Us} {m:Nat→Option Nat}
theorem Ky.refl (Z:Nat→Prop) (w:World):Ky Z w w:=⟨rfl,rfl,rfl,Nat.le_refl _,fun _ _=>rfl⟩
theorem Ky.trans (a:Ky Z w w1) (b:Ky Z w1 w2):Ky Z w w2:=⟨b.os.trans a.os,b.tape.trans a.tape,b.output.trans a.output,Nat.le_trans a.size b.size,fun k hk=>(b.block k hk).trans (a.block k hk)⟩
theorem Ky.of_below (b:Below w.heap.size w w') (hz:∀ k,Z k→k < w.heap.size):Ky Z w w':=⟨b.os,b.tape,b.output,b.size,fun k hk=>b.block k (hz k hk)⟩
theorem Ky.less (k:Ky Z w w') (hz:∀ k,Z' k→Z k):Ky Z' w w':=⟨k.os,k.tape,k.output,k.size,fun i hi=>k.block i (hz i hi)⟩
theorem Ky.wrote {g:Nat} (k:Ky Z w w1) (hz:∀ k,Z k→k < w1.heap.size) (hg:¬ Z g) (gr:w1.grownBy w2 (some g)):Ky Z w w2:=k.trans ⟨gr.os,gr.tape,gr.output,gr.size,fun i hi=>gr.block i (hz i hi) (C.some_ne (fun e=>hg (e ▸ hi)))⟩
theorem Zq.below (K:Zq Z w t c p h P S m) (b:Below w.heap.size w w'):Zq Z w' t c p h P S m:=by
  obtain ⟨X,tt,hx⟩:=K.tt
  exact ⟨⟨X,tt.below b,hx⟩,fun k hk=>Nat.lt_of_lt_of_le (K.lt k hk) b.size⟩
theorem Zq.more (K:Zq Z w t c p h P S m) (b:Below w.heap.size w w') (hz:∀ k,Z' k→Z k ∨ (w.heap.size ≤ k∧k < w'.heap.size)):Zq Z' w' t c p h P S m:=by
  obtain ⟨X,tt,hx⟩:=K.tt
  refine ⟨⟨X,tt.below b,fun k hk z => ?_⟩,fun k hk => ?_⟩
  · rcases hz k z with z | z
    · exact hx k hk z
    · have:=tt.lt k hk; omega
  · rcases hz k hk with z | z
    · exact Nat.lt_of_lt_of_le (K.lt k z) b.size
    · exact z.2
theorem Zq.less (K:Zq Z w t c p h P S m) (hz:∀ k,Z' k→Z k):Zq Z' w t c p h P S m:=K.more (Below.refl _ _) (fun k hk=>Or.inl (hz k hk))
theorem Zq.wrote (K:Zq Z w t c p h P S m) {g:Nat} (hg:Z g) (gr:w.grownBy w' (some g)):Zq Z w' t c p h P S m:=by
  obtain ⟨X,tt,hx⟩:=K.tt
  exact ⟨⟨X,tt.of_eq gr.size (fun k hk=>gr.block k (tt.lt k hk) (C.some_ne (fun e=>hx k hk (e ▸ hg)))),hx⟩,fun k hk=>Nat.lt_of_lt_of_le (K.lt k hk) gr.size⟩
theorem Zq.box (K:Zq Z w t c p h P S m) (o:Obj):Zq (fun k=>Z k ∨ k = w.heap.size) (w.alloc o) t c p h P S m:=K.more ((Below.refl _ _).alloc (Nat.le_refl _) _) (fun k hk=>hk.imp id fun e=>⟨by omega,by rw [e]; simp⟩)
theorem Zq.call (K:Zq Z w t c p h P S m) {f:Nat} {args:Array Value} {R:Ending→Prop} {S' : E.Sc × Us} {m' : Nat→Option Nat} (hc:∀ X,Tt w X t c p h P S m→Calls Tryz.prog f args w fun e w'=>R e∧Tv w X t c p h P S' m' w'):Calls Tryz.prog f args w fun e w'=>R e∧Zq Z w' t c p h P S' m'∧Ky Z w w':=by
  obtain ⟨X,tt,hx⟩:=K.tt
  refine (hc X tt).mono ?_
  rintro e w' ⟨he,X',t',k'⟩
  refine ⟨he,⟨⟨X',t',fun k hk hz => ?_⟩,fun k hk=>Nat.lt_of_lt_of_le (K.lt k hk) k'.size⟩,⟨k'.os,k'.tape,k'.output,k'.size,fun k hk=>k'.block k (K.lt k hk) (fun q=>hx k q hk)⟩⟩
  rcases k'.new k hk with q | q
  · exact hx k q hz
  · have:=K.lt k hz; omega
theorem Zq.par (K:Zq Z w t c p h P S m):P.Ok∧Va P S.2:=by
  obtain ⟨X,tt,_⟩:=K.tt
  exact tt.tv.par
theorem ptr_in {w:World} {a:Addr} {b c:Nat} (h:w.cell? a = some (.pointer (some ⟨b,0,none⟩))) (k:w.cell? a = some (.pointer (some ⟨c,0,none⟩))):b = c:=by
  rw [h] at k
  injection k with e
  injection e with e
  injection e with e
  injection e with e
theorem gv_l {Y:Nat→Prop} {s:E.Sc} (K:Cr pK w1 Y c h s):∃ pt,w1.cell? ⟨c,1,none⟩ = some (.pointer (some ⟨pt,0,none⟩))∧∃ G,T.Ca w1 G pt h.t s.l∧∀ l' w3,T.Lv w1 G pt h.t l' w3→Gv pK w1 Y c h { s with l:=l' } w3∧w3.heap[c]? = w1.heap[c]?:=by
  obtain ⟨G,Q,c',rfl,rfl⟩:=K
  refine ⟨Q.t,c'.c1,G 2,c'.tl,fun l' w3 lv => ?_⟩
  have lv':=lv
  obtain ⟨F',_,k⟩:=lv'
  obtain ⟨G2,c2,k2⟩:=c'.t2 lv
  exact ⟨c2.gv k2,k.block Q.h (c'.lt 0 _ c'.g0) (c'.dis 0 2 _ (by decide) c'.g0)⟩
theorem gv_m {Y:Nat→Prop} {s:E.Sc} (K:Cr pK w1 Y c h s):∃ pm,w1.cell? ⟨c,0,none⟩ = some (.pointer (some ⟨pm,0,none⟩))∧∃ g,F.Mem w1 pm g h.n s.m∧∀ m' w3,F.Mem w3 pm g h.n m'→w1.grownBy w3 (some g)→Gv pK w1 Y c h { s with m:=m' } w3:=by
  obtain ⟨G,Q,c',rfl,rfl⟩:=K
  refine ⟨Q.m,c'.c0,Q.g,c'.mm,fun m' w3 hm hg => ?_⟩
  obtain ⟨c2,k2⟩:=c'.t1 hm hg
  exact c2.gv k2
theorem Zq.pt (K:Zq Z w t c p h P S m):∃ pt,w.cell? ⟨c,1,none⟩ = some (.pointer (some ⟨pt,0,none⟩)):=by
  obtain ⟨X,tt,_⟩:=K.tt
  obtain ⟨Y,cr,_⟩:=tt.tv.core
  obtain ⟨pt,hc,_⟩:=gv_l cr
  exact ⟨pt,hc⟩
theorem Zq.pm (K:Zq Z w t c p h P S m):∃ pm,w.cell? ⟨c,0,none⟩ = some (.pointer (some ⟨pm,0,none⟩)):=by
  obtain ⟨X,tt,_⟩:=K.tt
  obtain ⟨Y,cr,_⟩:=tt.tv.core
  obtain ⟨pm,hc,_⟩:=gv_m cr
  exact ⟨pm,hc⟩
theorem Zq.byte (K:Zq Z w t c p h P S m):F.okB (h.n * 256) S.1.m:=by
  obtain ⟨X,tt,_⟩:=K.tt
  obtain ⟨Y,cr,_⟩:=tt.tv.core
  obtain ⟨pm,_,g,mm,_⟩:=gv_m cr
  exact mm.ok
theorem Zq.callT (K : Zq Z w t c p h P S m) {pt : Nat} (hp : w.cell? ⟨c, 1, none⟩ = some (.pointer (some ⟨pt, 0, none⟩))) {f : Nat} {args : Array Value} {R : Ending → Prop} {l' : List T.Tr} (hc : ∀ G, T.Ca w G pt h.t S.1.l → Calls Tryz.prog f args w fun e w' => R e ∧ T.Lv w G pt h.t l' w') :
    Calls Tryz.prog f args w fun e w'=>R e∧Zq Z w' t c p h P ({ S.1 with l:=l' },S.2) m∧Ky Z w w'∧w'.heap[c]? = w.heap[c]?:=by
  obtain ⟨X,tt,hx⟩:=K.tt
  obtain ⟨Y,cr,_,ht⟩:=tt.tv.core
  obtain ⟨pt',hp',G,ca,hv⟩:=gv_l cr
  obtain rfl:=ptr_in hp hp'
  refine (hc G ca).mono ?_
  rintro e w' ⟨he,lv⟩
  obtain ⟨g1,g2⟩:=hv _ _ lv
  obtain ⟨X',t',k'⟩:=ht _ _ g1
  refine ⟨he,⟨⟨X',t',fun k hk hz => ?_⟩,fun k hk=>Nat.lt_of_lt_of_le (K.lt k hk) k'.size⟩,⟨k'.os,k'.tape,k'.output,k'.size,fun k hk=>k'.block k (K.lt k hk) (fun q=>hx k q hk)⟩,g2⟩
  rcases k'.new k hk with q | q
  · exact hx k q hz
  · have:=K.lt k hz; omega
theorem peek_q (K:Zq Z w t c p h P S m) {pt:Nat} (hp:w.cell? ⟨c,1,none⟩ = some (.pointer (some ⟨pt,0,none⟩))) (a g:Int):Calls Tryz.prog 77 #[.pointer (some ⟨pt,0,none⟩),.int .i64 a,.int .i64 g] w fun e w'=>e = .returned (.tuple #[.agg #[.int .i64 (T.pk a g S.1.l).1.a,.int .i64 (T.pk a g S.1.l).1.p,.int .i64 (T.pk a g S.1.l).1.f,.bool (T.pk a g S.1.l).1.r,.bool (T.pk a g S.1.l).1.w,.bool (T.pk a g S.1.l).1.d],.bool (T.pk a g S.1.l).2.1,.int .i64 (T.pk a g S.1.l).2.2])∧Below w.heap.size w w':=by
  obtain ⟨X,tt,hx⟩:=K.tt
  obtain ⟨Y,cr,_,ht⟩:=tt.tv.core
  obtain ⟨pt',hp',G,ca,hv⟩:=gv_l cr
  obtain rfl:=ptr_in hp hp'
  exact T.Peek_ok ca a g
theorem find_q (K:Zq Z w t c p h P S m) {pt:Nat} (hp:w.cell? ⟨c,1,none⟩ = some (.pointer (some ⟨pt,0,none⟩))) (a g:Int):Calls Tryz.prog 81 #[.pointer (some ⟨pt,0,none⟩),.int .i64 a,.int .i64 g] w fun e w'=>e = .returned (.tuple #[.agg #[.int .i64 (T.pk a g S.1.l).1.a,.int .i64 (T.pk a g S.1.l).1.p,.int .i64 (T.pk a g S.1.l).1.f,.bool (T.pk a g S.1.l).1.r,.bool (T.pk a g S.1.l).1.w,.bool (T.pk a g S.1.l).1.d],.bool (T.pk a g S.1.l).2.1,.int .i64 (T.pk a g S.1.l).2.2])∧Zq Z w' t c p h P ({ S.1 with l:=T.fd a g S.1.l },S.2) m∧Ky Z w w'∧w'.heap[c]? = w.heap[c]?:=K.callT hp (R:=fun e=>e = _) (fun G ca=>T.Find_ok ca a g)
theorem drop_q (K:Zq Z w t c p h P S m) {pt:Nat} (hp:w.cell? ⟨c,1,none⟩ = some (.pointer (some ⟨pt,0,none⟩))) (a g:Int):Calls Tryz.prog 15 #[.pointer (some ⟨pt,0,none⟩),.int .i64 a,.int .i64 g] w fun e w'=>e = .returned (.tuple #[.bool (T.isT a g S.1.l).1,.int .i64 (T.isT a g S.1.l).2])∧Zq Z w' t c p h P ({ S.1 with l:=T.rmL a g S.1.l },S.2) m∧Ky Z w w'∧w'.heap[c]? = w.heap[c]?:=K.callT hp (R:=fun e=>e = _) (fun G ca=>T.Drop_ok ca a g)
theorem mark_q (K:Zq Z w t c p h P S m) {pt:Nat} (hp:w.cell? ⟨c,1,none⟩ = some (.pointer (some ⟨pt,0,none⟩))) (a g:Int):Calls Tryz.prog 108 #[.pointer (some ⟨pt,0,none⟩),.int .i64 a,.int .i64 g] w fun e w'=>e = .returned (.tuple #[.bool (T.isT a g S.1.l).1,.int .i64 (T.isT a g S.1.l).2])∧Zq Z w' t c p h P ({ S.1 with l:=T.mrkL a g S.1.l },S.2) m∧Ky Z w w'∧w'.heap[c]? = w.heap[c]?:=K.callT hp (R:=fun e=>e = _) (fun G ca=>T.Mark_ok ca a g)
theorem fill_q (K:Zq Z w t c p h P S m) {pt:Nat} (hp:w.cell? ⟨c,1,none⟩ = some (.pointer (some ⟨pt,0,none⟩))) (x:T.Tr):Calls Tryz.prog 118 #[.pointer (some ⟨pt,0,none⟩),.agg #[.int .i64 x.a,.int .i64 x.p,.int .i64 x.f,.bool x.r,.bool x.w,.bool x.d]] w fun e w'=>e = .returned (.int .i64 (T.filE x))∧Zq Z w' t c p h P ({ S.1 with l:=T.filL h.t x S.1.l },S.2) m∧Ky Z w w'∧w'.heap[c]? = w.heap[c]?:=K.callT hp (R:=fun e=>e = _) (fun G ca=>T.Fill_ok ca x)
theorem load_q (K:Zq Z w t c p h P S m) {pm:Nat} (hp:w.cell? ⟨c,0,none⟩ = some (.pointer (some ⟨pm,0,none⟩))) (a z:Nat) (h1:1 ≤ z) (h8:z ≤ 8) (ha:a + z ≤ h.n * 256):Calls Tryz.prog 29 #[.pointer (some ⟨pm,0,none⟩),.int .u64 (a:Nat),.int .i64 (z:Nat)] w fun e w'=>e = .returned (.tuple #[.int .u64 (F.num S.1.m a z),.int .i64 0])∧w' = w:=by
  obtain ⟨X,tt,hx⟩:=K.tt
  obtain ⟨Y,cr,_,ht⟩:=tt.tv.core
  have hn:=cr.ok.n2
  obtain ⟨pm',hp',g,mm,hv⟩:=gv_m cr
  obtain rfl:=ptr_in hp hp'
  exact F.Load_ok mm hn a z h1 h8 ha
theorem store_q (K:Zq Z w t c p h P S m) {pm:Nat} (hp:w.cell? ⟨c,0,none⟩ = some (.pointer (some ⟨pm,0,none⟩))) (a z:Nat) (v:Int) (h1:1 ≤ z) (h8:z ≤ 8) (ha:a + z ≤ h.n * 256) (v0:0 ≤ v) (v1:v < 18446744073709551616):Calls Tryz.prog 28 #[.pointer (some ⟨pm,0,none⟩),.int .u64 (a:Nat),.int .i64 (z:Nat),.int .u64 v] w fun e w'=>e = .returned (.int .i64 0)∧Zq Z w' t c p h P ({ S.1 with m:=F.lay S.1.m a z (F.byt v) },S.2) m∧Ky Z w w':=by
  refine K.call (R:=fun e=>e = .returned (.int .i64 0)) (fun X tt => ?_)
  obtain ⟨Y,cr,_,ht⟩:=tt.tv.core
  have hn:=cr.ok.n2
  obtain ⟨pm',hp',g,mm,hv⟩:=gv_m cr
  obtain rfl:=ptr_in hp hp'
  exact (F.Store_ok mm hn a z h1 h8 ha v v0 v1).mono fun e w' ⟨he,hm,hg⟩=>⟨he,ht _ _ (hv _ _ hm hg)⟩
theorem touch0_q (K:Zq Z w t c p h P S m):Calls Tryz.prog 67 #[.pointer (some ⟨c,0,none⟩),.slice none 0 0] w fun e w'=>e = .returned (.tuple #[.agg #[.bool false,.bool false],.int .i64 0])∧Zq Z w' t c p h P S m∧Ky Z w w':=by
  refine K.call (R:=fun e=>e = .returned (.tuple #[.agg #[.bool false,.bool false],.int .i64 0])) (fun X tt => ?_)
  obtain ⟨Y,cr,_,ht⟩:=tt.tv.core
  exact (Touch_ok cr (l:=0) (f:=fun _=>0) (by decide) (Or.inl rfl) (fun q=>absurd q (by decide)) (fun i hi=>absurd hi (by omega))).mono fun e w' ⟨he,g⟩=>⟨he,ht _ _ g⟩
theorem touch1_q (K : Zq Z w t c p h P S m) {a : Nat} (ha : a < h.n * 256) :
    Calls Tryz.prog 67 #[.pointer (some ⟨c,0,none⟩),.slice (some ⟨w.heap.size,0,none⟩) 1 1] (w.alloc (.cells #[.int .u64 (a:Nat)] 38)) fun e w'=>e = .returned (.tuple #[.agg #[.bool (hA h S.1 a),.bool (hB h S.1 a)],.int .i64 0])∧Zq Z w' t c p h P (tou h S.1 a,S.2) m∧Ky Z w w':=by
  have B1:Below w.heap.size w (w.alloc (.cells #[.int .u64 (a:Nat)] 38)):=(Below.refl _ _).alloc (Nat.le_refl _) _
  obtain ⟨X,tt,hx⟩:=K.tt
  obtain ⟨Y,cr,hY,ht⟩:=tt.tv.core
  have hbn:=C.blk_new w [.int .u64 (a:Nat)] 38
  refine (Touch_ok (cr.below B1) (l:=1) (f:=fun _=>a) (by decide) (Or.inr ⟨w.heap.size,0,rfl,hbn.lt,fun i hi => ?_⟩) (fun _ b off e q => ?_) (fun _ _=>ha)).mono ?_
  · obtain rfl:i = 0:=by omega
    exact hbn.cell 0
  · injection e with e; injection e with e1 e2 e3; subst e1
    exact hY _ (Nat.le_refl _) q
  · rintro e w3 ⟨rfl,g⟩
    obtain ⟨X',t',k'⟩:=ht _ _ (g.pre (kp_of_below _ B1))
    refine ⟨rfl,⟨⟨X',t',fun k hk hz => ?_⟩,fun k hk=>Nat.lt_of_lt_of_le (K.lt k hk) k'.size⟩,⟨k'.os,k'.tape,k'.output,k'.size,fun k hk=>k'.block k (K.lt k hk) (fun q=>hx k q hk)⟩⟩
    rcases k'.new k hk with q | q
    · exact hx k q hz
    · have:=K.lt k hz; omega
theorem walk_q (K:Zq Z w t c p h P S m) (O:Ok P (fun r=>m r ≠ none) S) (hN:P.N * P.C ≤ h.n) {r:Nat} (hr:m r ≠ none) {pg:Nat} (hp:pg < 1048576):Calls Tryz.prog 116 #[.pointer (some ⟨t,0,none⟩),.int .i64 (r:Nat),.int .i64 (pg:Nat)] w fun e w'=>e = .returned (.tuple #[.agg (ec (pw (wd S.1.m) r pg)).toArray,.int .u64 (pla (wd S.1.m) r pg:Nat),.bool (hasP (wd S.1.m) r pg),.int .i64 0])∧Zq Z w' t c p h P (wkS h S.1 r pg,S.2) m∧Ky Z w w' :=
  K.call (R:=fun e=>e = _) (fun X tt=>Walk_ok K.par.1 O hN hr tt.tv hr hp)
theorem get_q (K:Zq Z w t c p h P S m) (O:Ok P (fun r=>m r ≠ none) S) (hN:P.N * P.C ≤ h.n) {r:Nat} (hr:m r ≠ none) {pg:Nat} (hp:pg < 1048576):Calls Tryz.prog 12 #[.pointer (some ⟨t,0,none⟩),.int .i64 (r:Nat),.int .i64 (pg:Nat)] w fun e w'=>e = .returned (.tuple #[.agg (ec (pw (wd S.1.m) r pg)).toArray,.int .i64 0])∧Zq Z w' t c p h P S m∧Ky Z w w' :=
  K.call (R:=fun e=>e = _) (fun X tt=>Get_ok K.par.1 O hN hr tt.tv hr hp)
theorem place_q (K:Zq Z w t c p h P S m) (O:Ok P (fun r=>m r ≠ none) S) (hN:P.N * P.C ≤ h.n) {r:Nat} (hr:m r ≠ none) {pg:Nat} (hp:pg < 1048576):Calls Tryz.prog 23 #[.pointer (some ⟨t,0,none⟩),.int .i64 (r:Nat),.int .i64 (pg:Nat)] w fun e w'=>e = .returned (.tuple #[.int .u64 (pla (wd S.1.m) r pg:Nat),.bool (hasP (wd S.1.m) r pg),.int .i64 0])∧Zq Z w' t c p h P S m∧Ky Z w w' :=
  K.call (R:=fun e=>e = _) (fun X tt=>Place_ok K.par.1 O hN hr tt.tv hr hp)
theorem set_q (K:Zq Z w t c p h P S m) (O:Ok P (fun r=>m r ≠ none) S) (hN:P.N * P.C ≤ h.n) {r:Nat} (hr:m r ≠ none) {pg:Nat} (hp:pg < 1048576) (b1 b2 b3 b4 b5 b6:Bool) (x:Int):Calls Tryz.prog 9 #[.pointer (some ⟨t,0,none⟩),.int .i64 (r:Nat),.int .i64 (pg:Nat),.agg #[.bool b1,.bool b2,.bool b3,.bool b4,.bool b5,.bool b6,.int .i64 x]] w fun e w'=>e = .returned (.int .i64 (setE (wd S.1.m) r pg (N.may b1 b2 b3 b4 b5 b6 x)))∧Zq Z w' t c p h P (setS S.1 r pg (N.may b1 b2 b3 b4 b5 b6 x) (N.lo b1 b2 b3 b4 b5 b6 + x * 256),S.2) m∧Ky Z w w' :=
  K.call (R:=fun e=>e = _) (fun X tt=>Set_ok K.par.1 O hN hr tt.tv hr hp b1 b2 b3 b4 b5 b6 x)
end
def alV (v:Int) (wr:Bool):Int:=N.al (N.fb v 1) (N.fb v 2) (N.fb v 4) (N.fb v 8) wr
def mayA (v:Int):Bool:=N.may (N.fb v 1) (N.fb v 2) (N.fb v 4) (N.fb v 8) true (N.fb v 32) (v / 256)
def acc (v:Int):Int:=N.lo (N.fb v 1) (N.fb v 2) (N.fb v 4) (N.fb v 8) true (N.fb v 32) + v / 256 * 256
def mayD (v:Int):Bool:=N.may (N.fb v 1) (N.fb v 2) (N.fb v 4) (N.fb v 8) (N.fb v 16) true (v / 256)
def drt (v:Int):Int:=N.lo (N.fb v 1) (N.fb v 2) (N.fb v 4) (N.fb v 8) (N.fb v 16) true + v / 256 * 256
def alw (wr:Bool) (x:T.Tr):Bool:=bif wr then x.w else x.r
def trV (a pg:Int) (v:Int):T.Tr:=⟨a,pg,v / 256,N.fb v 4,N.fb v 8,N.fb v 32⟩
def whyV (W:Nat→Nat→Int) (r pg:Nat) (wr:Bool):Int:=alV (pw W r pg) wr
theorem why_no {W:Nat→Nat→Int} {r pg:Nat} (h:hasP W r pg = false) (wr:Bool):whyV W r pg wr = 1:=by
  unfold whyV
  rw [(hasP_f h).2.2]
  cases wr <;> decide
theorem why_has {W:Nat→Nat→Int} {r pg:Nat} {wr:Bool} (h:whyV W r pg wr = 0):hasP W r pg = true:=by
  cases q:hasP W r pg with
  | true=>rfl
  | false=>rw [why_no q] at h; exact absurd h (by decide)
noncomputable def fillS (h:Hw) (s:E.Sc) (a:Int) (r pg:Nat) (v:Int):E.Sc:={ setS s r pg (mayA v) (acc v) with l:=T.filL h.t (trV a pg v) (setS s r pg (mayA v) (acc v)).l }
noncomputable def walkS (h:Hw) (s:E.Sc) (a:Int) (r pg:Nat) (wr:Bool):E.Sc × T.Tr × Int:=
  if whyV (wd s.m) r pg wr = 0 then (fillS h (wkS h s r pg) a r pg (pw (wd s.m) r pg),trV a pg (pw (wd s.m) r pg),0) else (wkS h s r pg,T.z0,whyV (wd s.m) r pg wr)
noncomputable def lookS (h:Hw) (s:E.Sc) (a:Int) (r pg:Nat) (wr:Bool):E.Sc × T.Tr × Bool × Int:=
  if ((T.pk a pg s.l).2.1 && alw wr (T.pk a pg s.l).1) = true then ({ s with l:=T.fd a pg s.l },(T.pk a pg s.l).1,true,0)
  else ((walkS h { s with l:=T.rmL a pg (T.fd a pg s.l) } a r pg wr).1,(walkS h { s with l:=T.rmL a pg (T.fd a pg s.l) } a r pg wr).2.1,false,(walkS h { s with l:=T.rmL a pg (T.fd a pg s.l) } a r pg wr).2.2)
noncomputable def soil0 (h:Hw) (s:E.Sc) (r pg:Nat):E.Sc:=if hasP (wd s.m) r pg then tou h (setS s r pg (mayD (pw (wd s.m) r pg)) (drt (pw (wd s.m) r pg))) (pla (wd s.m) r pg) else s
noncomputable def soilS (h:Hw) (s:E.Sc) (a:Int) (r pg:Nat):E.Sc:={ soil0 h s r pg with l:=T.mrkL a pg (soil0 h s r pg).l }
noncomputable def aheadS (h:Hw) (s:E.Sc) (a:Int) (r pg:Nat) (wr:Bool):E.Sc:=if (wr && !(lookS h s a r pg wr).2.1.d) = true then soilS h (lookS h s a r pg wr).1 a r pg else (lookS h s a r pg wr).1
section
variable {P:Par} {R:Nat→Prop} {S:E.Sc × Us} {h:Hw}
theorem wk_m (h:Hw) (s:E.Sc) (r pg:Nat):(wkS h s r pg).m = s.m:=fold_m (g:=tou h) (fun _ _=>rfl) _ _
theorem fold_l {g:E.Sc→Nat→E.Sc} (hg:∀ s a,(g s a).l = s.l):∀ (l:List Nat) (s:E.Sc),(l.foldl g s).l = s.l
  | [],_=>rfl
  | a :: l,s=>by rw [List.foldl_cons,fold_l hg l,hg]
theorem wk_l (h:Hw) (s:E.Sc) (r pg:Nat):(wkS h s r pg).l = s.l:=fold_l (g:=tou h) (fun _ _=>rfl) _ _
theorem set_l (s:E.Sc) (r pg:Nat) (my:Bool) (v:Int):(setS s r pg my v).l = s.l:=by
  unfold setS
  split <;> rfl
theorem Ok.m_eq (K:Ok P R S) {s:E.Sc} (e:s.m = S.1.m):Ok P R (s,S.2):=⟨by show Fo (wd s.m) _ _ _; rw [e]; exact K.fo,K.va⟩
theorem Ok.word (K:Ok P R S) {r:Nat} (hr:R r) (pg:Nat):Lf (pw (wd S.1.m) r pg):=by
  cases hf:tb (wd S.1.m) r 3 (pg / 32) with
  | none=>rw [pw_none hf]; exact ⟨by decide,by decide,by decide⟩
  | some f=>rw [pw_some hf]; exact K.fo.lf r hr _ f hf _ (Nat.mod_lt _ (by decide))
theorem lf_may {v:Int} (h:Lf v):N.may (N.fb v 1) (N.fb v 2) (N.fb v 4) (N.fb v 8) (N.fb v 16) (N.fb v 32) (v / 256) = true:=by
  have:=h.1
  unfold N.mayW at this
  rw [Bool.and_eq_true] at this
  exact this.2
theorem may_at2 {b1 b2 b3 b4 b5 b6:Bool} {x:Int} (h:N.may b1 b2 b3 b4 b5 b6 x = true):0 ≤ x∧x ≤ 4095:=by
  unfold N.may at h
  cases b1 <;> cases b2 <;> simp [N.mb] at h <;> omega
theorem lf_at {v:Int} (h:Lf v):0 ≤ v / 256∧v / 256 ≤ 4095:=may_at2 (lf_may h)
theorem al_pres {v:Int} {wr:Bool} (h:alV v wr = 0):N.fb v 1 = true∧N.fb v 2 = false:=by
  unfold alV N.al at h
  cases h1:N.fb v 1 <;> cases h2:N.fb v 2 <;> simp [h1,h2] at h ⊢
theorem may_acc {v:Int} (hl:Lf v) {wr:Bool} (h:alV v wr = 0):mayA v = true:=by
  have h1:=lf_may hl
  obtain ⟨p1,p2⟩:=al_pres h
  unfold mayA
  rw [p1,p2] at h1 ⊢
  unfold N.may N.mb at h1 ⊢
  simp at h1 ⊢
  exact h1
theorem may_drt {v:Int} (hl:Lf v) (h:N.fb v 1 = true):mayD v = true:=by
  have h1:=lf_may hl
  unfold mayD
  cases p2:N.fb v 2 with
  | true=>rw [h,p2] at h1; unfold N.may N.mb at h1; simp at h1
  | false=>
    rw [h,p2] at h1
    rw [h]
    unfold N.may N.mb at h1 ⊢
    simp at h1 ⊢
    exact h1
theorem may_drt_no {v:Int} (h:N.fb v 1 = false):mayD v = false:=by
  unfold mayD
  rw [h]
  unfold N.may N.mb
  cases N.fb v 2 <;> simp
theorem acc_bits {v:Int} (hl:Lf v):N.fb (acc v) 1 = N.fb v 1∧N.fb (acc v) 2 = N.fb v 2∧N.fb (acc v) 4 = N.fb v 4∧N.fb (acc v) 8 = N.fb v 8∧N.fb (acc v) 16 = true∧N.fb (acc v) 32 = N.fb v 32∧acc v / 256 = v / 256:=by
  have h:=lf_at hl
  have hr:=N.lo_range (N.fb v 1) (N.fb v 2) (N.fb v 4) (N.fb v 8) true (N.fb v 32)
  have q:=N.fb_word (N.fb v 1) (N.fb v 2) (N.fb v 4) (N.fb v 8) true (N.fb v 32) (v / 256) h.1 h.2
  refine ⟨q.1,q.2.1,q.2.2.1,q.2.2.2.1,q.2.2.2.2.1,q.2.2.2.2.2, ?_⟩
  unfold acc
  omega
theorem drt_bits {v:Int} (hl:Lf v):N.fb (drt v) 1 = N.fb v 1∧N.fb (drt v) 2 = N.fb v 2∧N.fb (drt v) 4 = N.fb v 4∧N.fb (drt v) 8 = N.fb v 8∧N.fb (drt v) 16 = N.fb v 16∧N.fb (drt v) 32 = true∧drt v / 256 = v / 256:=by
  have h:=lf_at hl
  have hr:=N.lo_range (N.fb v 1) (N.fb v 2) (N.fb v 4) (N.fb v 8) (N.fb v 16) true
  have q:=N.fb_word (N.fb v 1) (N.fb v 2) (N.fb v 4) (N.fb v 8) (N.fb v 16) true (v / 256) h.1 h.2
  refine ⟨q.1,q.2.1,q.2.2.1,q.2.2.2.1,q.2.2.2.2.1,q.2.2.2.2.2, ?_⟩
  unfold drt
  omega
end
def acL (c t:Nat) (a r pg:Int) (wr:Bool):List Value:=[.pointer (some ⟨c,0,none⟩),.pointer (some ⟨t,0,none⟩),.int .i64 a,.int .i64 r,.int .i64 pg,.bool wr]
theorem Tryz.sizeT:(Tryz.prog.info? 67).map (·.size) = some 6:=by kernel_rfl
theorem Tryz.sizeG:(Tryz.prog.info? 44).map (·.size) = some 5:=by kernel_rfl
theorem Tryz.sizeA:(Tryz.prog.info? 93).map (·.size) = some 6:=by kernel_rfl
theorem res_tg {fn : Func} {p q : Tmp} (h : fn.results = #[.cell p 67, .cell q 44]) {tmps : Array Value} {w : World} {r s : Nat} {A B : Array Value} (hA : A.size = 6) (hB : B.size = 5) (hp : tmps.getD p undef = .pointer (some ⟨r, 0, none⟩)) (hq : tmps.getD q undef = .pointer (some ⟨s, 0, none⟩)) (hb : C.Blk w r 67 A.toList) (hc : C.Blk w s 44 B.toList) :
    (results fn tmps).run Tryz.prog w = .ok (.tuple #[.agg A,.agg B]) w:=by
  have hl:(loadVar 67 ⟨r,0,none⟩).run Tryz.prog w = .ok (.agg A) w:=run_loadVar_row w r 67 67 A (0,0) _ hb Tryz.underlying67 rfl (by rw [hA]; exact Tryz.sizeT)
  have hl2:(loadVar 44 ⟨s,0,none⟩).run Tryz.prog w = .ok (.agg B) w:=run_loadVar_row w s 44 44 B (0,0) _ hc Tryz.underlying44 rfl (by rw [hB]; exact Tryz.sizeG)
  simp only [results,h]
  simp only [Array.getD_eq_getD_getElem?] at hp hq
  simp [Result.andThen,hp,hq,asAddr,hl,hl2]
section
variable {Z:Nat→Prop} {w:World} {t c p:Nat} {h:Hw} {P:Par} {S:E.Sc × Us} {m:Nat→Option Nat}
theorem allowed_any (c t:Nat) (a r pg:Int) (wr:Bool) (x:T.Tr) (w:World):Calls Tryz.prog 82 #[.agg #[.pointer (some ⟨c,0,none⟩),.pointer (some ⟨t,0,none⟩),.int .i64 a,.int .i64 r,.int .i64 pg,.bool wr],.agg #[.int .i64 x.a,.int .i64 x.p,.int .i64 x.f,.bool x.r,.bool x.w,.bool x.d]] w fun e w'=>e = .returned (.bool (alw wr x))∧Below w.heap.size w w':=by
  obtain ⟨W,hW,HB,HX,HY⟩:∃ W,((w.alloc (.cells #[.pointer (some ⟨c,0,none⟩),.pointer (some ⟨t,0,none⟩),.int .i64 a,.int .i64 r,.int .i64 pg,.bool wr] 93)).alloc (.cells #[.int .i64 x.a,.int .i64 x.p,.int .i64 x.f,.bool x.r,.bool x.w,.bool x.d] 67)) = W∧Hid (Below w.heap.size w W)∧Hid (C.Blk W w.heap.size 93 (acL c t a r pg wr))∧Hid (C.Blk W (w.heap.size + 1) 67 (T.tc x)):=by
    have e1:(w.alloc (.cells #[.pointer (some ⟨c,0,none⟩),.pointer (some ⟨t,0,none⟩),.int .i64 a,.int .i64 r,.int .i64 pg,.bool wr] 93)).heap.size = w.heap.size + 1:=by simp
    refine ⟨_,rfl,below2 _ _ _,(C.blk_new w (acL c t a r pg wr) 93).of_eq (heap_alloc_old _ _ (by rw [e1]; omega)), ?_⟩
    have:=C.blk_new (w.alloc (.cells #[.pointer (some ⟨c,0,none⟩),.pointer (some ⟨t,0,none⟩),.int .i64 a,.int .i64 r,.int .i64 pg,.bool wr] 93)) (T.tc x) 67
    rw [e1] at this
    exact this
  have x5:=HX.out.cell 5
  have y3:=HY.out.cell 3
  have y4:=HY.out.cell 4
  simp only [acL,T.tc,List.getElem?_cons_zero,List.getElem?_cons_succ] at x5 y3 y4
  clear HX HY
  go_enter Tryz.func82,Tryz.ntmps82
  go_upto_region 1 with fail
  try rw [hW]
  clear hW
  cases wr
  all_goals
    go_wp2
    go_ret
    exact ⟨rfl,HB.out⟩
open Classical in
noncomputable def rtE (m:Nat→Option Nat) (r:Int):Int:=if isR m r then 0 else 2
open Classical in
theorem get0_q (K:Zq Z w t c p h P S m) (O:Ok P (fun r=>m r ≠ none) S) (hN:P.N * P.C ≤ h.n) (r:Int) (h0 : -9223372036854775808 ≤ r) (h1:r ≤ 9223372036854775807):∃ (b1 b2 b3 b4 b5 b6:Bool) (x:Int),Calls Tryz.prog 12 #[.pointer (some ⟨t,0,none⟩),.int .i64 r,.int .i64 0] w fun e w'=>e = .returned (.tuple #[.agg #[.bool b1,.bool b2,.bool b3,.bool b4,.bool b5,.bool b6,.int .i64 x],.int .i64 (rtE m r)])∧Zq Z w' t c p h P S m∧Ky Z w w':=by
  by_cases hr:isR m r
  · have e:rtE m r = 0:=by unfold rtE; rw [if_pos hr]
    obtain ⟨k,rfl,hk⟩:=hr
    rw [e]
    exact ⟨_,_,_,_,_,_,_,get_q K O hN hk (pg:=0) (by decide)⟩
  · have e:rtE m r = 2:=by unfold rtE; rw [if_neg hr]
    rw [e]
    refine ⟨false,false,false,false,false,false,0,K.call (R:=fun e=>e = .returned (.tuple #[.agg #[.bool false,.bool false,.bool false,.bool false,.bool false,.bool false,.int .i64 0],.int .i64 2])) (fun X tt=>(Get_arg tt.tv r 0 h0 h1 (fun q=>hr q.1)).mono ?_)⟩
    rintro e w' ⟨rfl,b⟩
    exact ⟨rfl,tt.tv.below b⟩
noncomputable def chkE (m:Nat→Option Nat) (a r:Int):Int:=if T.okA a = true then rtE m r else 2
theorem rt_two (m:Nat→Option Nat) (r:Int):rtE m r = 0 ∨ rtE m r = 2:=by
  unfold rtE
  split
  · exact Or.inl rfl
  · exact Or.inr rfl
theorem pk_err (a:Int) (l:List T.Tr):(T.pk a 0 l).2.2 = if T.okA a = true then 0 else 2:=by
  unfold T.pk
  rw [show T.okP 0 = true from by decide,Bool.and_true]
  cases T.okA a with
  | false=>rfl
  | true=>
    simp only [if_true]
    cases T.look a 0 l <;> rfl
set_option maxHeartbeats 1000000 in
theorem check_q (K:Zq Z w t c p h P S m) (O:Ok P (fun r=>m r ≠ none) S) (hN:P.N * P.C ≤ h.n) (a r:Int) (h0 : -9223372036854775808 ≤ r) (h1:r ≤ 9223372036854775807):Calls Tryz.prog 37 #[.pointer (some ⟨c,0,none⟩),.pointer (some ⟨t,0,none⟩),.int .i64 a,.int .i64 r] w fun e w'=>e = .returned (.int .i64 (chkE m a r))∧Zq Z w' t c p h P S m∧Ky Z w w':=by
  have CT:Hid (Calls _ _ _ _ _):=touch0_q K
  have HK:Hid (Zq Z w t c p h P S m):=K
  have CG:Hid (∀ W,Zq Z W t c p h P S m→∃ (b1 b2 b3 b4 b5 b6:Bool) (x:Int),Calls Tryz.prog 12 #[.pointer (some ⟨t,0,none⟩),.int .i64 r,.int .i64 0] W fun e w'=>e = .returned (.tuple #[.agg #[.bool b1,.bool b2,.bool b3,.bool b4,.bool b5,.bool b6,.int .i64 x],.int .i64 (rtE m r)])∧Zq Z w' t c p h P S m∧Ky Z W w'):=fun W KW=>get0_q KW O hN r h0 h1
  have HE:=pk_err a S.1.l
  have HR:=rt_two m r
  have HU:chkE m a r = if T.okA a = true then rtE m r else 2:=rfl
  have CP:Hid (∀ W,Zq Z W t c p h P S m→∃ pt,W.cell? ⟨c,1,none⟩ = some (.pointer (some ⟨pt,0,none⟩))∧Calls Tryz.prog 77 #[.pointer (some ⟨pt,0,none⟩),.int .i64 a,.int .i64 0] W fun e w'=>e = .returned (.tuple #[.agg #[.int .i64 (T.pk a 0 S.1.l).1.a,.int .i64 (T.pk a 0 S.1.l).1.p,.int .i64 (T.pk a 0 S.1.l).1.f,.bool (T.pk a 0 S.1.l).1.r,.bool (T.pk a 0 S.1.l).1.w,.bool (T.pk a 0 S.1.l).1.d],.bool (T.pk a 0 S.1.l).2.1,.int .i64 (if T.okA a = true then 0 else 2)])∧Below W.heap.size W w'):=fun W KW=>by
    obtain ⟨pt,hpt⟩:=KW.pt
    refine ⟨pt,hpt, ?_⟩
    rw [← HE]
    exact peek_q KW hpt a 0
  rw [HU]
  clear K HE HU
  generalize (T.pk a 0 S.1.l).1 = y at *
  generalize (T.pk a 0 S.1.l).2.1 = z at *
  cases ha:T.okA a
  case' false=>
    rw [ha] at CP
    simp only [Bool.false_eq_true,if_false] at CP ⊢
  case' true=>
    rw [ha] at CP
    simp only [if_true] at CP ⊢
  all_goals
    clear ha
    rcases HR with hR | hR
    all_goals
      rw [hR] at CG
      try rw [hR]
      clear hR
      go_enter Tryz.func37,Tryz.ntmps37
      go_wp2_with fail
      refine CT.out.mono ?_
      rintro e w1 ⟨rfl,hK1,hy1⟩
      have K1:Hid (Zq Z (w1.alloc (.cells #[.bool false,.bool false] 42)) t c p h P S m∧Ky Z w (w1.alloc (.cells #[.bool false,.bool false] 42))):=⟨hK1.below ((Below.refl _ _).alloc (Nat.le_refl _) _),hy1.trans (Ky.of_below ((Below.refl _ _).alloc (Nat.le_refl _) _) hK1.lt)⟩
      obtain ⟨b1,b2,b3,b4,b5,b6,x,CG1⟩:=CG.out _ K1.out.1
      have CG2:Hid (Calls _ _ _ _ _):=CG1
      clear CT hK1 hy1 CG CG1
      go_wp2_with fail
      refine CG2.out.mono ?_
      rintro e w2 ⟨rfl,hK2,hy2⟩
      have K2:Hid (Zq Z (w2.alloc (.cells #[.bool b1,.bool b2,.bool b3,.bool b4,.bool b5,.bool b6,.int .i64 x] 32)) t c p h P S m∧Ky Z w (w2.alloc (.cells #[.bool b1,.bool b2,.bool b3,.bool b4,.bool b5,.bool b6,.int .i64 x] 32))):=⟨hK2.below ((Below.refl _ _).alloc (Nat.le_refl _) _),(K1.out.2.trans hy2).trans (Ky.of_below ((Below.refl _ _).alloc (Nat.le_refl _) _) hK2.lt)⟩
      obtain ⟨pt,hpt,CP1⟩:=CP.out _ K2.out.1
      have CP2:Hid (Calls _ _ _ _ _):=CP1
      clear hK2 hy2 CG2 K1 CP CP1
      go_wp2_with fail
      refine CP2.out.mono ?_
      rintro e w3 ⟨rfl,hb⟩
      have K3:Hid (Zq Z (w3.alloc (.cells #[.int .i64 y.a,.int .i64 y.p,.int .i64 y.f,.bool y.r,.bool y.w,.bool y.d] 67)) t c p h P S m∧Ky Z w (w3.alloc (.cells #[.int .i64 y.a,.int .i64 y.p,.int .i64 y.f,.bool y.r,.bool y.w,.bool y.d] 67))):=⟨(K2.out.1.below hb).below ((Below.refl _ _).alloc (Nat.le_refl _) _),(K2.out.2.trans (Ky.of_below hb K2.out.1.lt)).trans (Ky.of_below ((Below.refl _ _).alloc (Nat.le_refl _) _) (K2.out.1.below hb).lt)⟩
      clear hb K2 CP2 hpt
      go_wp2
      go_ret
      exact ⟨rfl,K3.out⟩
end
structure Mq (Z Q:Nat→Prop) (w0 W:World) (t c p:Nat) (h:Hw) (P:Par) (S:E.Sc × Us) (m:Nat→Option Nat):Prop where
  q:Zq Q W t c p h P S m
  zq:∀ k,Z k→Q k
  lo:∀ k,Z k→k < w0.heap.size
  ky:Ky Z w0 W
structure Bb (Q:Nat→Prop) (w0 W:World) (b:Nat) (ty:TypeId) (L:List Value):Prop where
  bk:C.Blk W b ty L
  qb:Q b
  hb:w0.heap.size ≤ b
section
variable {Z Q Q' : Nat→Prop} {w w0 W W' : World} {t c p:Nat} {h:Hw} {P:Par} {S S' : E.Sc × Us} {m m' : Nat→Option Nat} {b b' : Nat} {ty ty' : TypeId} {L L' : List Value}
theorem Mq.start (K:Zq Z w t c p h P S m):Mq Z Z w w t c p h P S m:=⟨K,fun _ z=>z,K.lt,Ky.refl _ _⟩
theorem Mq.turn (M:Mq Z Q w0 W t c p h P S m) (K:Zq Q W' t c p h P S' m') (k:Ky Q W W'):Mq Z Q w0 W' t c p h P S' m':=⟨K,M.zq,M.lo,M.ky.trans (k.less M.zq)⟩
theorem Mq.below (M:Mq Z Q w0 W t c p h P S m) (b:Below W.heap.size W W'):Mq Z Q w0 W' t c p h P S m:=M.turn (M.q.below b) (Ky.of_below b M.q.lt)
theorem Bb.ky (B:Bb Q w0 W b ty L) (k:Ky Q W W'):Bb Q w0 W' b ty L:=⟨B.bk.of_eq (k.block b B.qb),B.qb,B.hb⟩
theorem Bb.wide (B:Bb Q w0 W b ty L) (hq:∀ k,Q k→Q' k):Bb Q' w0 W b ty L:=⟨B.bk,hq _ B.qb,B.hb⟩
theorem Bb.below (B:Bb Q w0 W b ty L) (k:Below W.heap.size W W'):Bb Q w0 W' b ty L:=⟨B.bk.of_eq (k.block b B.bk.lt),B.qb,B.hb⟩
theorem Mq.box (M:Mq Z Q w0 W t c p h P S m) (ty:TypeId) (L:List Value):∃ Q',(∀ k,Q k→Q' k)∧Mq Z Q' w0 (W.alloc (.cells L.toArray ty)) t c p h P S m∧Bb Q' w0 (W.alloc (.cells L.toArray ty)) W.heap.size ty L∧Below W.heap.size W (W.alloc (.cells L.toArray ty)):=by
  have b:Below W.heap.size W (W.alloc (.cells L.toArray ty)):=(Below.refl _ _).alloc (Nat.le_refl _) _
  exact ⟨fun k=>Q k ∨ k = W.heap.size,fun _=>Or.inl,⟨M.q.box _,fun k hk=>Or.inl (M.zq k hk),M.lo,M.ky.trans ((Ky.of_below b M.q.lt).less M.zq)⟩,⟨C.blk_new W L ty,Or.inr rfl,M.ky.size⟩,b⟩
theorem Mq.set (M:Mq Z Q w0 W t c p h P S m) (B:Bb Q w0 W b ty L) (A:Array Value) (hA:A.size = L.length):W.there b 0 A.size∧Mq Z Q w0 (W.setCells b 0 A.toList) t c p h P S m∧Bb Q w0 (W.setCells b 0 A.toList) b ty A.toList∧∀ b' ty' L',b' ≠ b→Bb Q w0 W b' ty' L'→Bb Q w0 (W.setCells b 0 A.toList) b' ty' L':=by
  have g:W.grownBy (W.setCells b 0 A.toList) (some b):=C.grown_setCells b A.toList 0 W
  have x:=B.bk.whole A hA
  have hn:¬ Z b:=fun z=>by have:=M.lo b z; have:=B.hb; omega
  exact ⟨x.1,⟨M.q.wrote B.qb g,M.zq,M.lo,M.ky.wrote (fun k hk=>M.q.lt k (M.zq k hk)) hn g⟩,⟨x.2,B.qb,B.hb⟩,fun b' ty' L' hne B'=>⟨B'.bk.of_eq (g.block b' B'.bk.lt (C.some_ne hne)),B'.qb,B'.hb⟩⟩
theorem Mq.put (M:Mq Z Q w0 W t c p h P S m) (B:Bb Q w0 W b ty L) (i:Nat) (v:Value):Mq Z Q w0 (W.setCell ⟨b,i,none⟩ v) t c p h P S m∧Bb Q w0 (W.setCell ⟨b,i,none⟩ v) b ty (L.set i v)∧∀ b' ty' L',b' ≠ b→Bb Q w0 W b' ty' L'→Bb Q w0 (W.setCell ⟨b,i,none⟩ v) b' ty' L':=by
  have g:W.grownBy (W.setCell ⟨b,i,none⟩ v) (some b):=C.grown_setCell' W b i v
  have hn:¬ Z b:=fun z=>by have:=M.lo b z; have:=B.hb; omega
  exact ⟨⟨M.q.wrote B.qb g,M.zq,M.lo,M.ky.wrote (fun k hk=>M.q.lt k (M.zq k hk)) hn g⟩,⟨B.bk.set i v,B.qb,B.hb⟩,fun b' ty' L' hne B'=>⟨B'.bk.of_eq (g.block b' B'.bk.lt (C.some_ne hne)),B'.qb,B'.hb⟩⟩
theorem Mq.fin (M:Mq Z Q w0 W t c p h P S m):Zq Z W t c p h P S m∧Ky Z w0 W:=⟨M.q.less M.zq,M.ky⟩
theorem Mq.box3 (K:Zq Z w t c p h P S m) (L1 L2 L3:List Value) (t1 t2 t3:TypeId):∃ Q,Mq Z Q w (((w.alloc (.cells L1.toArray t1)).alloc (.cells L2.toArray t2)).alloc (.cells L3.toArray t3)) t c p h P S m∧Bb Q w (((w.alloc (.cells L1.toArray t1)).alloc (.cells L2.toArray t2)).alloc (.cells L3.toArray t3)) w.heap.size t1 L1∧Bb Q w (((w.alloc (.cells L1.toArray t1)).alloc (.cells L2.toArray t2)).alloc (.cells L3.toArray t3)) (w.heap.size + 1) t2 L2∧Bb Q w (((w.alloc (.cells L1.toArray t1)).alloc (.cells L2.toArray t2)).alloc (.cells L3.toArray t3)) (w.heap.size + 2) t3 L3:=by
  obtain ⟨Q1,q1,M1,B1,_⟩:=(Mq.start K).box t1 L1
  obtain ⟨Q2,q2,M2,B2,l2⟩:=M1.box t2 L2
  obtain ⟨Q3,q3,M3,B3,l3⟩:=M2.box t3 L3
  have e1:(w.alloc (.cells L1.toArray t1)).heap.size = w.heap.size + 1:=by simp
  have e2:((w.alloc (.cells L1.toArray t1)).alloc (.cells L2.toArray t2)).heap.size = w.heap.size + 2:=by simp
  rw [e1] at B2
  rw [e2] at B3
  exact ⟨Q3,M3,((B1.below l2).wide q2 |>.below l3).wide q3,(B2.below l3).wide q3,B3⟩
theorem Mq.box2 (K:Zq Z w t c p h P S m) (L1 L2:List Value) (t1 t2:TypeId):∃ Q,Mq Z Q w ((w.alloc (.cells L1.toArray t1)).alloc (.cells L2.toArray t2)) t c p h P S m∧Bb Q w ((w.alloc (.cells L1.toArray t1)).alloc (.cells L2.toArray t2)) w.heap.size t1 L1∧Bb Q w ((w.alloc (.cells L1.toArray t1)).alloc (.cells L2.toArray t2)) (w.heap.size + 1) t2 L2:=by
  obtain ⟨Q1,q1,M1,B1,_⟩:=(Mq.start K).box t1 L1
  obtain ⟨Q2,q2,M2,B2,l2⟩:=M1.box t2 L2
  have e1:(w.alloc (.cells L1.toArray t1)).heap.size = w.heap.size + 1:=by simp
  rw [e1] at B2
  exact ⟨Q2,M2,(B1.below l2).wide q2,B2⟩
end
def t0L:List Value:=[.int .i64 0,.int .i64 0,.int .i64 0,.bool false,.bool false,.bool false]
def g0L:List Value:=[.int .u64 0,.int .u8 0,.bool false,.bool false,.bool false]
section
variable {Z:Nat→Prop} {w:World} {t c p:Nat} {h:Hw} {P:Par} {S:E.Sc × Us} {m:Nat→Option Nat}
theorem ec_vals (v:Int):∃ b1 b2 b3 b4 b5 b6 a,(ec v).toArray = #[.bool b1,.bool b2,.bool b3,.bool b4,.bool b5,.bool b6,.int .i64 a]∧b1 = N.fb v 1∧b2 = N.fb v 2∧b3 = N.fb v 4∧b4 = N.fb v 8∧b5 = N.fb v 16∧b6 = N.fb v 32∧a = v / 256:=⟨_,_,_,_,_,_,_,rfl,rfl,rfl,rfl,rfl,rfl,rfl,rfl⟩
theorem one6:(#[.int .i64 0,.int .i64 0,.int .i64 0,.bool false,.bool false,.bool false]:Array Value).all (·.oneCell') = true:=by simp [Value.oneCell']
theorem one5 (y:Int) (b1 b2 b3:Bool):(#[.int .u64 0,.int .u8 y,.bool b1,.bool b2,.bool b3]:Array Value).all (·.oneCell') = true:=by simp [Value.oneCell']
theorem oneT (x:T.Tr):(#[.int .i64 x.a,.int .i64 x.p,.int .i64 x.f,.bool x.r,.bool x.w,.bool x.d]:Array Value).all (·.oneCell') = true:=by simp [Value.oneCell']
set_option maxHeartbeats 2000000 in
theorem mwalk_no (K : Zq Z w t c p h P S m) (O : Ok P (fun r => m r ≠ none) S) (hN : P.N * P.C ≤ h.n) (a : Int) {r pg : Nat} (hr : m r ≠ none) (hp : pg < 1048576) (wr : Bool) (hy : whyV (wd S.1.m) r pg wr ≠ 0) :
    Calls Tryz.prog 83 #[.agg #[.pointer (some ⟨c,0,none⟩),.pointer (some ⟨t,0,none⟩),.int .i64 a,.int .i64 (r:Nat),.int .i64 (pg:Nat),.bool wr]] w fun e w'=>e = .returned (.tuple #[.agg #[.int .i64 0,.int .i64 0,.int .i64 0,.bool false,.bool false,.bool false],.agg #[.int .u64 0,.int .u8 (whyV (wd S.1.m) r pg wr),.bool false,.bool false,.bool false]])∧Zq Z w' t c p h P (wkS h S.1 r pg,S.2) m∧Ky Z w w':=by
  obtain ⟨Q,M0,BA,BT,BG⟩:=Mq.box3 K (acL c t a r pg wr) t0L g0L 93 67 44
  have hl:=lf_may (O.word hr pg)
  have hno:hasP (wd S.1.m) r pg = false→whyV (wd S.1.m) r pg wr = 1:=fun q=>why_no q wr
  have hya:whyV (wd S.1.m) r pg wr = N.al (N.fb (pw (wd S.1.m) r pg) 1) (N.fb (pw (wd S.1.m) r pg) 2) (N.fb (pw (wd S.1.m) r pg) 4) (N.fb (pw (wd S.1.m) r pg) 8) wr:=rfl
  obtain ⟨b1,b2,b3,b4,b5,b6,v7,hec,hb1,hb2,hb3,hb4,hb5,hb6,hv7⟩:=ec_vals (pw (wd S.1.m) r pg)
  rw [← hb1, ← hb2, ← hb3, ← hb4, ← hb5, ← hb6, ← hv7] at hl
  rw [← hb1, ← hb2, ← hb3, ← hb4] at hya
  have CA:Hid (∀ W,Calls Tryz.prog 117 #[.agg #[.bool b1,.bool b2,.bool b3,.bool b4,.bool b5,.bool b6,.int .i64 v7],.bool wr] W fun e w'=>e = .returned (.tuple #[.int .u8 (whyV (wd S.1.m) r pg wr),.int .i64 0])∧Below W.heap.size W w'):=fun W=>by rw [hya]; exact N.Allows_ok b1 b2 b3 b4 b5 b6 v7 wr hl W
  have CW:=walk_q M0.q O hN hr hp
  rw [hec] at CW
  obtain ⟨W0,hW0⟩:∃ W0,(((w.alloc (.cells (acL c t a r pg wr).toArray 93)).alloc (.cells t0L.toArray 67)).alloc (.cells g0L.toArray 44)) = W0:=⟨_,rfl⟩
  rw [hW0] at M0 BA BT BG CW
  have HM0:Hid (Mq Z Q w W0 t c p h P S m):=M0
  have HCW:Hid (Calls _ _ _ _ _):=CW
  have HBB:Hid (Bb Q w W0 w.heap.size 93 (acL c t a r pg wr)∧Bb Q w W0 (w.heap.size + 1) 67 t0L∧Bb Q w W0 (w.heap.size + 2) 44 g0L):=⟨BA,BT,BG⟩
  have x1:=BA.bk.cell 1
  have x3:=BA.bk.cell 3
  have x4:=BA.bk.cell 4
  simp only [acL,List.getElem?_cons_zero,List.getElem?_cons_succ] at x1 x3 x4
  simp only [acL,t0L,g0L] at hW0
  clear K O hl hec hb1 hb2 hb3 hb4 hb5 hb6 hv7 hya M0 BA BT BG CW hp
  generalize whyV (wd S.1.m) r pg wr = y at *
  generalize hasP (wd S.1.m) r pg = hs at *
  generalize ((pla (wd S.1.m) r pg:Nat):Int) = yp at *
  generalize (wkS h S.1 r pg,S.2) = S1 at *
  generalize ((r:Nat):Int) = ri at *
  generalize ((pg:Nat):Int) = pi at *
  go_enter Tryz.func83,Tryz.ntmps83
  go_upto_region 1 with fail
  try rw [hW0]
  clear hW0
  go_wp2_with fail
  refine HCW.out.mono ?_
  rintro e w1 ⟨rfl,hK1,hy1⟩
  obtain ⟨Q1,hq1,M1,B4,l1⟩:=(HM0.out.turn hK1 hy1).box 32 [.bool b1,.bool b2,.bool b3,.bool b4,.bool b5,.bool b6,.int .i64 v7]
  have A1:=((HBB.out.1.ky hy1).below l1).wide hq1
  have T1:=((HBB.out.2.1.ky hy1).below l1).wide hq1
  have G1:=((HBB.out.2.2.ky hy1).below l1).wide hq1
  obtain ⟨W1,hW1⟩:∃ W1,w1.alloc (.cells ([.bool b1,.bool b2,.bool b3,.bool b4,.bool b5,.bool b6,.int .i64 v7]:List Value).toArray 32) = W1:=⟨_,rfl⟩
  rw [hW1] at M1 B4 A1 T1 G1
  have HM1:Hid (Mq Z Q1 w W1 t c p h P S1 m):=M1
  have H1:Hid (Bb Q1 w W1 w.heap.size 93 (acL c t a ri pi wr)∧Bb Q1 w W1 (w.heap.size + 1) 67 t0L∧Bb Q1 w W1 (w.heap.size + 2) 44 g0L∧Bb Q1 w W1 w1.heap.size 32 [.bool b1,.bool b2,.bool b3,.bool b4,.bool b5,.bool b6,.int .i64 v7]):=⟨A1,T1,G1,B4⟩
  have x5:=A1.bk.cell 5
  have z0:=B4.bk.cell 0
  have z1:=B4.bk.cell 1
  have z2:=B4.bk.cell 2
  have z3:=B4.bk.cell 3
  have z4:=B4.bk.cell 4
  have z5:=B4.bk.cell 5
  have z6:=B4.bk.cell 6
  simp only [acL,List.getElem?_cons_zero,List.getElem?_cons_succ] at x5 z0 z1 z2 z3 z4 z5 z6
  clear hK1 hy1 l1 A1 T1 G1 B4 M1 HCW HBB x1 x3 x4 HM0
  go_upto_region 2 with fail
  try rw [hW1]
  clear hW1
  go_wp2_with fail
  refine (CA.out _).mono ?_
  rintro e w2 ⟨rfl,hb2⟩
  have M2:=HM1.out.below hb2
  have T2:=H1.out.2.1.below hb2
  have G2:=H1.out.2.2.1.below hb2
  obtain ⟨AT,HAT⟩:∃ AT:Array Value,Hid (AT = #[.int .i64 0,.int .i64 0,.int .i64 0,.bool false,.bool false,.bool false]):=⟨_,rfl⟩
  obtain ⟨AG,HAG⟩:∃ AG:Array Value,Hid (AG = #[.int .u64 0,.int .u8 y,.bool false,.bool false,.bool false]):=⟨_,rfl⟩
  obtain ⟨tx,M3,T3,o3⟩:=M2.set T2 AT (by rw [HAT.out]; rfl)
  have G3:=o3 _ _ _ (by omega) G2
  obtain ⟨tg,M4,G4,o4⟩:=M3.set G3 AG (by rw [HAG.out]; rfl)
  have T4:=o4 _ _ _ (by omega) T3
  have HF:Hid _:=M4.fin
  have HTX:Hid _:=tx
  have HTG:Hid _:=tg
  have HR:Hid (_∧_):=(⟨T4.bk,G4.bk⟩:_∧_)
  clear hb2 M2 T2 G2 M3 T3 o3 G3 M4 G4 o4 T4 tx tg HM1 H1 CA x5 z0 z1 z2 z3 z4 z5 z6
  have hyn:(y != 0) = true:=by simp [hy]
  cases hs
  case' false=>
    obtain rfl:=hno rfl
  all_goals
    clear hno hy
    go_wp2_with (first
      | (refine wpList_store_mid rfl 67 (.tmp 2) (.tmp 36) rfl _ 0 AT rfl (congrArg Value.agg HAT.out.symm) HTX.out (by rw [HAT.out]; exact Tryz.sizeT) (by rw [HAT.out]; exact one6) ?_)
      | (refine wpList_store_mid rfl 44 (.tmp 3) (.tmp 38) rfl _ 0 AG rfl (congrArg Value.agg HAG.out.symm) HTG.out (by rw [HAG.out]; exact Tryz.sizeG) (by rw [HAG.out]; exact one5 _ _ _ _) ?_))
    exact bodyPost_ret (v:=.tuple #[.agg AT,.agg AG]) (res_tg rfl (by rw [HAT.out]; rfl) (by rw [HAG.out]; rfl) rfl rfl HR.out.1 HR.out.2) rfl ⟨by rw [HAT.out,HAG.out],HF.out⟩
end
end Go.Proofs.YtgljdbabagdhlaaGreat.Pg
