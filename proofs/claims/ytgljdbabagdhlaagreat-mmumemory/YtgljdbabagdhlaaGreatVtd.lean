/- What find, Place, Get, Set and Walk of package table give back and leave; no condition but those named. -/
import Derived.Test.YtgljdbabagdhlaaGreatVtc
import Derived.Test.YtgljdbabagdhlaaGreatVkd
import Derived.Test.YtgljdbabagdhlaaGreatVaa
import Derived.Shelf.Abstract
namespace Go.Proofs.YtgljdbabagdhlaaGreat.Pg
open P E Go.ChangeShapes Go.WideShapes Go.ChangeAt Go.RowKit
set_option linter.unusedVariables false
set_option maxRecDepth 8192
theorem Index_d {pg d l:Nat} (hp:pg < 1048576) (hd:d + l = 3) (w:World):Calls Tryz.prog 104 #[.int .i64 (pg:Nat),.int .i64 (l:Nat)] w fun e w'=>e = .returned (.tuple #[.int .i64 ((nu pg (d + 1) % 32:Nat):Int),.int .i64 0])∧w' = w:=by
  have h1:(pg:Int) < 1048576:=by omega
  rcases (show l = 0 ∨ l = 1 ∨ l = 2 ∨ l = 3 by omega) with rfl | rfl | rfl | rfl
  · obtain rfl:d = 3:=by omega
    have:=A.Index_0 (pg:Int) (by omega) h1 w
    rw [show ((pg:Int) % 32) = ((nu pg (3 + 1) % 32:Nat):Int) by simp [nu]] at this
    exact this
  · obtain rfl:d = 2:=by omega
    have:=A.Index_1 (pg:Int) (by omega) h1 w
    rw [show ((pg:Int) / 32 % 32) = ((nu pg (2 + 1) % 32:Nat):Int) by simp [nu]] at this
    exact this
  · obtain rfl:d = 1:=by omega
    have:=A.Index_2 (pg:Int) (by omega) h1 w
    rw [show ((pg:Int) / 1024 % 32) = ((nu pg (1 + 1) % 32:Nat):Int) by simp [nu]] at this
    exact this
  · obtain rfl:d = 0:=by omega
    have:=A.Index_3 (pg:Int) (by omega) h1 w
    rw [show ((pg:Int) / 32768 % 32) = ((nu pg (0 + 1) % 32:Nat):Int) by simp [nu]] at this
    exact this
def tan (W:Nat→Nat→Int) (r pg:Nat):Nat→List Nat
  | 0=>[]
  | d + 1=>tan W r pg d ++ (match tb W r d (nu pg d) with
    | some f=>[f * 256 + nu pg (d + 1) % 32 * 8]
    | none=>[])
theorem tan_some {W:Nat→Nat→Int} {r pg d f:Nat} (h:tb W r d (nu pg d) = some f):tan W r pg (d + 1) = tan W r pg d ++ [f * 256 + nu pg (d + 1) % 32 * 8]:=by rw [tan,h]
theorem tan_none {W:Nat→Nat→Int} {r pg d:Nat} (h:tb W r d (nu pg d) = none):tan W r pg (d + 1) = tan W r pg d:=by rw [tan,h,List.append_nil]
theorem tan_end {W:Nat→Nat→Int} {r pg d:Nat} (h:tb W r d (nu pg d) = none):∀ n,d + n ≤ 4→tan W r pg (d + n) = tan W r pg d∧(d + n < 4→tb W r (d + n) (nu pg (d + n)) = none)
  | 0,_=>⟨rfl,fun _=>h⟩
  | n + 1,hn=>by
    obtain ⟨h1,h2⟩:=tan_end h n (by omega)
    have h3:=h2 (by omega)
    refine ⟨by rw [← Nat.add_assoc,tan_none h3,h1],fun h4 => ?_⟩
    rw [← Nat.add_assoc]
    exact tb_none (by rw [nu_up pg (by omega)]; exact h3)
def ta (W:Nat→Nat→Int) (r pg:Nat):List Nat:=tan W r pg 4
def pla (W:Nat→Nat→Int) (r pg:Nat):Nat:=match tb W r 3 (pg / 32) with
  | some f=>f * 256 + pg % 32 * 8
  | none=>0
def hasP (W:Nat→Nat→Int) (r pg:Nat):Bool:=(tb W r 3 (pg / 32)).isSome
theorem fold_m {g:E.Sc→Nat→E.Sc} (hg:∀ s a,(g s a).m = s.m):∀ (l:List Nat) (s:E.Sc),(l.foldl g s).m = s.m
  | [],_=>rfl
  | a :: l,s=>by rw [List.foldl_cons,fold_m hg l,hg]
set_option maxHeartbeats 1000000 in
theorem find_ok {P : Par} (hP : P.Ok) {R : Nat → Prop} {S : E.Sc × Us} (K : Ok P R S) {h : Hw} (hN : P.N * P.C ≤ h.n) {r : Nat} (hr : R r) {w w1 : World} {X : Nat → Prop} {t c p : Nat} {m : Nat → Option Nat} (T : Tv w X t c p h P S m w1) {pg : Nat} (hp : pg < 1048576) {g : E.Sc → Nat → E.Sc} (hg : ∀ s a, (g s a).m = s.m) (fid : FuncId) (cap : Array Value) (hcf : ∀ (args : Array Value) (W : World), (callFunc fid args).run Tryz.prog W = .ok (.enter fid args) W)
    (HM:∀ w2 s a,a < h.n * 256→Tv w X t c p h P (s,S.2) m w2→Calls Tryz.prog fid (#[.int .u64 (a:Nat)] ++ cap) w2 fun e w'=>e = .returned (.tuple #[])∧Tv w X t c p h P (g s a,S.2) m w') :
    Calls Tryz.prog 61 #[.pointer (some ⟨t,0,none⟩),.int .i64 (r:Nat),.int .i64 (pg:Nat),.func (.func fid) #[] cap] w1 fun e w'=>e = .returned (.tuple #[.int .u64 (pla (wd S.1.m) r pg:Nat),.bool (hasP (wd S.1.m) r pg)])∧Tv w X t c p h P ((ta (wd S.1.m) r pg).foldl g S.1,S.2) m w':=by
  have HT:Hid (Tv w X t c p h P ((tan (wd S.1.m) r pg 0).foldl g S.1,S.2) m w1):=T
  have hn:=T.hw.n2
  have HMM:Hid (∀ w2 s a,a < h.n * 256→Tv w X t c p h P (s,S.2) m w2→Calls Tryz.prog fid (#[.int .u64 (a:Nat)] ++ cap) w2 fun e w'=>e = .returned (.tuple #[])∧Tv w X t c p h P (g s a,S.2) m w'):=HM
  have HR:Hid (tb (wd S.1.m) r 0 (nu pg 0) = some r):=tb_root _ _ hp
  clear T HM
  go_enter Tryz.func61,Tryz.ntmps61
  go_wp2_with fail
  go_loopw [10,11] (fun fr lv wr=>∃ d l f:Nat,d + l = 3∧fr = .int .i64 f∧lv = .int .i64 l∧tb (wd S.1.m) r d (nu pg d) = some f∧Tv w X t c p h P ((tan (wd S.1.m) r pg d).foldl g S.1,S.2) m wr) (fun _ lv _=>(D.iv lv).toNat)
  case atStart=>exact ⟨0,3,r,rfl,rfl,rfl,HR.out,HT.out⟩
  case round=>
    obtain ⟨d,l,f,hdl,rfl,rfl,hf,hT⟩:=hrel
    obtain ⟨hfn,hf4⟩:=K.lt hP hN hr (show d ≤ 3 by omega) hf
    have hi:nu pg (d + 1) % 32 < 32:=Nat.mod_lt _ (by decide)
    have CI:Hid (∀ W,Calls _ _ _ W _):=fun W=>Index_d hp hdl W
    have CP:Hid (∀ W,Calls _ _ _ W _):=fun W=>place_ok f (nu pg (d + 1) % 32) hf4 hi W
    have CM:Hid (Calls Tryz.prog fid (#[.int .u64 ((f * 256 + nu pg (d + 1) % 32 * 8:Nat):Int)] ++ cap) wr fun e w'=>e = .returned (.tuple #[])∧Tv w X t c p h P ((tan (wd S.1.m) r pg (d + 1)).foldl g S.1,S.2) m w'):=by
      have:=HMM.out wr _ (f * 256 + nu pg (d + 1) % 32 * 8) (by omega) hT
      rw [tan_some hf,List.foldl_append,List.foldl_cons,List.foldl_nil]
      exact this
    have HV:Hid (N.mayW (wd S.1.m f (nu pg (d + 1) % 32)) = true):=K.may hP hr (by omega) hf hi
    have CR:Hid (∀ w2,Tv w X t c p h P ((tan (wd S.1.m) r pg (d + 1)).foldl g S.1,S.2) m w2→Calls Tryz.prog 30 #[.pointer (some ⟨t,0,none⟩),.int .u64 ((f * 256 + nu pg (d + 1) % 32 * 8:Nat):Int)] w2 fun e w'=>e = .returned (.agg (ec (wd S.1.m f (nu pg (d + 1) % 32))).toArray)∧Below w2.heap.size w2 w'):=fun w2 h2=>by
      have e:=fold_m hg (tan (wd S.1.m) r pg (d + 1)) S.1
      have:=read_ok h2 (f:=f) (i:=nu pg (d + 1) % 32) hfn hi (by show N.mayW (wd ((tan (wd S.1.m) r pg (d + 1)).foldl g S.1).m _ _) = true; rw [e]; exact HV.out)
      rw [show ((tan (wd S.1.m) r pg (d + 1)).foldl g S.1,S.2).1.m = S.1.m from e] at this
      exact this
    have HPL:Hid (d = 3→pla (wd S.1.m) r pg = f * 256 + nu pg (d + 1) % 32 * 8∧hasP (wd S.1.m) r pg = true):=fun e=>by
      subst e
      unfold pla hasP
      rw [show tb (wd S.1.m) r 3 (pg / 32) = some f from hf]
      refine ⟨?_,rfl⟩
      show f * 256 + pg % 32 * 8 = f * 256 + pg / 32 ^ 0 % 32 * 8
      rw [Nat.pow_zero,Nat.div_one]
    have HNX:Hid (d < 3→(wd S.1.m f (nu pg (d + 1) % 32) = 0∧tb (wd S.1.m) r (d + 1) (nu pg (d + 1)) = none) ∨ ∃ q:Nat,wd S.1.m f (nu pg (d + 1) % 32) = 1 + 256 * (q:Int)∧q < 4096∧tb (wd S.1.m) r (d + 1) (nu pg (d + 1)) = some q):=fun h3=>by
      have e:=nu_at pg (show d < 4 by omega)
      rcases K.fo.wf r hr d _ f h3 hf _ hi with q | ⟨q,hq⟩
      · refine Or.inl ⟨q, ?_⟩
        have:=(K.fo.empty hr h3 hf hi).2 q
        rwa [e] at this
      · have:=(K.fo.next hr h3 hf hi).2 hq
        rw [e] at this
        exact Or.inr ⟨q,hq,(K.lt hP hN hr (show d + 1 ≤ 3 by omega) this).2,this⟩
    have hz:=(zero_of_info Tryz.infoN).1
    have HIN:Hid ((Tryz.prog.info? 32).map (·.size) = some 7):=(zero_of_info Tryz.infoN).2
    have HZS:Hid ((#[.bool false,.bool false,.bool false,.bool false,.bool false,.bool false,.int .i64 0]:Array Value).size = 7):=rfl
    generalize (#[.bool false,.bool false,.bool false,.bool false,.bool false,.bool false,.int .i64 0]:Array Value) = Z at *
    clear hT HT HR
    generalize nu pg (d + 1) % 32 = i at *
    generalize f * 256 + i * 8 = y at *
    by_cases h0:l = 0
    case' pos=>
      subst h0
      obtain rfl:d = 3:=by omega
      obtain ⟨e1,e2⟩:=HPL.out rfl
      go_wp2_with fail
      refine (CI.out _).mono ?_
      rintro e w' ⟨rfl,rfl⟩
      go_wp2_with fail
      refine (CP.out _).mono ?_
      rintro e w' ⟨rfl,rfl⟩
      go_wp2_with fail
      refine CM.out.mono ?_
      rintro e w2 ⟨rfl,hT2⟩
      have HT2:Hid (Tv w X t c p h P ((tan (wd S.1.m) r pg (3 + 1)).foldl g S.1,S.2) m w2):=hT2
      clear hT2
      go_wp2
      go_ret2
      exact ⟨by rw [e1,e2]; rfl,HT2.out⟩
    case' neg=>
      have hl0:0 < l:=by omega
      have hl3:l ≤ 3:=by omega
      have hli:¬ (l:Int) = 0:=by omega
      go_wp2_with fail
      refine (CI.out _).mono ?_
      rintro e w' ⟨rfl,rfl⟩
      go_wp2_with fail
      refine (CP.out _).mono ?_
      rintro e w' ⟨rfl,rfl⟩
      go_wp2_with fail
      refine CM.out.mono ?_
      rintro e w2 ⟨rfl,hT2⟩
      have HT2:Hid (Tv w X t c p h P ((tan (wd S.1.m) r pg (d + 1)).foldl g S.1,S.2) m w2):=hT2
      clear hT2
      go_wp2_with fail
      refine (CR.out _ HT2.out).mono ?_
      rintro e w3 ⟨rfl,hb⟩
      have HT3:Hid (Tv w X t c p h P ((tan (wd S.1.m) r pg (d + 1)).foldl g S.1,S.2) m w3):=HT2.out.below hb
      clear hb HT2
      have HA1:Hid ((ec (wd S.1.m f i)).toArray.toList = ec (wd S.1.m f i)):=rfl
      have HA2:Hid ((ec (wd S.1.m f i)).toArray.size = 7):=rfl
      have HA3:Hid ((ec (wd S.1.m f i)).toArray.all (·.oneCell') = true):=by unfold Hid; simp [ec,Value.oneCell']
      generalize (ec (wd S.1.m f i)).toArray = A at *
      have hx1:=(box_new w3 32 Z).whole A (by rw [Array.length_toList,HA2.out,HZS.out])
      have c0:=hx1.2.cell 0
      have c6:=hx1.2.cell 6
      rw [HA1.out] at c0 c6
      have HX1:Hid ((w3.alloc (.cells Z 32)).there w3.heap.size 0 A.size):=hx1.1
      have HT4:Hid (Tv w X t c p h P ((tan (wd S.1.m) r pg (d + 1)).foldl g S.1,S.2) m ((w3.alloc (.cells Z 32)).setCells w3.heap.size 0 A.toList)):=HT3.out.below (below_sets ((Below.refl _ _).alloc (Nat.le_refl _) _) _ (Nat.le_refl _) _ _)
      simp only [ec,List.getElem?_cons_zero,List.getElem?_cons_succ] at c0 c6
      rw [← show ec (wd S.1.m f i) = [.bool (N.fb (wd S.1.m f i) 1),.bool (N.fb (wd S.1.m f i) 2),.bool (N.fb (wd S.1.m f i) 4),.bool (N.fb (wd S.1.m f i) 8),.bool (N.fb (wd S.1.m f i) 16),.bool (N.fb (wd S.1.m f i) 32),.int .i64 (wd S.1.m f i / 256)] from rfl, ← HA1.out] at c0 c6
      clear hx1 HT3
      rcases HNX.out (by omega) with ⟨hv,hno⟩ | ⟨q,hv,hq4,hq⟩
      case' inl=>
        rw [hv,fb_nought.2.1] at c0
        have HNO:Hid (tb (wd S.1.m) r (d + 1) (nu pg (d + 1)) = none):=hno
        clear hv hno c6
        go_wp2_with (refine wpList_store_mid rfl 32 (.tmp 15) (.tmp 36) rfl _ 0 A rfl rfl HX1.out (by rw [HA2.out]; exact HIN.out) HA3.out ?_)
        go_ret2
        obtain ⟨n,hn'⟩:∃ n,d + 1 + n = 4:=⟨l,by omega⟩
        obtain ⟨m,hm'⟩:∃ m,d + 1 + m = 3:=⟨l - 1,by omega⟩
        have e1:=(tan_end HNO.out n (by omega)).1
        have e2:=(tan_end HNO.out m (by omega)).2 (by omega)
        rw [hn'] at e1
        rw [hm'] at e2
        have e3:pla (wd S.1.m) r pg = 0∧hasP (wd S.1.m) r pg = false:=by
          unfold pla hasP
          rw [show tb (wd S.1.m) r 3 (pg / 32) = none from e2]
          exact ⟨rfl,rfl⟩
        rw [e3.1,e3.2,ta,e1]
        exact ⟨rfl,HT4.out⟩
      case' inr=>
        have hfl:=fb_link hv hq4
        rw [hfl.2.1] at c0
        rw [hfl.2.2] at c6
        have HQ:Hid (tb (wd S.1.m) r (d + 1) (nu pg (d + 1)) = some q):=hq
        clear hv hfl hq
        go_wp2_with (refine wpList_store_mid rfl 32 (.tmp 15) (.tmp 36) rfl _ 0 A rfl rfl HX1.out (by rw [HA2.out]; exact HIN.out) HA3.out ?_)
        go_roundw
        case rel=>exact ⟨d + 1,l - 1,q,by omega,rfl,by congr 1; omega,HQ.out,HT4.out⟩
        case measure=>simp [D.iv]; omega
def okRP (m:Nat→Option Nat) (r pg:Int):Prop:=isR m r∧0 ≤ pg∧pg < 1048576
theorem checkPage_arg {w w1:World} {X:Nat→Prop} {t c p:Nat} {h:Hw} {P:Par} {S:E.Sc × Us} {m:Nat→Option Nat} (K:Tv w X t c p h P S m w1) (r pg:Int) (h0 : -9223372036854775808 ≤ r) (h1:r ≤ 9223372036854775807) (hr:¬ okRP m r pg):Calls Tryz.prog 60 #[.pointer (some ⟨t,0,none⟩),.int .i64 r,.int .i64 pg] w1 fun e w'=>e = .returned (.int .i64 2)∧Below w1.heap.size w1 w':=by
  by_cases hR:isR m r
  · obtain ⟨k,rfl,hk⟩:=hR
    have HC:Hid (Calls _ _ _ _ _):=check_ok K k hk
    have CT:Hid (∀ W,Calls _ _ _ W _):=fun W=>A.Table_no pg 3 (fun q=>hr ⟨⟨k,rfl,hk⟩,q.1,q.2.1⟩) W
    clear K hr
    go_enter Tryz.func60,Tryz.ntmps60
    go_wp2_with (first
      | (go_at_call 54; refine HC.out.mono ?_; rintro e w2 ⟨rfl,hb⟩; have HB:Hid (Below w1.heap.size w1 w2):=hb; clear hb)
      | (go_at_call 103; refine (CT.out _).mono ?_; rintro e w' ⟨rfl,rfl⟩))
    go_ret
    exact ⟨rfl,HB.out⟩
  · have HC:Hid (Calls _ _ _ _ _):=check_arg K r h0 h1 hR
    clear K hr hR
    go_enter Tryz.func60,Tryz.ntmps60
    go_wp2_with (go_at_call 54; refine HC.out.mono ?_; rintro e w2 ⟨rfl,hb⟩; have HB:Hid (Below w1.heap.size w1 w2):=hb; clear hb)
    go_ret
    exact ⟨rfl,HB.out⟩
theorem checkPage_ok {w w1:World} {X:Nat→Prop} {t c p:Nat} {h:Hw} {P:Par} {S:E.Sc × Us} {m:Nat→Option Nat} (K:Tv w X t c p h P S m w1) (r pg:Nat) (hr:m r ≠ none) (hp:pg < 1048576):Calls Tryz.prog 60 #[.pointer (some ⟨t,0,none⟩),.int .i64 (r:Nat),.int .i64 (pg:Nat)] w1 fun e w'=>e = .returned (.int .i64 0)∧Below w1.heap.size w1 w':=by
  have HC:Hid (Calls _ _ _ _ _):=check_ok K r hr
  have CT:Hid (∀ W,Calls _ _ _ W _):=fun W=>A.Table_3 (pg:Int) (by omega) (by omega) W
  clear K
  generalize (pg:Int) / 1048576 = x at *
  go_enter Tryz.func60,Tryz.ntmps60
  go_wp2_with (first
    | (go_at_call 54; refine HC.out.mono ?_; rintro e w2 ⟨rfl,hb⟩; have HB:Hid (Below w1.heap.size w1 w2):=hb; clear hb)
    | (go_at_call 103; refine (CT.out _).mono ?_; rintro e w' ⟨rfl,rfl⟩))
  go_ret
  exact ⟨rfl,HB.out⟩
theorem Place_arg {w w1:World} {X:Nat→Prop} {t c p:Nat} {h:Hw} {P:Par} {S:E.Sc × Us} {m:Nat→Option Nat} (K:Tv w X t c p h P S m w1) (r pg:Int) (h0 : -9223372036854775808 ≤ r) (h1:r ≤ 9223372036854775807) (hr:¬ okRP m r pg):Calls Tryz.prog 23 #[.pointer (some ⟨t,0,none⟩),.int .i64 r,.int .i64 pg] w1 fun e w'=>e = .returned (.tuple #[.int .u64 0,.bool false,.int .i64 2])∧Below w1.heap.size w1 w':=by
  have HC:Hid (Calls _ _ _ _ _):=checkPage_arg K r pg h0 h1 hr
  clear K hr
  go_enter Tryz.func23,Tryz.ntmps23
  go_wp2_with (go_at_call 60; refine HC.out.mono ?_; rintro e w2 ⟨rfl,hb⟩; have HB:Hid (Below w1.heap.size w1 w2):=hb; clear hb)
  refine bodyPost_ret (v:=.tuple #[.int .u64 0,.bool false,.int .i64 2]) (by simp [results,Tryz.results23,go_sem]) rfl ⟨rfl,HB.out⟩
theorem enters_p:∀ (args:Array Value) (W:World),(callFunc 62 args).run Tryz.prog W = .ok (.enter 62 args) W:=fun args W=>Go.Proofs.enters_of Tryz.func62 (by kernel_rfl) rfl args W
theorem enters_w:∀ (args:Array Value) (W:World),(callFunc 145 args).run Tryz.prog W = .ok (.enter 145 args) W:=fun args W=>Go.Proofs.enters_of Tryz.func145 (by kernel_rfl) rfl args W
theorem met_p (a:Int) (w:World):Calls Tryz.prog 62 #[.int .u64 a] w fun e w'=>e = .returned (.tuple #[])∧w' = w:=by
  go_enter Tryz.func62,Tryz.ntmps62
  go_wp2
  go_end0
  exact ⟨rfl,rfl⟩
theorem fold_id {α β:Type}:∀ (l:List β) (s:α),l.foldl (fun s _=>s) s = s
  | [],_=>rfl
  | _ :: l,s=>fold_id l s
theorem Place_ok {P : Par} (hP : P.Ok) {R : Nat → Prop} {S : E.Sc × Us} (K : Ok P R S) {h : Hw} (hN : P.N * P.C ≤ h.n) {r : Nat} (hr : R r) {w w1 : World} {X : Nat → Prop} {t c p : Nat} {m : Nat → Option Nat} (T : Tv w X t c p h P S m w1) (hm : m r ≠ none) {pg : Nat} (hp : pg < 1048576) :
    Calls Tryz.prog 23 #[.pointer (some ⟨t,0,none⟩),.int .i64 (r:Nat),.int .i64 (pg:Nat)] w1 fun e w'=>e = .returned (.tuple #[.int .u64 (pla (wd S.1.m) r pg:Nat),.bool (hasP (wd S.1.m) r pg),.int .i64 0])∧Tv w X t c p h P S m w':=by
  have HC:Hid (Calls _ _ _ _ _):=checkPage_ok T r pg hm hp
  have HT:Hid (Tv w X t c p h P S m w1):=T
  have CF:Hid (∀ w2,Tv w X t c p h P S m w2→Calls Tryz.prog 61 #[.pointer (some ⟨t,0,none⟩),.int .i64 (r:Nat),.int .i64 (pg:Nat),.func (.func 62) #[] #[]] w2 fun e w'=>e = .returned (.tuple #[.int .u64 (pla (wd S.1.m) r pg:Nat),.bool (hasP (wd S.1.m) r pg)])∧Tv w X t c p h P S m w'):=fun w2 h2=>by
    have:=find_ok hP K hN hr h2 hp (g:=fun s _=>s) (fun _ _=>rfl) 62 #[] enters_p (fun w3 s a _ h3=>by
      refine (met_p a w3).mono ?_
      rintro e w' ⟨rfl,rfl⟩
      exact ⟨rfl,h3⟩)
    rw [fold_id] at this
    exact this
  clear T K
  generalize pla (wd S.1.m) r pg = y at *
  generalize hasP (wd S.1.m) r pg = b at *
  go_enter Tryz.func23,Tryz.ntmps23
  go_wp2_with fail
  refine HC.out.mono ?_
  rintro e w2 ⟨rfl,hb⟩
  have HT2:Hid (Tv w X t c p h P S m w2):=HT.out.below hb
  clear hb HT
  go_wp2_with (go_at_call 61; refine (CF.out _ HT2.out).mono ?_; rintro e w3 ⟨rfl,h3⟩; have HT3:Hid (Tv w X t c p h P S m w3):=h3; clear h3)
  refine bodyPost_ret (v:=.tuple #[.int .u64 (y:Nat),.bool b,.int .i64 0]) (by simp [results,Tryz.results23,go_sem]) rfl ⟨rfl,HT3.out⟩
structure Loc (lo hi:Nat) (w w' : World):Prop where
  os:w'.os = w.os
  tape:w'.tape = w.tape
  output:w'.output = w.output
  size:w.heap.size ≤ w'.heap.size
  block:∀ k,k < w.heap.size→(k < lo ∨ hi ≤ k)→w'.heap[k]? = w.heap[k]?
theorem Loc.refl (lo hi:Nat) (w:World):Loc lo hi w w:=⟨rfl,rfl,rfl,Nat.le_refl _,fun _ _ _=>rfl⟩
theorem Loc.sets {lo hi:Nat} {w w' : World} (h:Loc lo hi w w') (g:Nat) (h1:lo ≤ g) (h2:g < hi) (k:Nat) (vs:List Value):Loc lo hi w (w'.setCells g k vs):=by
  have q:=C.grown_setCells g vs k w'
  exact ⟨q.os.trans h.os,q.tape.trans h.tape,q.output.trans h.output,Nat.le_trans h.size q.size,fun i hi' hn=>(sets_other g i (by omega) vs k w').trans (h.block i hi' hn)⟩
theorem Tv.loc {w w1 wb w2 w3:World} {X X1:Nat→Prop} {t c p:Nat} {h:Hw} {P:Par} {S:E.Sc × Us} {m:Nat→Option Nat} (k1:C.Kp X X1 w w1) (hl:∀ k,X1 k→k < w1.heap.size) (bb:Below w1.heap.size w1 wb) (T:Tv wb X1 t c p h P S m w2) (L:Loc w1.heap.size wb.heap.size w2 w3):Tv w X t c p h P S m w3:=by
  obtain ⟨X2,t2,k2⟩:=T
  have ft:∀ k,X2 k→k < w1.heap.size ∨ wb.heap.size ≤ k:=fun k hk=>by
    rcases k2.new k hk with q | q
    · exact Or.inl (hl k q)
    · exact Or.inr q
  refine ⟨X2,t2.of_eq L.size (fun k hk=>L.block k (t2.lt k hk) (ft k hk)),⟨?_, ?_, ?_, ?_,fun k hk hn => ?_,fun k hk => ?_⟩⟩
  · exact ((L.os.trans k2.os).trans bb.os).trans k1.os
  · exact ((L.tape.trans k2.tape).trans bb.tape).trans k1.tape
  · exact ((L.output.trans k2.output).trans bb.output).trans k1.output
  · exact Nat.le_trans k1.size (Nat.le_trans bb.size (Nat.le_trans k2.size L.size))
  · have h1:k < w1.heap.size:=Nat.lt_of_lt_of_le hk k1.size
    have h2:k < wb.heap.size:=Nat.lt_of_lt_of_le h1 bb.size
    have n1:¬ X1 k:=fun q=>by
      rcases k1.new k q with q | q
      · exact hn q
      · omega
    rw [L.block k (Nat.lt_of_lt_of_le h2 k2.size) (Or.inl h1),k2.block k h2 n1,bb.block k h1,k1.block k hk hn]
  · rcases k2.new k hk with q | q
    · exact k1.new k q
    · exact Or.inr (Nat.le_trans k1.size (Nat.le_trans bb.size q))
theorem hasP_t {W:Nat→Nat→Int} {r pg:Nat} (h:hasP W r pg = true):∃ f,tb W r 3 (pg / 32) = some f∧pla W r pg = f * 256 + pg % 32 * 8∧pw W r pg = W f (pg % 32):=by
  unfold hasP at h
  cases q:tb W r 3 (pg / 32) with
  | none=>rw [q] at h; cases h
  | some f=>exact ⟨f,rfl,by unfold pla; rw [q],pw_some q⟩
theorem hasP_f {W:Nat→Nat→Int} {r pg:Nat} (h:hasP W r pg = false):tb W r 3 (pg / 32) = none∧pla W r pg = 0∧pw W r pg = 0:=by
  unfold hasP at h
  cases q:tb W r 3 (pg / 32) with
  | none=>exact ⟨rfl,by unfold pla; rw [q],pw_none q⟩
  | some f=>rw [q] at h; cases h
theorem box_eq (w1 w2:World) (Z:Array Value) (hZ:Z.size = 7) (b:Below (w1.heap.size + 1) (w1.alloc (.cells Z 32)) w2) (A:Array Value) (hA:A.size = 7):w2.there w1.heap.size 0 A.size∧C.Blk (w2.setCells w1.heap.size 0 A.toList) w1.heap.size 32 A.toList∧(∀ w3,Below w2.heap.size w2 w3→w3.there w1.heap.size 0 A.size∧C.Blk (w3.setCells w1.heap.size 0 A.toList) w1.heap.size 32 A.toList):=by
  have h1:=(box_new w1 32 Z).of_eq (b.block w1.heap.size (Nat.lt_succ_self _))
  have h2:=h1.whole A (by rw [Array.length_toList,hA,hZ])
  refine ⟨h2.1,h2.2,fun w3 h3 => ?_⟩
  exact (h1.of_eq (h3.block _ h1.lt)).whole A (by rw [Array.length_toList,hA,hZ])
theorem Tryz.sizeN:(Tryz.prog.info? 32).map (·.size) = some 7:=(zero_of_info Tryz.infoN).2
theorem res_en {fn : Func} {p u : Tmp} (h : fn.results = #[.cell p 32, .tmp u]) {tmps : Array Value} {w : World} {r : Nat} {A : Array Value} {e : Int} (hA : A.size = 7) (hp : tmps.getD p undef = .pointer (some ⟨r, 0, none⟩)) (he : tmps.getD u undef = .int .i64 e) (hb : C.Blk w r 32 A.toList) :
    (results fn tmps).run Tryz.prog w = .ok (.tuple #[.agg A,.int .i64 e]) w:=by
  rw [results_cell_tmp h tmps Tryz.prog w,hp,he]
  have hl:(loadVar 32 ⟨r,0,none⟩).run Tryz.prog w = .ok (.agg A) w:=run_loadVar_row w r 32 32 A (0,0) _ hb Tryz.underlying32 rfl (by rw [hA]; exact Tryz.sizeN)
  simp [asAddr,hl,Result.andThen]
theorem Get_arg {w w1:World} {X:Nat→Prop} {t c p:Nat} {h:Hw} {P:Par} {S:E.Sc × Us} {m:Nat→Option Nat} (K:Tv w X t c p h P S m w1) (r pg:Int) (h0 : -9223372036854775808 ≤ r) (h1:r ≤ 9223372036854775807) (hr:¬ okRP m r pg):Calls Tryz.prog 12 #[.pointer (some ⟨t,0,none⟩),.int .i64 r,.int .i64 pg] w1 fun e w'=>e = .returned (.tuple #[.agg #[.bool false,.bool false,.bool false,.bool false,.bool false,.bool false,.int .i64 0],.int .i64 2])∧Below w1.heap.size w1 w':=by
  have B1:Hid (Below w1.heap.size w1 (w1.alloc (.cells #[.bool false,.bool false,.bool false,.bool false,.bool false,.bool false,.int .i64 0] 32))):=(Below.refl _ _).alloc (Nat.le_refl _) _
  have HO:Hid ((#[.bool false,.bool false,.bool false,.bool false,.bool false,.bool false,.int .i64 0]:Array Value).all (·.oneCell') = true):=by unfold Hid; simp [Value.oneCell']
  have HC:Hid (Calls _ _ _ _ _):=Place_arg (K.below B1.out) r pg h0 h1 hr
  clear K hr
  go_enter Tryz.func12,Tryz.ntmps12
  go_wp2_with fail
  refine HC.out.mono ?_
  rintro e w2 ⟨rfl,hb⟩
  have HX:Hid (w2.there w1.heap.size 0 7∧C.Blk (w2.setCells w1.heap.size 0 (#[.bool false,.bool false,.bool false,.bool false,.bool false,.bool false,.int .i64 0]:Array Value).toList) w1.heap.size 32 (#[.bool false,.bool false,.bool false,.bool false,.bool false,.bool false,.int .i64 0]:Array Value).toList):=by
    obtain ⟨q1,q2,_⟩:=box_eq w1 w2 #[.bool false,.bool false,.bool false,.bool false,.bool false,.bool false,.int .i64 0] rfl (by simpa using hb) #[.bool false,.bool false,.bool false,.bool false,.bool false,.bool false,.int .i64 0] rfl
    exact ⟨q1,q2⟩
  have HB:Hid (Below w1.heap.size w1 w2):=B1.out.trans (hb.mono B1.out.size)
  clear hb
  go_wp2_with (refine wpList_store_mid rfl 32 (.tmp 6) (.tmp 25) rfl _ 0 #[.bool false,.bool false,.bool false,.bool false,.bool false,.bool false,.int .i64 0] rfl rfl HX.out.1 Tryz.sizeN HO.out ?_)
  exact bodyPost_ret (v:=.tuple #[.agg #[.bool false,.bool false,.bool false,.bool false,.bool false,.bool false,.int .i64 0],.int .i64 2]) (res_en Tryz.results12 rfl rfl rfl HX.out.2) rfl ⟨rfl,below_sets HB.out _ (Nat.le_refl _) _ _⟩
theorem Get_ok {P : Par} (hP : P.Ok) {R : Nat → Prop} {S : E.Sc × Us} (K : Ok P R S) {h : Hw} (hN : P.N * P.C ≤ h.n) {r : Nat} (hr : R r) {w w1 : World} {X : Nat → Prop} {t c p : Nat} {m : Nat → Option Nat} (T : Tv w X t c p h P S m w1) (hm : m r ≠ none) {pg : Nat} (hp : pg < 1048576) :
    Calls Tryz.prog 12 #[.pointer (some ⟨t,0,none⟩),.int .i64 (r:Nat),.int .i64 (pg:Nat)] w1 fun e w'=>e = .returned (.tuple #[.agg (ec (pw (wd S.1.m) r pg)).toArray,.int .i64 0])∧Tv w X t c p h P S m w':=by
  -- the box of the result is none of theirs: the calls are taken from the world behind it on
  obtain ⟨X1,T1,k1⟩:=T
  have B1:Below w1.heap.size w1 (w1.alloc (.cells #[.bool false,.bool false,.bool false,.bool false,.bool false,.bool false,.int .i64 0] 32)):=(Below.refl _ _).alloc (Nat.le_refl _) _
  have T2:Tv (w1.alloc (.cells #[.bool false,.bool false,.bool false,.bool false,.bool false,.bool false,.int .i64 0] 32)) X1 t c p h P S m (w1.alloc (.cells #[.bool false,.bool false,.bool false,.bool false,.bool false,.bool false,.int .i64 0] 32)):=(T1.below B1).tv
  have HO:Hid ((#[.bool false,.bool false,.bool false,.bool false,.bool false,.bool false,.int .i64 0]:Array Value).all (·.oneCell') = true):=by unfold Hid; simp [Value.oneCell']
  have HC:Hid (Calls _ _ _ _ _):=Place_ok hP K hN hr T2 hm hp
  have HBX:Hid (∀ w2,Tv (w1.alloc (.cells #[.bool false,.bool false,.bool false,.bool false,.bool false,.bool false,.int .i64 0] 32)) X1 t c p h P S m w2→C.Blk w2 w1.heap.size 32 (#[.bool false,.bool false,.bool false,.bool false,.bool false,.bool false,.int .i64 0]:Array Value).toList):=fun w2 ⟨X2,_,k2⟩=>(box_new w1 32 #[.bool false,.bool false,.bool false,.bool false,.bool false,.bool false,.int .i64 0]).of_eq (k2.block _ (by simp) (fun q=>Nat.lt_irrefl _ (T1.lt _ q)))
  have HFIN:Hid (∀ w2 A,Tv (w1.alloc (.cells #[.bool false,.bool false,.bool false,.bool false,.bool false,.bool false,.int .i64 0] 32)) X1 t c p h P S m w2→Tv w X t c p h P S m (w2.setCells w1.heap.size 0 A)):=fun w2 A h2=>Tv.loc k1 T1.lt B1 h2 ((Loc.refl _ _ _).sets _ (Nat.le_refl _) (by simp) _ _)
  have HKW:Hid (P.Ok):=hP
  have HA2:Hid ((ec (pw (wd S.1.m) r pg)).toArray.size = 7):=rfl
  have HA3:Hid ((ec (pw (wd S.1.m) r pg)).toArray.all (·.oneCell') = true):=by unfold Hid; simp [ec,Value.oneCell']
  have HP:Hid (hasP (wd S.1.m) r pg = true→∃ f,pla (wd S.1.m) r pg = f * 256 + pg % 32 * 8∧∀ w2,Tv (w1.alloc (.cells #[.bool false,.bool false,.bool false,.bool false,.bool false,.bool false,.int .i64 0] 32)) X1 t c p h P S m w2→Calls Tryz.prog 30 #[.pointer (some ⟨t,0,none⟩),.int .u64 ((f * 256 + pg % 32 * 8:Nat):Int)] w2 fun e w'=>e = .returned (.agg (ec (pw (wd S.1.m) r pg)).toArray)∧Below w2.heap.size w2 w'):=fun hh=>by
    obtain ⟨f,h1,h2,h3⟩:=hasP_t hh
    refine ⟨f,h2,fun w2 hw2 => ?_⟩
    rw [h3]
    exact read_ok hw2 (K.lt hP hN hr (Nat.le_refl 3) h1).1 (Nat.mod_lt _ (by decide)) (K.may hP hr (Nat.le_refl 3) h1 (Nat.mod_lt _ (by decide)))
  have HN:Hid (hasP (wd S.1.m) r pg = false→(ec (pw (wd S.1.m) r pg)).toArray = #[.bool false,.bool false,.bool false,.bool false,.bool false,.bool false,.int .i64 0]):=fun hh=>by rw [(hasP_f hh).2.2]; rfl
  clear T2 K hP
  generalize (ec (pw (wd S.1.m) r pg)).toArray = A at *
  cases hb:hasP (wd S.1.m) r pg with
  | true=>
    rw [hb] at HC
    obtain ⟨f,e1,hrd⟩:=HP.out hb
    rw [e1] at HC
    have CR:Hid (∀ w2,Tv (w1.alloc (.cells #[.bool false,.bool false,.bool false,.bool false,.bool false,.bool false,.int .i64 0] 32)) X1 t c p h P S m w2→Calls Tryz.prog 30 #[.pointer (some ⟨t,0,none⟩),.int .u64 ((f * 256 + pg % 32 * 8:Nat):Int)] w2 fun e w'=>e = .returned (.agg A)∧Below w2.heap.size w2 w'):=hrd
    clear hrd e1 hb HP HN
    generalize f * 256 + pg % 32 * 8 = y at *
    go_enter Tryz.func12,Tryz.ntmps12
    go_wp2_with fail
    refine HC.out.mono ?_
    rintro e w2 ⟨rfl,h2⟩
    have H2:Hid (Tv (w1.alloc (.cells #[.bool false,.bool false,.bool false,.bool false,.bool false,.bool false,.int .i64 0] 32)) X1 t c p h P S m w2):=h2
    clear h2
    go_wp2_with fail
    refine (CR.out _ H2.out).mono ?_
    rintro e w3 ⟨rfl,h3⟩
    have H3:Hid (Tv (w1.alloc (.cells #[.bool false,.bool false,.bool false,.bool false,.bool false,.bool false,.int .i64 0] 32)) X1 t c p h P S m w3):=H2.out.below h3
    have HX:Hid (w3.there w1.heap.size 0 A.size∧C.Blk (w3.setCells w1.heap.size 0 A.toList) w1.heap.size 32 A.toList):=(HBX.out _ H3.out).whole A (by rw [HA2.out]; rfl)
    clear h3
    go_wp2_with (refine wpList_store_mid rfl 32 (.tmp 6) (.tmp 29) rfl _ 0 A rfl rfl HX.out.1 (by rw [HA2.out]; exact Tryz.sizeN) HA3.out ?_)
    exact bodyPost_ret (v:=.tuple #[.agg A,.int .i64 0]) (res_en Tryz.results12 HA2.out rfl rfl HX.out.2) rfl ⟨rfl,HFIN.out _ _ H3.out⟩
  | false=>
    rw [hb] at HC
    obtain rfl:=HN.out hb
    generalize pla (wd S.1.m) r pg = y at *
    clear hb HP HN
    go_enter Tryz.func12,Tryz.ntmps12
    go_wp2_with fail
    refine HC.out.mono ?_
    rintro e w2 ⟨rfl,h2⟩
    have H2:Hid (Tv (w1.alloc (.cells #[.bool false,.bool false,.bool false,.bool false,.bool false,.bool false,.int .i64 0] 32)) X1 t c p h P S m w2):=h2
    have HX:Hid (w2.there w1.heap.size 0 7∧C.Blk (w2.setCells w1.heap.size 0 (#[.bool false,.bool false,.bool false,.bool false,.bool false,.bool false,.int .i64 0]:Array Value).toList) w1.heap.size 32 (#[.bool false,.bool false,.bool false,.bool false,.bool false,.bool false,.int .i64 0]:Array Value).toList):=(HBX.out _ h2).whole #[.bool false,.bool false,.bool false,.bool false,.bool false,.bool false,.int .i64 0] rfl
    clear h2
    go_wp2_with (refine wpList_store_mid rfl 32 (.tmp 6) (.tmp 25) rfl _ 0 #[.bool false,.bool false,.bool false,.bool false,.bool false,.bool false,.int .i64 0] rfl rfl HX.out.1 Tryz.sizeN HO.out ?_)
    exact bodyPost_ret (v:=.tuple #[.agg #[.bool false,.bool false,.bool false,.bool false,.bool false,.bool false,.int .i64 0],.int .i64 0]) (res_en Tryz.results12 rfl rfl rfl HX.out.2) rfl ⟨rfl,HFIN.out _ _ H2.out⟩
def setE (W:Nat→Nat→Int) (r pg:Nat) (my:Bool):Int:=if my then (if hasP W r pg then 0 else 150) else 70
noncomputable def setS (s:E.Sc) (r pg:Nat) (my:Bool) (v:Int):E.Sc:=match my,tb (wd s.m) r 3 (pg / 32) with
  | true,some f=>lk s f (pg % 32) v
  | _,_=>s
theorem Set_ok {P : Par} (hP : P.Ok) {R : Nat → Prop} {S : E.Sc × Us} (K : Ok P R S) {h : Hw} (hN : P.N * P.C ≤ h.n) {r : Nat} (hr : R r) {w w1 : World} {X : Nat → Prop} {t c p : Nat} {m : Nat → Option Nat} (T : Tv w X t c p h P S m w1) (hm : m r ≠ none) {pg : Nat} (hp : pg < 1048576) (b1 b2 b3 b4 b5 b6 : Bool) (x : Int) :
    Calls Tryz.prog 9 #[.pointer (some ⟨t,0,none⟩),.int .i64 (r:Nat),.int .i64 (pg:Nat),.agg #[.bool b1,.bool b2,.bool b3,.bool b4,.bool b5,.bool b6,.int .i64 x]] w1 fun e w'=>e = .returned (.int .i64 (setE (wd S.1.m) r pg (N.may b1 b2 b3 b4 b5 b6 x)))∧Tv w X t c p h P (setS S.1 r pg (N.may b1 b2 b3 b4 b5 b6 x) (N.lo b1 b2 b3 b4 b5 b6 + x * 256),S.2) m w':=by
  obtain ⟨X1,T1,k1⟩:=T
  have hAs:(#[.bool b1,.bool b2,.bool b3,.bool b4,.bool b5,.bool b6,.int .i64 x]:Array Value).size = 7:=rfl
  have CE:Hid (∀ W,Calls _ _ _ W _):=fun W=>N.Check_any b1 b2 b3 b4 b5 b6 x W
  have CW:Hid (∀ f,f < h.n→N.may b1 b2 b3 b4 b5 b6 x = true→∀ wb w2,Tv wb X1 t c p h P S m w2→Calls Tryz.prog 25 #[.pointer (some ⟨t,0,none⟩),.int .u64 ((f * 256 + pg % 32 * 8:Nat):Int),.agg #[.bool b1,.bool b2,.bool b3,.bool b4,.bool b5,.bool b6,.int .i64 x]] w2 fun e w'=>e = .returned (.tuple #[])∧Tv wb X1 t c p h P (lk S.1 f (pg % 32) (N.lo b1 b2 b3 b4 b5 b6 + x * 256),S.2) m w'):=fun f hf hy wb w2 h2=>write_ok h2 hf (Nat.mod_lt _ (by decide)) b1 b2 b3 b4 b5 b6 x hy
  generalize hmy:N.may b1 b2 b3 b4 b5 b6 x = my at *
  have HMY:Hid (N.may b1 b2 b3 b4 b5 b6 x = my):=hmy
  clear hmy
  generalize N.lo b1 b2 b3 b4 b5 b6 + x * 256 = v at *
  generalize (#[.bool b1,.bool b2,.bool b3,.bool b4,.bool b5,.bool b6,.int .i64 x]:Array Value) = A at *
  have B1:Below w1.heap.size w1 (w1.alloc (.cells A 32)):=(Below.refl _ _).alloc (Nat.le_refl _) _
  have T2:Tv (w1.alloc (.cells A 32)) X1 t c p h P S m (w1.alloc (.cells A 32)):=(T1.below B1).tv
  have HC:Hid (Calls _ _ _ _ _):=Place_ok hP K hN hr T2 hm hp
  have HBX:Hid (∀ w2 S',Tv (w1.alloc (.cells A 32)) X1 t c p h P S' m w2→C.Blk w2 w1.heap.size 32 A.toList):=fun w2 S' ⟨X2,_,k2⟩=>(box_new w1 32 A).of_eq (k2.block _ (by simp) (fun q=>Nat.lt_irrefl _ (T1.lt _ q)))
  have HFIN:Hid (∀ w2 S',Tv (w1.alloc (.cells A 32)) X1 t c p h P S' m w2→Tv w X t c p h P S' m w2):=fun w2 S' h2=>Tv.loc k1 T1.lt B1 h2 (Loc.refl _ _ _)
  have HSZ:Hid (A.size = 7):=hAs
  have HHT:Hid (hasP (wd S.1.m) r pg = true→∃ f,f < h.n∧pla (wd S.1.m) r pg = f * 256 + pg % 32 * 8∧setS S.1 r pg true v = lk S.1 f (pg % 32) v):=fun hh=>by
    obtain ⟨f,h1,h2,h3⟩:=hasP_t hh
    exact ⟨f,(K.lt hP hN hr (Nat.le_refl 3) h1).1,h2,by unfold setS; rw [h1]⟩
  have HHF:Hid (hasP (wd S.1.m) r pg = false→setS S.1 r pg true v = S.1):=fun hh=>by unfold setS; rw [(hasP_f hh).1]
  have HSF:Hid (setS S.1 r pg false v = S.1):=rfl
  clear T2 K hP B1 hAs k1 T1
  cases my with
  | false=>
    rw [show setE (wd S.1.m) r pg false = 70 from rfl,HSF.out]
    generalize pla (wd S.1.m) r pg = y at *
    generalize hasP (wd S.1.m) r pg = hb at *
    go_enter Tryz.func9,Tryz.ntmps9
    go_wp2_with fail
    refine HC.out.mono ?_
    rintro e w2 ⟨rfl,h2⟩
    have H2:Hid (Tv (w1.alloc (.cells A 32)) X1 t c p h P S m w2):=h2
    have HX:Hid (C.Blk w2 w1.heap.size 32 A.toList):=HBX.out _ _ h2
    clear h2
    go_wp2_with (first
      | (refine wpList_load_mid rfl 32 (.tmp 7) rfl _ 0 rfl A.toList _ HX.out.range Tryz.underlying32 rfl (by rw [Array.length_toList,HSZ.out]; exact Tryz.sizeN) ?_)
      | (go_at_call 24; refine (CE.out _).mono ?_; rintro e w3 ⟨rfl,hb3⟩; have H3:Hid (Tv (w1.alloc (.cells A 32)) X1 t c p h P S m w3):=H2.out.below hb3; clear hb3))
    go_ret
    exact ⟨rfl,HFIN.out _ _ H3.out⟩
  | true=>
    cases hb:hasP (wd S.1.m) r pg with
    | false=>
      rw [show setE (wd S.1.m) r pg true = 150 by unfold setE; rw [hb]; rfl,HHF.out hb]
      rw [hb] at HC
      generalize pla (wd S.1.m) r pg = y at *
      clear hb HHT HHF
      go_enter Tryz.func9,Tryz.ntmps9
      go_wp2_with fail
      refine HC.out.mono ?_
      rintro e w2 ⟨rfl,h2⟩
      have H2:Hid (Tv (w1.alloc (.cells A 32)) X1 t c p h P S m w2):=h2
      have HX:Hid (C.Blk w2 w1.heap.size 32 A.toList):=HBX.out _ _ h2
      clear h2
      go_wp2_with (first
        | (refine wpList_load_mid rfl 32 (.tmp 7) rfl _ 0 rfl A.toList _ HX.out.range Tryz.underlying32 rfl (by rw [Array.length_toList,HSZ.out]; exact Tryz.sizeN) ?_)
        | (go_at_call 24; refine (CE.out _).mono ?_; rintro e w3 ⟨rfl,hb3⟩; have H3:Hid (Tv (w1.alloc (.cells A 32)) X1 t c p h P S m w3):=H2.out.below hb3; clear hb3))
      go_ret
      exact ⟨rfl,HFIN.out _ _ H3.out⟩
    | true=>
      obtain ⟨f,hfn,e1,e2⟩:=HHT.out hb
      rw [show setE (wd S.1.m) r pg true = 0 by unfold setE; rw [hb]; rfl,e2]
      rw [hb,e1] at HC
      have CWf:Hid (∀ wb w2,Tv wb X1 t c p h P S m w2→Calls _ _ _ w2 _):=CW.out f hfn rfl
      clear hb HHT HHF e1 e2 CW
      generalize f * 256 + pg % 32 * 8 = y at *
      go_enter Tryz.func9,Tryz.ntmps9
      go_wp2_with fail
      refine HC.out.mono ?_
      rintro e w2 ⟨rfl,h2⟩
      have H2:Hid (Tv (w1.alloc (.cells A 32)) X1 t c p h P S m w2):=h2
      have HX:Hid (C.Blk w2 w1.heap.size 32 A.toList):=HBX.out _ _ h2
      clear h2
      go_wp2_with (first
        | (refine wpList_load_mid rfl 32 (.tmp 7) rfl _ 0 rfl A.toList _ HX.out.range Tryz.underlying32 rfl (by rw [Array.length_toList,HSZ.out]; exact Tryz.sizeN) ?_)
        | (refine wpList_load_mid rfl 32 (.tmp 7) rfl _ 0 rfl A.toList _ HX3.out.range Tryz.underlying32 rfl (by rw [Array.length_toList,HSZ.out]; exact Tryz.sizeN) ?_)
        | (go_at_call 24; refine (CE.out _).mono ?_; rintro e w3 ⟨rfl,hb3⟩; have H3:Hid (Tv (w1.alloc (.cells A 32)) X1 t c p h P S m w3):=H2.out.below hb3; have HX3:Hid (C.Blk w3 w1.heap.size 32 A.toList):=HBX.out _ _ H3.out; clear hb3)
        | (go_at_call 25; refine (CWf.out _ _ H3.out).mono ?_; rintro e w4 ⟨rfl,h4⟩; have H4:Hid (Tv (w1.alloc (.cells A 32)) X1 t c p h P (lk S.1 f (pg % 32) v,S.2) m w4):=h4; clear h4))
      go_ret
      exact ⟨rfl,HFIN.out _ _ H4.out⟩
theorem met_w {w w2 : World} {X : Nat → Prop} {t c p : Nat} {h : Hw} {P : Par} {s : E.Sc} {us : Us} {m : Nat → Option Nat} (K : Tv w X t c p h P (s, us) m w2) {gb : Nat} (hb : C.Blk w2 gb 25 [.pointer (some ⟨t, 0, none⟩)]) {a : Nat} (ha : a < h.n * 256) :
    Calls Tryz.prog 145 #[.int .u64 (a:Nat),.pointer (some ⟨gb,0,none⟩)] w2 fun e w'=>e = .returned (.tuple #[])∧Tv w X t c p h P (tou h s a,us) m w':=by
  have B1:Below w2.heap.size w2 (w2.alloc (.cells #[.int .u64 (a:Nat)] 38)):=(Below.refl _ _).alloc (Nat.le_refl _) _
  have hc:=hb.cell 0
  have c0:=K.c0
  obtain ⟨Y,cr,hY,ht⟩:=K.core
  have hbn:=C.blk_new w2 [.int .u64 (a:Nat)] 38
  have CT:Hid (Calls Tryz.prog 67 #[.pointer (some ⟨c,0,none⟩),.slice (some ⟨w2.heap.size,0,none⟩) 1 1] (w2.alloc (.cells #[.int .u64 (a:Nat)] 38)) fun e w'=>e = .returned (.tuple #[.agg #[.bool (lh h s (fun _=>a) 1).1,.bool (lh h s (fun _=>a) 1).2],.int .i64 0])∧Tv w X t c p h P (tou h s a,us) m w'):=by
    refine (Touch_ok (cr.below B1) (l:=1) (f:=fun _=>a) (by decide) (Or.inr ⟨w2.heap.size,0,rfl,hbn.lt,fun i hi => ?_⟩) (fun _ b off e q => ?_) (fun _ _=>ha)).mono ?_
    · obtain rfl:i = 0:=by omega
      exact hbn.cell 0
    · injection e with e; injection e with e1 e2 e3; subst e1
      exact hY _ (Nat.le_refl _) q
    · rintro e w3 ⟨rfl,g⟩
      exact ⟨rfl,ht _ _ (g.pre (kp_of_below _ B1))⟩
  simp only [List.getElem?_cons_zero] at hc
  clear K hb cr hY ht B1 hbn
  generalize (lh h s (fun _=>a) 1).1 = x1 at *
  generalize (lh h s (fun _=>a) 1).2 = x2 at *
  go_enter Tryz.func145,Tryz.ntmps145
  go_wp2_with (go_at_call 67; refine CT.out.mono ?_; rintro e w3 ⟨rfl,h3⟩; have H3:Hid (Tv w X t c p h P (tou h s a,us) m w3):=h3; clear h3)
  go_end0
  exact ⟨rfl,H3.out⟩
def wkS (h:Hw) (s:E.Sc) (r pg:Nat):E.Sc:=(ta (wd s.m) r pg).foldl (tou h) s
theorem res_wk {tmps : Array Value} {w : World} {r : Nat} {A : Array Value} {y e : Int} {b : Bool} (hA : A.size = 7) (hp : tmps.getD 6 undef = .pointer (some ⟨r, 0, none⟩)) (h7 : tmps.getD 7 undef = .int .u64 y) (h8 : tmps.getD 8 undef = .bool b) (h9 : tmps.getD 9 undef = .int .i64 e) (hb : C.Blk w r 32 A.toList) :
    (results Tryz.f116 tmps).run Tryz.prog w = .ok (.tuple #[.agg A,.int .u64 y,.bool b,.int .i64 e]) w:=by
  have hl:(loadVar 32 ⟨r,0,none⟩).run Tryz.prog w = .ok (.agg A) w:=run_loadVar_row w r 32 32 A (0,0) _ hb Tryz.underlying32 rfl (by rw [hA]; exact Tryz.sizeN)
  simp only [results,Tryz.results116]
  simp only [Array.getD_eq_getD_getElem?] at hp h7 h8 h9
  simp [Result.andThen,hp,h7,h8,h9,asAddr,hl]
theorem Walk_ok {P : Par} (hP : P.Ok) {R : Nat → Prop} {S : E.Sc × Us} (K : Ok P R S) {h : Hw} (hN : P.N * P.C ≤ h.n) {r : Nat} (hr : R r) {w w1 : World} {X : Nat → Prop} {t c p : Nat} {m : Nat → Option Nat} (T : Tv w X t c p h P S m w1) (hm : m r ≠ none) {pg : Nat} (hp : pg < 1048576) :
    Calls Tryz.prog 116 #[.pointer (some ⟨t,0,none⟩),.int .i64 (r:Nat),.int .i64 (pg:Nat)] w1 fun e w'=>e = .returned (.tuple #[.agg (ec (pw (wd S.1.m) r pg)).toArray,.int .u64 (pla (wd S.1.m) r pg:Nat),.bool (hasP (wd S.1.m) r pg),.int .i64 0])∧Tv w X t c p h P (wkS h S.1 r pg,S.2) m w':=by
  obtain ⟨X1,T1,k1⟩:=T
  have B1:Below w1.heap.size w1 ((w1.alloc (.cells #[.pointer (some ⟨t,0,none⟩)] 25)).alloc (.cells #[.bool false,.bool false,.bool false,.bool false,.bool false,.bool false,.int .i64 0] 32)):=below2 _ _ _
  have e1:(w1.alloc (.cells #[.pointer (some ⟨t,0,none⟩)] 25)).heap.size = w1.heap.size + 1:=by simp
  have HBX:Hid (C.Blk ((w1.alloc (.cells #[.pointer (some ⟨t,0,none⟩)] 25)).alloc (.cells #[.bool false,.bool false,.bool false,.bool false,.bool false,.bool false,.int .i64 0] 32)) (w1.heap.size + 1) 32 (#[.bool false,.bool false,.bool false,.bool false,.bool false,.bool false,.int .i64 0]:Array Value).toList∧C.Blk ((w1.alloc (.cells #[.pointer (some ⟨t,0,none⟩)] 25)).alloc (.cells #[.bool false,.bool false,.bool false,.bool false,.bool false,.bool false,.int .i64 0] 32)) w1.heap.size 25 [.pointer (some ⟨t,0,none⟩)]):=by
    have q1:=box_new (w1.alloc (.cells #[.pointer (some ⟨t,0,none⟩)] 25)) 32 #[.bool false,.bool false,.bool false,.bool false,.bool false,.bool false,.int .i64 0]
    rw [e1] at q1
    exact ⟨q1,(C.blk_new w1 [.pointer (some ⟨t,0,none⟩)] 25).of_eq (heap_alloc_old _ _ (by rw [e1]; omega))⟩
  have HSZ:Hid (((w1.alloc (.cells #[.pointer (some ⟨t,0,none⟩)] 25)).alloc (.cells #[.bool false,.bool false,.bool false,.bool false,.bool false,.bool false,.int .i64 0] 32)).heap.size = w1.heap.size + 1 + 1):=by simp [Hid]
  have HO:Hid ((#[.bool false,.bool false,.bool false,.bool false,.bool false,.bool false,.int .i64 0]:Array Value).all (·.oneCell') = true):=by unfold Hid; simp [Value.oneCell']
  have HB1:Hid (Below w1.heap.size w1 ((w1.alloc (.cells #[.pointer (some ⟨t,0,none⟩)] 25)).alloc (.cells #[.bool false,.bool false,.bool false,.bool false,.bool false,.bool false,.int .i64 0] 32))):=B1
  generalize hwb:(w1.alloc (.cells #[.pointer (some ⟨t,0,none⟩)] 25)).alloc (.cells #[.bool false,.bool false,.bool false,.bool false,.bool false,.bool false,.int .i64 0] 32) = wb at *
  have HWB:Hid ((w1.alloc (.cells #[.pointer (some ⟨t,0,none⟩)] 25)).alloc (.cells #[.bool false,.bool false,.bool false,.bool false,.bool false,.bool false,.int .i64 0] 32) = wb):=hwb
  clear hwb
  have T2:Tv wb X1 t c p h P S m wb:=(T1.below B1).tv
  have HBO:Hid (∀ w2 S',Tv wb X1 t c p h P S' m w2→C.Blk w2 (w1.heap.size + 1) 32 (#[.bool false,.bool false,.bool false,.bool false,.bool false,.bool false,.int .i64 0]:Array Value).toList∧C.Blk w2 w1.heap.size 25 [.pointer (some ⟨t,0,none⟩)]):=fun w2 S' ⟨X2,_,k2⟩=>⟨HBX.out.1.of_eq (k2.block _ HBX.out.1.lt (fun q=>by have:=T1.lt _ q; omega)),HBX.out.2.of_eq (k2.block _ HBX.out.2.lt (fun q=>by have:=T1.lt _ q; omega))⟩
  have HC:Hid (Calls _ _ _ _ _):=checkPage_ok T2 r pg hm hp
  have HT2:Hid (Tv wb X1 t c p h P S m wb):=T2
  have CF:Hid (∀ w2,Tv wb X1 t c p h P S m w2→Calls Tryz.prog 61 #[.pointer (some ⟨t,0,none⟩),.int .i64 (r:Nat),.int .i64 (pg:Nat),.func (.func 145) #[] #[.pointer (some ⟨w1.heap.size,0,none⟩)]] w2 fun e w'=>e = .returned (.tuple #[.int .u64 (pla (wd S.1.m) r pg:Nat),.bool (hasP (wd S.1.m) r pg)])∧Tv wb X1 t c p h P (wkS h S.1 r pg,S.2) m w'):=fun w2 h2=>
    find_ok hP K hN hr h2 hp (g:=tou h) (fun _ _=>rfl) 145 #[.pointer (some ⟨w1.heap.size,0,none⟩)] enters_w (fun w3 s a ha h3=>met_w h3 (HBO.out _ _ h3).2 ha)
  have HFIN:Hid (∀ w2 A,Tv wb X1 t c p h P (wkS h S.1 r pg,S.2) m w2→Tv w X t c p h P (wkS h S.1 r pg,S.2) m (w2.setCells (w1.heap.size + 1) 0 A)):=fun w2 A h2=>Tv.loc k1 T1.lt HB1.out h2 ((Loc.refl _ _ _).sets _ (by omega) (by rw [HSZ.out]; omega) _ _)
  have HA2:Hid ((ec (pw (wd S.1.m) r pg)).toArray.size = 7):=rfl
  have HA3:Hid ((ec (pw (wd S.1.m) r pg)).toArray.all (·.oneCell') = true):=by unfold Hid; simp [ec,Value.oneCell']
  have HP:Hid (hasP (wd S.1.m) r pg = true→∃ f,pla (wd S.1.m) r pg = f * 256 + pg % 32 * 8∧∀ w2,Tv wb X1 t c p h P (wkS h S.1 r pg,S.2) m w2→Calls Tryz.prog 30 #[.pointer (some ⟨t,0,none⟩),.int .u64 ((f * 256 + pg % 32 * 8:Nat):Int)] w2 fun e w'=>e = .returned (.agg (ec (pw (wd S.1.m) r pg)).toArray)∧Below w2.heap.size w2 w'):=fun hh=>by
    obtain ⟨f,h1,h2,h3⟩:=hasP_t hh
    have em:(wkS h S.1 r pg).m = S.1.m:=fold_m (g:=tou h) (fun _ _=>rfl) _ _
    refine ⟨f,h2,fun w2 hw2 => ?_⟩
    rw [h3, ← em]
    exact read_ok hw2 (K.lt hP hN hr (Nat.le_refl 3) h1).1 (Nat.mod_lt _ (by decide)) (by rw [show ((wkS h S.1 r pg,S.2):E.Sc × Us).1.m = S.1.m from em]; exact K.may hP hr (Nat.le_refl 3) h1 (Nat.mod_lt _ (by decide)))
  have HN:Hid (hasP (wd S.1.m) r pg = false→(ec (pw (wd S.1.m) r pg)).toArray = #[.bool false,.bool false,.bool false,.bool false,.bool false,.bool false,.int .i64 0]∧pla (wd S.1.m) r pg = 0):=fun hh=>⟨by rw [(hasP_f hh).2.2]; rfl,(hasP_f hh).2.1⟩
  have hmf:∀ (fn:Fn) (first cap:Array Value) (w:World),(Instr.makeFunc fn first cap).run Tryz.prog w = .ok (.func fn first cap) w:=fun _ _ _ _=>rfl
  clear T2 K hP HBX B1 e1
  generalize (ec (pw (wd S.1.m) r pg)).toArray = A at *
  cases hb:hasP (wd S.1.m) r pg with
  | true=>
    rw [hb] at CF
    obtain ⟨f,e1,hrd⟩:=HP.out hb
    rw [e1] at CF ⊢
    have CR:Hid (∀ w2,Tv wb X1 t c p h P (wkS h S.1 r pg,S.2) m w2→Calls Tryz.prog 30 #[.pointer (some ⟨t,0,none⟩),.int .u64 ((f * 256 + pg % 32 * 8:Nat):Int)] w2 fun e w'=>e = .returned (.agg A)∧Below w2.heap.size w2 w'):=hrd
    clear hrd e1 hb HP HN
    generalize f * 256 + pg % 32 * 8 = y at *
    go_enter Tryz.func116,Tryz.ntmps116
    go_wp2_with fail
    rw [HWB.out]
    refine HC.out.mono ?_
    rintro e w2 ⟨rfl,h2⟩
    have H2:Hid (Tv wb X1 t c p h P S m w2):=HT2.out.below h2
    have c2:=(HBO.out _ _ H2.out).2.cell 0
    simp only [List.getElem?_cons_zero] at c2
    clear h2 HWB
    go_wp2_with fail
    refine (CF.out _ H2.out).mono ?_
    rintro e w3 ⟨rfl,h3⟩
    have H3:Hid (Tv wb X1 t c p h P (wkS h S.1 r pg,S.2) m w3):=h3
    have c3:=(HBO.out _ _ h3).2.cell 0
    simp only [List.getElem?_cons_zero] at c3
    clear h3 c2 H2
    go_wp2_with fail
    refine (CR.out _ H3.out).mono ?_
    rintro e w4 ⟨rfl,h4⟩
    have H4:Hid (Tv wb X1 t c p h P (wkS h S.1 r pg,S.2) m w4):=H3.out.below h4
    have HX:Hid (w4.there (w1.heap.size + 1) 0 A.size∧C.Blk (w4.setCells (w1.heap.size + 1) 0 A.toList) (w1.heap.size + 1) 32 A.toList):=(HBO.out _ _ H4.out).1.whole A (by rw [HA2.out]; rfl)
    clear h4 c3
    go_wp2_with (refine wpList_store_mid rfl 32 (.tmp 6) (.tmp 34) rfl _ 0 A rfl rfl HX.out.1 (by rw [HA2.out]; exact Tryz.sizeN) HA3.out ?_)
    exact bodyPost_ret (v:=.tuple #[.agg A,.int .u64 (y:Nat),.bool true,.int .i64 0]) (res_wk HA2.out rfl rfl rfl rfl HX.out.2) rfl ⟨rfl,HFIN.out _ _ H4.out⟩
  | false=>
    rw [hb] at CF
    obtain ⟨eA,e1⟩:=HN.out hb
    obtain rfl:=eA
    rw [e1] at CF ⊢
    clear hb HP HN e1
    go_enter Tryz.func116,Tryz.ntmps116
    go_wp2_with fail
    rw [HWB.out]
    refine HC.out.mono ?_
    rintro e w2 ⟨rfl,h2⟩
    have H2:Hid (Tv wb X1 t c p h P S m w2):=HT2.out.below h2
    have c2:=(HBO.out _ _ H2.out).2.cell 0
    simp only [List.getElem?_cons_zero] at c2
    clear h2 HWB
    go_wp2_with fail
    refine (CF.out _ H2.out).mono ?_
    rintro e w3 ⟨rfl,h3⟩
    have H3:Hid (Tv wb X1 t c p h P (wkS h S.1 r pg,S.2) m w3):=h3
    have HX:Hid (w3.there (w1.heap.size + 1) 0 7∧C.Blk (w3.setCells (w1.heap.size + 1) 0 (#[.bool false,.bool false,.bool false,.bool false,.bool false,.bool false,.int .i64 0]:Array Value).toList) (w1.heap.size + 1) 32 (#[.bool false,.bool false,.bool false,.bool false,.bool false,.bool false,.int .i64 0]:Array Value).toList):=(HBO.out _ _ h3).1.whole #[.bool false,.bool false,.bool false,.bool false,.bool false,.bool false,.int .i64 0] rfl
    clear h3 c2 H2
    go_wp2_with (refine wpList_store_mid rfl 32 (.tmp 6) (.tmp 31) rfl _ 0 #[.bool false,.bool false,.bool false,.bool false,.bool false,.bool false,.int .i64 0] rfl rfl HX.out.1 Tryz.sizeN HO.out ?_)
    exact bodyPost_ret (v:=.tuple #[.agg #[.bool false,.bool false,.bool false,.bool false,.bool false,.bool false,.int .i64 0],.int .u64 0,.bool false,.int .i64 0]) (res_wk rfl rfl rfl rfl rfl HX.out.2) rfl ⟨rfl,HFIN.out _ _ H3.out⟩
end Go.Proofs.YtgljdbabagdhlaaGreat.Pg
