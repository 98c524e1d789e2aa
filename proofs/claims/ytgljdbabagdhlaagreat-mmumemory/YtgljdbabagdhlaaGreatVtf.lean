/- What open and grow of package table give back and leave: what the pages of a span miss is opened; no condition but those named. -/
import Derived.Test.YtgljdbabagdhlaaGreatVte
import Derived.Test.YtgljdbabagdhlaaGreatVPd
namespace Go.Proofs.YtgljdbabagdhlaaGreat.Pg
open P E Go.ChangeShapes Go.WideShapes Go.ChangeAt Go.RowKit
set_option linter.unusedVariables false
set_option maxRecDepth 8192
theorem kp_loc {w w1 wb w2 w3:World} {X X1 X2:Nat→Prop} (k1:C.Kp X X1 w w1) (bb:Below w1.heap.size w1 wb) (k2:C.Kp X1 X2 wb w2) (L:Loc w1.heap.size wb.heap.size w2 w3):C.Kp X X2 w w3:=by
  refine ⟨?_, ?_, ?_, ?_,fun k hk hn => ?_,fun k hk => ?_⟩
  · exact ((L.os.trans k2.os).trans bb.os).trans k1.os
  · exact ((L.tape.trans k2.tape).trans bb.tape).trans k1.tape
  · exact ((L.output.trans k2.output).trans bb.output).trans k1.output
  · exact Nat.le_trans k1.size (Nat.le_trans bb.size (Nat.le_trans k2.size L.size))
  · have h1:k < w1.heap.size:=Nat.lt_of_lt_of_le hk k1.size
    have h2:k < wb.heap.size:=Nat.lt_of_lt_of_le h1 bb.size
    have n1:¬ X1 k:=fun q=>by
      rcases k1.new k q with q | q
      · exact hn q
      · omega
    rw [L.block k (Nat.lt_of_lt_of_le h2 k2.size) (Or.inl h1),k2.block k h2 n1,bb.block k h1,k1.block k hk hn]
  · rcases k2.new k hk with q | q
    · exact k1.new k q
    · exact Or.inr (Nat.le_trans k1.size (Nat.le_trans bb.size q))
noncomputable def opF (h:Hw) (P:Par) (r pg:Nat) (S:E.Sc × Us):Nat→E.Sc × Us
  | 0=>S
  | d + 1=>op1 h P r pg d (opF h P r pg S d)
theorem opF_opp (h:Hw) (P:Par) (r pg:Nat) (S:E.Sc × Us):opF h P r pg S 3 = opp h P r pg S:=rfl
theorem opF_ok {P:Par} (hP:P.Ok) (h:Hw) {R:Nat→Prop} {r pg:Nat} {xs:List (Int × Int)} {S:E.Sc × Us} (K:Op P R r xs S) (hp:pg < 1048576) (hx:nd xs 3 (pg / 32) = true):∀ d,d ≤ 3→Nxt P R r xs S (opF h P r pg S d)∧tb (wd (opF h P r pg S d).1.m) r d (nu pg d) ≠ none
  | 0,_=>⟨Nxt.refl K,by show tb (wd S.1.m) r 0 (nu pg 0) ≠ none; rw [tb_root _ _ hp]; exact nofun⟩
  | d + 1,hd=>by
    obtain ⟨n1,b1⟩:=opF_ok hP h K hp hx d (by omega)
    obtain ⟨n2,b2⟩:=op1_ok hP h n1.op hp (by omega) (nd_page hx d (by omega)) b1
    exact ⟨n1.trans n2,b2⟩
theorem opF_next {P : Par} (hP : P.Ok) {h : Hw} (hN : P.N * P.C ≤ h.n) {R : Nat → Prop} {r pg : Nat} {xs : List (Int × Int)} {S : E.Sc × Us} (K : Op P R r xs S) (hp : pg < 1048576) (hx : nd xs 3 (pg / 32) = true) {d f : Nat} (hd : d < 3) (hf : tb (wd (opF h P r pg S d).1.m) r d (nu pg d) = some f) :
    f < h.n∧f < 4096∧N.mayW (wd (opF h P r pg S d).1.m f (nu pg (d + 1) % 32)) = true ∧
    ((wd (opF h P r pg S d).1.m f (nu pg (d + 1) % 32) = 0∧cU (opF h P r pg S d).2 3 4096 < P.q 3∧opF h P r pg S (d + 1) = (lk (zr h (opF h P r pg S d).1 (nf P (opF h P r pg S d).2)) f (nu pg (d + 1) % 32) (1 + 256 * (nf P (opF h P r pg S d).2:Int)),B.pt (opF h P r pg S d).2 (nf P (opF h P r pg S d).2) (some 3))∧nf P (opF h P r pg S d).2 < 4096∧tb (wd (opF h P r pg S (d + 1)).1.m) r (d + 1) (nu pg (d + 1)) = some (nf P (opF h P r pg S d).2)∧cU (opF h P r pg S (d + 1)).2 3 4096 = cU (opF h P r pg S d).2 3 4096 + 1) ∨
     (∃ q:Nat,wd (opF h P r pg S d).1.m f (nu pg (d + 1) % 32) = 1 + 256 * (q:Int)∧q < 4096∧opF h P r pg S (d + 1) = opF h P r pg S d∧tb (wd (opF h P r pg S (d + 1)).1.m) r (d + 1) (nu pg (d + 1)) = some q)):=by
  have K1:=(opF_ok hP h K hp hx d (by omega)).1.op
  have hi:nu pg (d + 1) % 32 < 32:=Nat.mod_lt _ (by decide)
  have e:=nu_at pg (show d < 4 by omega)
  have hndx:=nd_page hx d hd
  rw [show opF h P r pg S (d + 1) = op1 h P r pg d (opF h P r pg S d) from rfl]
  generalize opF h P r pg S d = T at *
  obtain ⟨hfn,hf4⟩:=K1.ok.lt hP hN K1.rt (show d ≤ 3 by omega) hf
  refine ⟨hfn,hf4,K1.ok.may hP K1.rt (by omega) hf hi, ?_⟩
  rcases K1.ok.fo.wf r K1.rt d _ f hd hf _ hi with q | ⟨q,hq⟩
  · left
    have hno:=(K1.ok.fo.empty K1.rt hd hf hi).2 q
    rw [e] at hno
    have hm:=miss_pos (p:=pr (wd T.1.m) r) (q:=nd xs) (Nat.succ_pos d) (by omega) (nu_lt hp (show d + 1 ≤ 4 by omega)) (by unfold pr; rw [hno]; rfl) hndx
    have hqu:=K1.qu
    have hcq:cU T.2 3 4096 < P.q 3:=by omega
    obtain ⟨_,_,hlt,hc⟩:=nf_is hP K1.ok.va hcq
    have he:=op1_new (h:=h) (P:=P) hf hno
    obtain ⟨_,E,_⟩:=K1.ok.hang hP h K1.rt hd hf (i:=nu pg (d + 1) % 32) hi (by rw [e]; exact hno) hcq _ he
    refine ⟨q,hcq,he,Nat.lt_of_lt_of_le hlt hP.NF, ?_,by rw [he]; exact hc⟩
    rw [E r K1.rt _ _ (by omega),e,if_pos ⟨rfl,rfl,rfl⟩]
  · right
    have hs:=(K1.ok.fo.next K1.rt hd hf hi).2 hq
    rw [e] at hs
    have ho:=op1_has (h:=h) (P:=P) (r:=r) (pg:=pg) (d:=d) (S:=T) (by rw [hs]; exact nofun)
    exact ⟨q,hq,(K1.ok.lt hP hN K1.rt (show d + 1 ≤ 3 by omega) hs).2,ho,by rw [ho]; exact hs⟩
set_option maxHeartbeats 2000000 in
theorem open_ok {P : Par} (hP : P.Ok) {h : Hw} (hN : P.N * P.C ≤ h.n) {R : Nat → Prop} {r pg : Nat} {xs : List (Int × Int)} {S : E.Sc × Us} (K : Op P R r xs S) (hp : pg < 1048576) (hx : nd xs 3 (pg / 32) = true) {w w1 : World} {X : Nat → Prop} {t c p : Nat} {m : Nat → Option Nat} (T : Tv w X t c p h P S m w1) :
    Calls Tryz.prog 102 #[.pointer (some ⟨t,0,none⟩),.int .i64 (r:Nat),.int .i64 (pg:Nat)] w1 fun e w'=>∃ n:Nat,e = .returned (.int .i64 (n:Nat))∧n ≤ 3∧cU (opp h P r pg S).2 3 4096 = cU S.2 3 4096 + n∧Tv w X t c p h P (opp h P r pg S) m w':=by
  have HT:Hid (Tv w X t c p h P (opF h P r pg S 0) m w1):=T
  have HR:Hid (tb (wd (opF h P r pg S 0).1.m) r 0 (nu pg 0) = some r):=tb_root _ _ hp
  have HNX:=fun d f hd hf=>opF_next hP hN K hp hx (d:=d) (f:=f) hd hf
  rw [← opF_opp]
  clear T K
  go_enter Tryz.func102,Tryz.ntmps102
  go_wp2_with fail
  go_loopw [7,8,9] (fun z fr lv wr=>∃ d l f n:Nat,d + l = 3∧z = .int .i64 n∧fr = .int .i64 f∧lv = .int .i64 l∧n ≤ d∧tb (wd (opF h P r pg S d).1.m) r d (nu pg d) = some f∧cU (opF h P r pg S d).2 3 4096 = cU S.2 3 4096 + n∧Tv w X t c p h P (opF h P r pg S d) m wr) (fun _ _ lv _=>(D.iv lv).toNat)
  case atStart=>exact ⟨0,3,r,0,rfl,rfl,rfl,rfl,Nat.le_refl _,HR.out,(Nat.add_zero _).symm,HT.out⟩
  case round=>
    obtain ⟨d,l,f,n,hdl,rfl,rfl,rfl,hn,hf,hcu,hT⟩:=hrel
    have HTr:Hid (Tv w X t c p h P (opF h P r pg S d) m wr):=hT
    have HCU:Hid (cU (opF h P r pg S d).2 3 4096 = cU S.2 3 4096 + n):=hcu
    clear hT hcu HT HR
    by_cases h0:l = 0
    case' pos=>
      subst h0
      obtain rfl:d = 3:=by omega
      go_wp2
      go_ret
      exact ⟨n,rfl,by omega,HCU.out,HTr.out⟩
    case' neg=>
      have hl0:0 < l:=by omega
      have hl1:(0:Int) < (l:Int):=by omega
      have hl3:(l:Int) ≤ 3:=by omega
      have hd3:d < 3:=by omega
      obtain ⟨hfn,hf4,hmay,hways⟩:=HNX d f hd3 hf
      have hi:nu pg (d + 1) % 32 < 32:=Nat.mod_lt _ (by decide)
      have CI:Hid (∀ W,Calls _ _ _ W _):=fun W=>Index_d hp hdl W
      have CP:Hid (∀ W,Calls _ _ _ W _):=fun W=>place_ok f (nu pg (d + 1) % 32) hf4 hi W
      have CR:Hid (Calls _ _ _ _ _):=read_ok HTr.out hfn hi hmay
      have hz:=(zero_of_info Tryz.infoN).1
      have HZS:Hid ((#[.bool false,.bool false,.bool false,.bool false,.bool false,.bool false,.int .i64 0]:Array Value).size = 7):=rfl
      generalize hZZ:(#[.bool false,.bool false,.bool false,.bool false,.bool false,.bool false,.int .i64 0]:Array Value) = Z at *
      have HZZ:Hid ((#[.bool false,.bool false,.bool false,.bool false,.bool false,.bool false,.int .i64 0]:Array Value) = Z):=hZZ
      clear hZZ
      have HA1:Hid ((#[.bool (N.fb (wd (opF h P r pg S d).1.m f (nu pg (d + 1) % 32)) 1),.bool (N.fb (wd (opF h P r pg S d).1.m f (nu pg (d + 1) % 32)) 2),.bool (N.fb (wd (opF h P r pg S d).1.m f (nu pg (d + 1) % 32)) 4),.bool (N.fb (wd (opF h P r pg S d).1.m f (nu pg (d + 1) % 32)) 8),.bool (N.fb (wd (opF h P r pg S d).1.m f (nu pg (d + 1) % 32)) 16),.bool (N.fb (wd (opF h P r pg S d).1.m f (nu pg (d + 1) % 32)) 32),.int .i64 ((wd (opF h P r pg S d).1.m f (nu pg (d + 1) % 32)) / 256)]:Array Value).toList = ec (wd (opF h P r pg S d).1.m f (nu pg (d + 1) % 32))):=rfl
      have HA2:Hid ((#[.bool (N.fb (wd (opF h P r pg S d).1.m f (nu pg (d + 1) % 32)) 1),.bool (N.fb (wd (opF h P r pg S d).1.m f (nu pg (d + 1) % 32)) 2),.bool (N.fb (wd (opF h P r pg S d).1.m f (nu pg (d + 1) % 32)) 4),.bool (N.fb (wd (opF h P r pg S d).1.m f (nu pg (d + 1) % 32)) 8),.bool (N.fb (wd (opF h P r pg S d).1.m f (nu pg (d + 1) % 32)) 16),.bool (N.fb (wd (opF h P r pg S d).1.m f (nu pg (d + 1) % 32)) 32),.int .i64 ((wd (opF h P r pg S d).1.m f (nu pg (d + 1) % 32)) / 256)]:Array Value).size = 7):=rfl
      have HA3:Hid ((#[.bool (N.fb (wd (opF h P r pg S d).1.m f (nu pg (d + 1) % 32)) 1),.bool (N.fb (wd (opF h P r pg S d).1.m f (nu pg (d + 1) % 32)) 2),.bool (N.fb (wd (opF h P r pg S d).1.m f (nu pg (d + 1) % 32)) 4),.bool (N.fb (wd (opF h P r pg S d).1.m f (nu pg (d + 1) % 32)) 8),.bool (N.fb (wd (opF h P r pg S d).1.m f (nu pg (d + 1) % 32)) 16),.bool (N.fb (wd (opF h P r pg S d).1.m f (nu pg (d + 1) % 32)) 32),.int .i64 ((wd (opF h P r pg S d).1.m f (nu pg (d + 1) % 32)) / 256)]:Array Value).all (·.oneCell') = true):=by unfold Hid; simp [Value.oneCell']
      generalize (#[.bool (N.fb (wd (opF h P r pg S d).1.m f (nu pg (d + 1) % 32)) 1),.bool (N.fb (wd (opF h P r pg S d).1.m f (nu pg (d + 1) % 32)) 2),.bool (N.fb (wd (opF h P r pg S d).1.m f (nu pg (d + 1) % 32)) 4),.bool (N.fb (wd (opF h P r pg S d).1.m f (nu pg (d + 1) % 32)) 8),.bool (N.fb (wd (opF h P r pg S d).1.m f (nu pg (d + 1) % 32)) 16),.bool (N.fb (wd (opF h P r pg S d).1.m f (nu pg (d + 1) % 32)) 32),.int .i64 ((wd (opF h P r pg S d).1.m f (nu pg (d + 1) % 32)) / 256)]:Array Value) = A at *
      have HWR:Hid (∀ S' g wb X' w',g < 4096→Tv wb X' t c p h P S' m w'→Calls Tryz.prog 25 #[.pointer (some ⟨t,0,none⟩),.int .u64 ((f * 256 + nu pg (d + 1) % 32 * 8:Nat):Int),.agg #[.bool true,.bool false,.bool false,.bool false,.bool false,.bool false,.int .i64 (g:Nat)]] w' fun e w'=>e = .returned (.tuple #[])∧Tv wb X' t c p h P (lk S'.1 f (nu pg (d + 1) % 32) (1 + 256 * (g:Int)),S'.2) m w'):=fun S' g wb X' w' hg T'=>by
        have:=write_ok T' hfn hi true false false false false false (g:Int) (by simp [N.may,N.mb]; omega)
        rw [show N.lo true false false false false false + (g:Int) * 256 = 1 + 256 * (g:Int) by rw [show N.lo true false false false false false = 1 from rfl]; omega] at this
        exact this
      have HEC:Hid (ec (wd (opF h P r pg S d).1.m f (nu pg (d + 1) % 32)) = [.bool (N.fb (wd (opF h P r pg S d).1.m f (nu pg (d + 1) % 32)) 1),.bool (N.fb (wd (opF h P r pg S d).1.m f (nu pg (d + 1) % 32)) 2),.bool (N.fb (wd (opF h P r pg S d).1.m f (nu pg (d + 1) % 32)) 4),.bool (N.fb (wd (opF h P r pg S d).1.m f (nu pg (d + 1) % 32)) 8),.bool (N.fb (wd (opF h P r pg S d).1.m f (nu pg (d + 1) % 32)) 16),.bool (N.fb (wd (opF h P r pg S d).1.m f (nu pg (d + 1) % 32)) 32),.int .i64 (wd (opF h P r pg S d).1.m f (nu pg (d + 1) % 32) / 256)]):=rfl
      clear hmay hf
      generalize nu pg (d + 1) % 32 = i at *
      generalize f * 256 + i * 8 = y at *
      go_wp2_with fail
      refine (CI.out _).mono ?_
      rintro e w' ⟨rfl,rfl⟩
      go_wp2_with fail
      refine (CP.out _).mono ?_
      rintro e w' ⟨rfl,rfl⟩
      go_wp2_with fail
      refine CR.out.mono ?_
      rintro e w3 ⟨rfl,hb⟩
      have HT3:Hid (Tv w X t c p h P (opF h P r pg S d) m w3):=HTr.out.below hb
      clear hb HTr
      have hx1:=(box_new w3 32 Z).whole A (by rw [Array.length_toList,HA2.out,HZS.out])
      have c0:=hx1.2.cell 0
      have c6:=hx1.2.cell 6
      rw [HA1.out,HEC.out] at c0 c6
      simp only [List.getElem?_cons_zero,List.getElem?_cons_succ] at c0 c6
      rw [← HEC.out, ← HA1.out] at c0 c6
      have HX1:Hid ((w3.alloc (.cells Z 32)).there w3.heap.size 0 A.size∧C.Blk ((w3.alloc (.cells Z 32)).setCells w3.heap.size 0 A.toList) w3.heap.size 32 A.toList):=hx1
      have BX:Hid (Below w3.heap.size w3 ((w3.alloc (.cells Z 32)).setCells w3.heap.size 0 A.toList)):=below_sets ((Below.refl _ _).alloc (Nat.le_refl _) _) _ (Nat.le_refl _) _ _
      clear hx1
      rcases hways with ⟨hv,hcq,heq,hg4,htb,hcu⟩ | ⟨q,hv,hq4,heq,htb⟩
      case' inr=>
        have hfl:=fb_link hv hq4
        rw [hfl.2.1] at c0
        rw [hfl.2.2] at c6
        have HTB:Hid (tb (wd (opF h P r pg S (d + 1)).1.m) r (d + 1) (nu pg (d + 1)) = some q):=htb
        have HEQ:Hid (opF h P r pg S (d + 1) = opF h P r pg S d):=heq
        clear hv hfl htb heq
        go_wp2_with (refine wpList_store_mid rfl 32 (.tmp 13) (.tmp 32) rfl _ 0 A rfl rfl HX1.out.1 (by rw [HA2.out]; exact Tryz.sizeN) HA3.out ?_)
        go_roundw
        case rel=>exact ⟨d + 1,l - 1,q,n,by omega,rfl,rfl,by congr 1; omega,by omega,HTB.out,by rw [HEQ.out]; exact HCU.out,by rw [HEQ.out]; exact HT3.out.below BX.out⟩
        case measure=>simp [D.iv]; omega
      case' inl=>
        rw [hv,fb_nought.2.1] at c0
        have HTB:Hid (tb (wd (opF h P r pg S (d + 1)).1.m) r (d + 1) (nu pg (d + 1)) = some (nf P (opF h P r pg S d).2)):=htb
        have HEQ:Hid (opF h P r pg S (d + 1) = (lk (zr h (opF h P r pg S d).1 (nf P (opF h P r pg S d).2)) f i (1 + 256 * (nf P (opF h P r pg S d).2:Int)),B.pt (opF h P r pg S d).2 (nf P (opF h P r pg S d).2) (some 3))):=heq
        have HCU2:Hid (cU (opF h P r pg S (d + 1)).2 3 4096 = cU S.2 3 4096 + (n + 1)):=by have:=HCU.out; unfold Hid; omega
        clear hv htb heq hcu c6
        obtain ⟨X3,t3,k3⟩:=HT3.out
        have CF:Hid (Calls _ _ _ _ _):=fresh_ok (t3.below BX.out).tv hN hcq
        have HT3' : Hid (Tt w3 X3 t c p h P (opF h P r pg S d) m):=t3
        have HK3:Hid (C.Kp X X3 w w3):=k3
        have HSX:Hid (((w3.alloc (.cells Z 32)).setCells w3.heap.size 0 A.toList).heap.size = w3.heap.size + 1):=by
          have q1:=HX1.out.2.lt
          have:((w3.alloc (.cells Z 32)).setCells w3.heap.size 0 A.toList).heap.size = (w3.alloc (.cells Z 32)).heap.size:=by
            have:∀ (vs:List Value) (k g:Nat) (W:World),(W.setCells g k vs).heap.size = W.heap.size:=by
              intro vs
              induction vs with
              | nil=>intro k g W; rfl
              | cons v vs ih=>intro k g W; rw [World.setCells,ih]; simp [World.setCell]
            exact this _ _ _ _
          unfold Hid
          rw [this]
          simp
        clear t3 k3
        go_wp2_with (refine wpList_store_mid rfl 32 (.tmp 13) (.tmp 32) rfl _ 0 A rfl rfl HX1.out.1 (by rw [HA2.out]; exact Tryz.sizeN) HA3.out ?_)
        generalize (w3.alloc (.cells Z 32)).setCells w3.heap.size 0 A.toList = wx at *
        generalize nf P (opF h P r pg S d).2 = g at *
        refine CF.out.mono ?_
        rintro e w4 ⟨rfl,h4⟩
        obtain ⟨X4,t4,k4⟩:=h4
        have n4:¬ X4 w3.heap.size:=fun q=>by
          rcases k4.new _ q with q | q
          · exact Nat.lt_irrefl _ (HT3'.out.lt _ q)
          · have:=HSX.out; omega
        have b4:C.Blk w4 w3.heap.size 32 A.toList:=HX1.out.2.of_eq (k4.block _ HX1.out.2.lt (fun q=>Nat.lt_irrefl _ (HT3'.out.lt _ q)))
        obtain ⟨E,hE⟩:∃ E,(#[.bool true,.bool false,.bool false,.bool false,.bool false,.bool false,.int .i64 (g:Nat)]:Array Value) = E:=⟨_,rfl⟩
        have HEE:Hid ((#[.bool true,.bool false,.bool false,.bool false,.bool false,.bool false,.int .i64 (g:Nat)]:Array Value) = E):=hE
        have HE2:Hid (E.size = 7):=by unfold Hid; rw [← hE]; rfl
        have HE3:Hid (E.all (·.oneCell') = true):=by unfold Hid; rw [← hE]; simp [Value.oneCell']
        have HE6:Hid (E.toList[6]? = some (.int .i64 (g:Nat))):=by unfold Hid; rw [← hE]; rfl
        have HX4:Hid (w4.there w3.heap.size 0 E.size∧C.Blk (w4.setCells w3.heap.size 0 E.toList) w3.heap.size 32 E.toList):=b4.whole E (by rw [Array.length_toList,HA2.out,HE2.out])
        have T5:Tt (w4.setCells w3.heap.size 0 E.toList) X4 t c p h P (zr h (opF h P r pg S d).1 g,B.pt (opF h P r pg S d).2 g (some 3)) m:=t4.of_eq (C.grown_setCells _ _ _ _).size (fun k hk=>sets_other _ _ (fun e:k = w3.heap.size=>n4 (by rw [← e]; exact hk)) _ _ _)
        have cw:=HWR.out _ g _ _ _ hg4 T5.tv
        rw [hE] at cw
        have CW:Hid (Calls _ _ _ _ _):=cw
        have HFIN:Hid (∀ w5,Tv (w4.setCells w3.heap.size 0 E.toList) X4 t c p h P (lk (zr h (opF h P r pg S d).1 g) f i (1 + 256 * (g:Int)),B.pt (opF h P r pg S d).2 g (some 3)) m w5→Tv w X t c p h P (opF h P r pg S (d + 1)) m w5∧C.Blk w5 w3.heap.size 32 E.toList):=fun w5 h5=>by
          refine ⟨?_,blk_of h5 HX4.out.2 n4⟩
          rw [HEQ.out]
          exact h5.pre (kp_loc HK3.out BX.out k4 ((Loc.refl _ _ _).sets _ (Nat.le_refl _) (by rw [HSX.out]; omega) _ _))
        clear t4 k4 n4 b4 T5 cw hE
        rw [← HZZ.out] at hz
        go_wp2_with (first
          | (refine wpList_store_mid rfl 32 (.tmp 13) (.tmp 44) rfl _ 0 E rfl (congrArg Value.agg HEE.out) HX4.out.1 (by rw [HE2.out]; exact Tryz.sizeN) HE3.out ?_)
          | (refine wpList_load_mid rfl 32 (.tmp 13) rfl _ 0 rfl E.toList _ HX4.out.2.range Tryz.underlying32 rfl (by rw [Array.length_toList,HE2.out]; exact Tryz.sizeN) ?_)
          | (go_at_call 25; refine CW.out.mono ?_; rintro e w5 ⟨rfl,h5⟩; obtain ⟨h6,b6⟩:=HFIN.out _ h5; have HT6:Hid (Tv w X t c p h P (opF h P r pg S (d + 1)) m w5):=h6; have c6:w5.cell? ⟨w3.heap.size,6,none⟩ = some (.int .i64 (g:Nat)):=(b6.cell 6).trans HE6.out; clear h5 h6 b6))
        go_roundw
        case rel=>exact ⟨d + 1,l - 1,g,n + 1,by omega,by go_num,rfl,by congr 1; omega,by omega,HTB.out,HCU2.out,HT6.out⟩
        case measure=>simp [D.iv]; omega
theorem grN_leaf {P:Par} (hP:P.Ok) (h:Hw) {R:Nat→Prop} {r p:Nat} {xs:List (Int × Int)} {S:E.Sc × Us} (K:Op P R r xs S) {n m:Nat} (hi:inS xs p m) (hn:n < m):grN h P r p S (min (n + (32 - (p + n) % 32)) m) = opp h P r (p + n) (grN h P r p S n):=by
  obtain ⟨j,hj⟩:∃ j,min (n + (32 - (p + n) % 32)) m = n + j + 1:=⟨min (n + (32 - (p + n) % 32)) m - n - 1,by have:=Nat.mod_lt (p + n) (show 0 < 32 by decide); omega⟩
  rw [hj]
  exact grN_skip hP h K hi hn j (by have:=Nat.mod_lt (p + n) (show 0 < 32 by decide); omega) (by have:=Nat.mod_lt (p + n) (show 0 < 32 by decide); omega)
set_option maxHeartbeats 1000000 in
theorem grow_ok {P : Par} (hP : P.Ok) {h : Hw} (hN : P.N * P.C ≤ h.n) {R : Nat → Prop} {r a b : Nat} {xs : List (Int × Int)} {S : E.Sc × Us} (K : Op P R r xs S) (hi : inS xs a b) (hab : a ≤ 1048576) (hb6 : b ≤ 1048576) {w w1 : World} {X : Nat → Prop} {t c p : Nat} {m : Nat → Option Nat} (T : Tv w X t c p h P S m w1) :
    Calls Tryz.prog 59 #[.pointer (some ⟨t,0,none⟩),.int .i64 (r:Nat),.agg #[.int .i64 (a:Nat),.int .i64 (b:Nat)]] w1 fun e w'=>∃ n:Nat,e = .returned (.int .i64 (n:Nat))∧cU (grN h P r a S b).2 3 4096 = cU S.2 3 4096 + n∧Tv w X t c p h P (grN h P r a S b) m w':=by
  obtain ⟨X1,T1,k1⟩:=T
  have B1:Below w1.heap.size w1 (w1.alloc (.cells #[.int .i64 (a:Nat),.int .i64 (b:Nat)] 86)):=(Below.refl _ _).alloc (Nat.le_refl _) _
  have HBX:Hid (∀ S' w2,Tv (w1.alloc (.cells #[.int .i64 (a:Nat),.int .i64 (b:Nat)] 86)) X1 t c p h P S' m w2→w2.cell? ⟨w1.heap.size,0,none⟩ = some (.int .i64 (a:Nat))∧w2.cell? ⟨w1.heap.size,1,none⟩ = some (.int .i64 (b:Nat))):=fun S' w2 h2=>by
    have:=blk_of h2 (C.blk_new w1 [.int .i64 (a:Nat),.int .i64 (b:Nat)] 86) (fun q=>Nat.lt_irrefl _ (T1.lt _ q))
    exact ⟨this.cell 0,this.cell 1⟩
  have HFIN:Hid (∀ w2 S',Tv (w1.alloc (.cells #[.int .i64 (a:Nat),.int .i64 (b:Nat)] 86)) X1 t c p h P S' m w2→Tv w X t c p h P S' m w2):=fun w2 S' h2=>Tv.loc k1 T1.lt B1 h2 (Loc.refl _ _ _)
  have HT0:Hid (Tv (w1.alloc (.cells #[.int .i64 (a:Nat),.int .i64 (b:Nat)] 86)) X1 t c p h P (grN h P r a S (min 0 b)) m (w1.alloc (.cells #[.int .i64 (a:Nat),.int .i64 (b:Nat)] 86))):=by
    unfold Hid
    rw [Nat.zero_min]
    exact (T1.below B1).tv
  have HST:Hid (∀ j,j < b→Op P R r xs (grN h P r a S j)∧a + j < 1048576∧nd xs 3 ((a + j) / 32) = true∧grN h P r a S (min (j + (32 - (a + j) % 32)) b) = opp h P r (a + j) (grN h P r a S j)):=fun j hj=>⟨(grN_ok hP h K j (fun i hi'=>hi i (by omega))).1.op,(hi j hj).1,(hi j hj).2,grN_leaf hP h K hi hj⟩
  clear T1 k1 B1 K
  generalize hwb:w1.alloc (.cells #[.int .i64 (a:Nat),.int .i64 (b:Nat)] 86) = wb at *
  have HWB:Hid (w1.alloc (.cells #[.int .i64 (a:Nat),.int .i64 (b:Nat)] 86) = wb):=hwb
  clear hwb
  go_enter Tryz.func59,Tryz.ntmps59
  go_wp2_with fail
  rw [HWB.out]
  go_loopw [7,8] (fun z q wr=>∃ j k:Nat,j ≤ b + 32∧z = .int .i64 k∧q = .int .i64 ((a:Int) + (j:Int))∧k ≤ 4096∧cU (grN h P r a S (min j b)).2 3 4096 = cU S.2 3 4096 + k∧Tv wb X1 t c p h P (grN h P r a S (min j b)) m wr) (fun _ q _=>a + b - (D.iv q).toNat)
  case atStart=>exact ⟨0,0,by omega,rfl,by simp,by omega,by rw [Nat.zero_min]; exact (Nat.add_zero _).symm,HT0.out⟩
  case round=>
    obtain ⟨j,k,hj,rfl,rfl,hk,hcu,hT⟩:=hrel
    have HTr:Hid (Tv wb X1 t c p h P (grN h P r a S (min j b)) m wr):=hT
    have HCU:Hid (cU (grN h P r a S (min j b)).2 3 4096 = cU S.2 3 4096 + k):=hcu
    obtain ⟨c0,c1⟩:=HBX.out _ _ hT
    clear hT hcu HT0 HWB
    by_cases hlt:j < b
    case' pos=>
      obtain ⟨ko,hp,hx,hnx⟩:=HST.out j hlt
      rw [show min j b = j by omega] at HTr HCU
      have co:=open_ok hP hN ko hp hx HTr.out
      rw [show ((a + j:Nat):Int) = (a:Int) + (j:Int) by push_cast; rfl, ← hnx] at co
      have CO:Hid (Calls _ _ _ _ _):=co
      have HCQ:Hid (∀ n,cU (grN h P r a S (min (j + (32 - (a + j) % 32)) b)).2 3 4096 = cU (grN h P r a S j).2 3 4096 + n→k + n ≤ 4096∧cU (grN h P r a S (min (j + (32 - (a + j) % 32)) b)).2 3 4096 = cU S.2 3 4096 + (k + n)):=fun n e=>by
        have:=cU_le4 (grN h P r a S (min (j + (32 - (a + j) % 32)) b)).2 3
        have:=HCU.out
        constructor <;> omega
      have hmod:((a:Int) + (j:Int)) % 32 = ((a + j) % 32:Nat):=by push_cast; rfl
      have hm32:(a + j) % 32 < 32:=Nat.mod_lt _ (by decide)
      clear ko hnx co
      obtain ⟨u,hu⟩:∃ u,(a + j) % 32 = u:=⟨_,rfl⟩
      rw [hu] at CO HCQ hmod hm32
      have HU:Hid ((a + j) % 32 = u):=hu
      clear hu
      go_wp2_with (go_at_call 102; refine CO.out.mono ?_; rintro e w2 ⟨n,rfl,hn3,hcn,h2⟩; obtain ⟨hkn,hcn2⟩:=HCQ.out n hcn; have HT2:Hid (Tv wb X1 t c p h P (grN h P r a S (min (j + (32 - u)) b)) m w2):=h2; have HC2:Hid (cU (grN h P r a S (min (j + (32 - u)) b)).2 3 4096 = cU S.2 3 4096 + (k + n)):=hcn2; clear hcn hcn2 h2)
      go_roundw
      case rel=>exact ⟨j + (32 - u),k + n,by omega,by go_num,by congr 1; omega,hkn,HC2.out,HT2.out⟩
      case measure=>simp [D.iv]; omega
    case' neg=>
      rw [show min j b = b by omega] at HTr HCU
      go_wp2
      go_ret
      exact ⟨k,rfl,HCU.out,HFIN.out _ _ HTr.out⟩
noncomputable def tkN (P:Par) (us:Us):Nat→Us
  | 0=>us
  | j + 1=>B.pt (tkN P us j) (nf P (tkN P us j)) (some 3)
noncomputable def frN (P:Par) (us:Us) (j:Nat):Nat:=nf P (tkN P us j)
noncomputable def flN (P:Par) (us:Us) (j:Nat):List Int:=(List.range j).map fun i=>((frN P us i:Nat):Int)
theorem flN_len (P:Par) (us:Us) (j:Nat):(flN P us j).length = j:=by simp [flN]
theorem flN_succ (P:Par) (us:Us) (j:Nat):flN P us (j + 1) = flN P us j ++ [((frN P us j:Nat):Int)]:=by simp [flN,List.range_succ]
theorem tkN_ok {P:Par} (hP:P.Ok) {us:Us} (hv:Va P us) (j:Nat):cU us 3 4096 + j ≤ P.q 3→Va P (tkN P us j)∧cU (tkN P us j) 3 4096 = cU us 3 4096 + j:=by
  induction j with
  | zero=>exact fun _=>⟨hv,(Nat.add_zero _).symm⟩
  | succ j ih=>
    intro h
    obtain ⟨h1,h2⟩:=ih (by omega)
    obtain ⟨_,q2,_,q4⟩:=nf_is hP h1 (by omega)
    refine ⟨q2, ?_⟩
    show cU (B.pt (tkN P us j) (nf P (tkN P us j)) (some 3)) 3 4096 = _
    rw [q4,h2]
    omega
theorem frN_free {P:Par} (hP:P.Ok) {us:Us} (hv:Va P us) {j:Nat} (h:cU us 3 4096 + j < P.q 3):tkN P us j (frN P us j) = none:=by
  obtain ⟨h1,h2⟩:=tkN_ok hP hv j (by omega)
  exact (nf_is hP h1 (by omega)).1
theorem tkN_up {P:Par} {us:Us} {f:Nat} {i:Nat}:∀ j,tkN P us i f = some 3→tkN P us (i + j) f = some 3
  | 0,h=>h
  | j + 1,h=>by
    show B.pt (tkN P us (i + j)) _ (some 3) f = some 3
    unfold B.pt
    split
    · rfl
    · exact tkN_up j h
theorem tkN_at (P:Par) (us:Us) (i:Nat):tkN P us (i + 1) (frN P us i) = some 3:=by
  show B.pt (tkN P us i) (frN P us i) (some 3) (frN P us i) = some 3
  unfold B.pt
  rw [if_pos rfl]
theorem frN_ne {P:Par} (hP:P.Ok) {us:Us} (hv:Va P us) {i j:Nat} (hij:i < j) (h:cU us 3 4096 + j < P.q 3):frN P us i ≠ frN P us j:=fun e=>by
  have h1:=frN_free hP hv h
  have h2:=tkN_up (P:=P) (us:=us) (j - (i + 1)) (tkN_at P us i)
  rw [show i + 1 + (j - (i + 1)) = j by omega,e,h1] at h2
  cases h2
theorem tkN_down {P:Par} {us:Us} {f:Nat}:∀ j,tkN P us j f = none→us f = none
  | 0,h=>h
  | j + 1,h=>by
    have h' : B.pt (tkN P us j) (nf P (tkN P us j)) (some 3) f = none:=h
    unfold B.pt at h'
    split at h'
    · cases h'
    · exact tkN_down j h'
open Classical in
noncomputable def gvN (P:Par) (us:Us) (j i:Nat):Us:=fun f=>if ∃ k,i ≤ k∧k < j∧frN P us k = f then some 3 else us f
theorem gvN_pos {P:Par} {us:Us} {j i f:Nat} (h:∃ k,i ≤ k∧k < j∧frN P us k = f):gvN P us j i f = some 3:=if_pos h
theorem gvN_neg {P:Par} {us:Us} {j i f:Nat} (h:¬ ∃ k,i ≤ k∧k < j∧frN P us k = f):gvN P us j i f = us f:=if_neg h
theorem gvN_zero (P:Par) (us:Us):∀ j,gvN P us j 0 = tkN P us j
  | 0=>by funext f; exact gvN_neg (by rintro ⟨k,_,h,_⟩; omega)
  | j + 1=>by
    funext f
    show _ = B.pt (tkN P us j) (frN P us j) (some 3) f
    rw [← gvN_zero P us j]
    unfold B.pt
    by_cases e:f = frN P us j
    · rw [if_pos e,gvN_pos ⟨j,by omega,by omega,e.symm⟩]
    · rw [if_neg e]
      by_cases q:∃ k,0 ≤ k∧k < j∧frN P us k = f
      · obtain ⟨k,h1,h2,h3⟩:=q
        rw [gvN_pos ⟨k,h1,h2,h3⟩,gvN_pos ⟨k,h1,by omega,h3⟩]
      · rw [gvN_neg q,gvN_neg]
        rintro ⟨k,h1,h2,h3⟩
        by_cases ek:k = j
        · subst ek; exact e h3.symm
        · exact q ⟨k,h1,by omega,h3⟩
theorem gvN_end (P:Par) (us:Us) (j:Nat):gvN P us j j = us:=by funext f; exact gvN_neg (by rintro ⟨k,h1,h2,_⟩; omega)
theorem gvN_next {P:Par} (hP:P.Ok) {us:Us} (hv:Va P us) {i j:Nat} (hij:i < j) (h:cU us 3 4096 + j ≤ P.q 3):gvN P us j i (frN P us i) = some 3∧B.pt (gvN P us j i) (frN P us i) none = gvN P us j (i + 1):=by
  refine ⟨gvN_pos ⟨i,Nat.le_refl _,hij,rfl⟩, ?_⟩
  have hu:us (frN P us i) = none:=tkN_down i (frN_free hP hv (by omega))
  funext f
  unfold B.pt
  by_cases e:f = frN P us i
  · rw [if_pos e,gvN_neg,e,hu]
    rintro ⟨k,h1,h2,h3⟩
    exact frN_ne hP hv (show i < k by omega) (by omega) (by rw [h3,e])
  · rw [if_neg e]
    by_cases q:∃ k,i ≤ k∧k < j∧frN P us k = f
    · obtain ⟨k,h1,h2,h3⟩:=q
      by_cases ek:k = i
      · subst ek; exact absurd h3.symm e
      · rw [gvN_pos ⟨k,h1,h2,h3⟩,gvN_pos ⟨k,by omega,h2,h3⟩]
    · rw [gvN_neg q,gvN_neg]
      rintro ⟨k,h1,h2,h3⟩
      exact q ⟨k,by omega,h2,h3⟩
structure Hl (w:World) (X:Nat→Prop) (t c p:Nat) (h:Hw) (P:Par) (S:E.Sc × Us) (m:Nat→Option Nat) (base:Nat) (v:Value) (l:List Int) (w' : World):Prop where
  tv:∃ X',Tt w' X' t c p h P S m∧C.Kp X X' w w'∧∀ g,v.ownBlock = some g→¬ X' g
  is:Is w' base v l
  hb:w.heap.size ≤ base
theorem Hl.step {w w1:World} {X:Nat→Prop} {t c p:Nat} {h:Hw} {P:Par} {S:E.Sc × Us} {m:Nat→Option Nat} {base:Nat} {v:Value} {l:List Int} (K:Hl w X t c p h P S m base v l w1):∃ X1,Tv w1 X1 t c p h P S m w1∧∀ S' w',Tv w1 X1 t c p h P S' m w'→Hl w X t c p h P S' m base v l w':=by
  obtain ⟨X1,t1,k1,d1⟩:=K.tv
  refine ⟨X1,t1.tv,fun S' w' ⟨X2,t2,k2⟩=>⟨⟨X2,t2,k1.trans k2,fun g hg q => ?_⟩,K.is.of_eq (fun g hg=>k2.block g (K.is.lt g hg).2 (d1 g hg)),K.hb⟩⟩
  rcases k2.new g q with q | q
  · exact d1 g hg q
  · have:=(K.is.lt g hg).2; omega
theorem Hl.size {w w' : World} {X:Nat→Prop} {t c p:Nat} {h:Hw} {P:Par} {S:E.Sc × Us} {m:Nat→Option Nat} {base:Nat} {v:Value} {l:List Int} (K:Hl w X t c p h P S m base v l w'):w.heap.size ≤ w'.heap.size:=by
  obtain ⟨_,_,k,_⟩:=K.tv
  exact k.size
theorem Hl.grown {w w1 wa w' : World} {X:Nat→Prop} {t c p:Nat} {h:Hw} {P:Par} {S:E.Sc × Us} {m:Nat→Option Nat} {base:Nat} {v:Value} {l l' : List Int} (K:Hl w X t c p h P S m base v l w1) (ba:Below w1.heap.size w1 wa) {g n cap:Nat} (hi:Is w' base (.slice (some ⟨g,0,none⟩) n cap) l') (h3:wa.grownBy w' v.ownBlock) (h4:v.ownBlock = some g ∨ g = wa.heap.size):Hl w X t c p h P S m base (.slice (some ⟨g,0,none⟩) n cap) l' w':=by
  obtain ⟨X1,t1,k1,d1⟩:=K.tv
  have nb' : ∀ k,X1 k→some k ≠ v.ownBlock:=fun k hk e=>d1 k e.symm hk
  have eq:∀ k,X1 k→w'.heap[k]? = w1.heap[k]?:=fun k hk=>(h3.block k (Nat.lt_of_lt_of_le (t1.lt k hk) ba.size) (nb' k hk)).trans (ba.block k (t1.lt k hk))
  refine ⟨⟨X1,t1.of_eq (Nat.le_trans ba.size h3.size) eq,⟨(h3.os.trans ba.os).trans k1.os,(h3.tape.trans ba.tape).trans k1.tape,(h3.output.trans ba.output).trans k1.output,Nat.le_trans k1.size (Nat.le_trans ba.size h3.size),fun k hk hn => ?_,k1.new⟩,fun g' hg q => ?_⟩,hi,K.hb⟩
  · have hk1:=Nat.lt_of_lt_of_le hk k1.size
    rw [h3.block k (Nat.lt_of_lt_of_le hk1 ba.size) (fun e=>by have:=(K.is.lt k e.symm).1; have:=K.hb; omega),ba.block k hk1,k1.block k hk hn]
  · obtain rfl:g = g':=by simpa [Value.ownBlock] using hg
    rcases h4 with e | e
    · exact d1 g e q
    · have:=t1.lt g q; have:=ba.size; omega
theorem is_at {w:World} {base:Nat} {a:Option Addr} {j c:Nat} {P:Par} {us:Us} (h:Is w base (.slice a j c) (flN P us j)) {i:Nat} (hi:i < j):∃ g,a = some ⟨g,0,none⟩∧w.cell? ⟨g,i,none⟩ = some (.int .i64 (frN P us i:Nat)):=by
  rcases h.own.shape with ⟨e1,e2⟩ | ⟨g,cap,L,e1,hb,h1,h2,h3,h4⟩
  · have:=congrArg List.length e2
    rw [flN_len] at this
    simp at this
    omega
  · injection e1 with e1
    subst e1
    refine ⟨g,rfl, ?_⟩
    rw [flN_len] at h4
    rw [hb.cell i, ← List.getElem?_take_of_lt (show i < j by omega),h4,B.tv_get]
    simp [flN,hi]
set_option maxHeartbeats 1000000 in
theorem room_ok {P : Par} (hP : P.Ok) {S : E.Sc × Us} {h : Hw} {w w1 : World} {X : Nat → Prop} {t c p : Nat} {m : Nat → Option Nat} (T : Tv w X t c p h P S m w1) (n : Int) (hn : n ≤ 100000) (hn0 : -100000 ≤ n) :
    Calls Tryz.prog 57 #[.pointer (some ⟨t,0,none⟩),.int .i64 n] w1 fun e w'=>e = .returned (.bool (decide ((cU S.2 3 4096:Int) + n ≤ (P.q 3:Int)) || decide (n ≤ 0)))∧Tv w X t c p h P S m w':=by
  obtain ⟨X1,T1,k1⟩:=T
  have hv:Va P S.2:=T1.tv.par.2
  have hq4:cU S.2 3 4096 ≤ 4096:=cU_le4 _ _
  have hqm:=hP.qm 3
  have HQ0:Hid (cU S.2 3 4096 + 0 ≤ P.q 3):=by unfold Hid; rw [Nat.add_zero]; exact hv.qu 3 (by decide) (by decide)
  have HH:Hid (Hl w1 X1 t c p h P (S.1,tkN P S.2 0) m w1.heap.size (.slice none 0 0) (flN P S.2 0) w1):=⟨⟨X1,T1,C.Kp.refl _ _,fun g hg=>by cases hg⟩,Is.nil _ _,Nat.le_refl _⟩
  have HFIN:Hid (∀ v l w',Hl w1 X1 t c p h P S m w1.heap.size v l w'→Tv w X t c p h P S m w'):=fun v l w' K=>by
    obtain ⟨X',t',k',_⟩:=K.tv
    exact ⟨X',t',k1.trans k'⟩
  have HTK:Hid (∀ j,cU S.2 3 4096 + j ≤ P.q 3→Va P (tkN P S.2 j)∧cU (tkN P S.2 j) 3 4096 = cU S.2 3 4096 + j):=fun j hj=>tkN_ok hP hv j hj
  have HGV:Hid (∀ i j,i < j→cU S.2 3 4096 + j ≤ P.q 3→gvN P S.2 j i (frN P S.2 i) = some 3∧B.pt (gvN P S.2 j i) (frN P S.2 i) none = gvN P S.2 j (i + 1)):=fun i j hij hj=>gvN_next hP hv hij hj
  have CT:Hid (∀ j,cU S.2 3 4096 + j < P.q 3→∀ v wr,Hl w1 X1 t c p h P (S.1,tkN P S.2 j) m w1.heap.size v (flN P S.2 j) wr→Calls Tryz.prog 91 #[.pointer (some ⟨p,0,none⟩),.int .u8 3] wr fun e w'=>e = .returned (.tuple #[.int .i64 (frN P S.2 j:Nat),.int .i64 0])∧Hl w1 X1 t c p h P (S.1,tkN P S.2 (j + 1)) m w1.heap.size v (flN P S.2 j) w'):=fun j hj v wr K=>by
    obtain ⟨X2,t2,hs⟩:=K.step
    obtain ⟨Z,po,ht⟩:=t2.pool
    refine (Take_p po 3 (by decide) (by decide) (by show cU (tkN P S.2 j) 3 4096 < _; rw [(HTK.out j (by omega)).2]; exact hj)).mono ?_
    rintro e w2 ⟨g,us',F',rfl,hT,hP',hK⟩
    obtain ⟨rfl,rfl⟩:=nf_of hT
    exact ⟨rfl,hs _ _ (ht _ _ _ hP' hK)⟩
  have CT0:Hid (∀ j,cU S.2 3 4096 + j = P.q 3→∀ v wr,Hl w1 X1 t c p h P (S.1,tkN P S.2 j) m w1.heap.size v (flN P S.2 j) wr→Calls Tryz.prog 91 #[.pointer (some ⟨p,0,none⟩),.int .u8 3] wr fun e w'=>e = .returned (.tuple #[.int .i64 0,.int .i64 4])∧Hl w1 X1 t c p h P (S.1,tkN P S.2 j) m w1.heap.size v (flN P S.2 j) w'):=fun j hj v wr K=>by
    obtain ⟨X2,t2,hs⟩:=K.step
    obtain ⟨Z,po,_⟩:=t2.pool
    refine (Take_mem po 3 (by decide) (by decide) (by show _ ≤ cU (tkN P S.2 j) 3 4096; rw [(HTK.out j (by omega)).2]; omega)).mono ?_
    rintro e w2 ⟨rfl,hb⟩
    exact ⟨rfl,hs _ _ (t2.below hb)⟩
  have CG:Hid (∀ i j,i < j→cU S.2 3 4096 + j ≤ P.q 3→∀ v l wr,Hl w1 X1 t c p h P (S.1,gvN P S.2 j i) m w1.heap.size v l wr→Calls Tryz.prog 90 #[.pointer (some ⟨p,0,none⟩),.int .i64 (frN P S.2 i:Nat)] wr fun e w'=>e = .returned (.int .i64 0)∧Hl w1 X1 t c p h P (S.1,gvN P S.2 j (i + 1)) m w1.heap.size v l w'):=fun i j hij hj v l wr K=>by
    obtain ⟨X2,t2,hs⟩:=K.step
    obtain ⟨h1,h2⟩:=HGV.out i j hij hj
    refine (give_f t2 h1).mono ?_
    rintro e w2 ⟨rfl,h3⟩
    refine ⟨rfl,hs _ _ ?_⟩
    rw [← h2]
    exact h3
  have HC1:Hid (∀ us v l wr,Hl w1 X1 t c p h P (S.1,us) m w1.heap.size v l wr→wr.cell? ⟨t,1,none⟩ = some (.pointer (some ⟨p,0,none⟩))):=fun us v l wr K=>by
    obtain ⟨X2,t2,_⟩:=K.step
    exact t2.c1
  obtain ⟨i0,hi0,hz0,hz1,hz2⟩:=info_parts B.Tryz.infoI
  clear T1 k1 hv
  go_enter Tryz.func57,Tryz.ntmps57
  go_wp2_with fail
  go_loopw [5] (fun v wr=>∃ (j:Nat) (vv:Value),vv = v∧cU S.2 3 4096 + j ≤ P.q 3∧(j = 0 ∨ (j:Int) ≤ n)∧Hl w1 X1 t c p h P (S.1,tkN P S.2 j) m w1.heap.size vv (flN P S.2 j) wr) (fun v _=>n.toNat - (match v with | .slice _ l _=>l | _=>0))
  case atStart=>exact ⟨0,_,rfl,HQ0.out,Or.inl rfl,HH.out⟩
  case round=>
    obtain ⟨j,vv,hvv,hjq,hjn,hH⟩:=hrel
    subst hvv
    have HHr:Hid (Hl w1 X1 t c p h P (S.1,tkN P S.2 j) m w1.heap.size vv (flN P S.2 j) wr):=hH
    have HIs:Hid (Is wr w1.heap.size vv (flN P S.2 j)):=hH.is
    have c1:=HC1.out _ _ _ _ hH
    obtain ⟨aa,cc,hsl,_⟩:∃ a c,vv = .slice a j c∧True:=by
      rcases hH.is.own.shape with ⟨e1,e2⟩ | ⟨g,cap,L,e1,_⟩
      · have:=congrArg List.length e2
        rw [flN_len] at this
        subst this
        exact ⟨_,_,e1,trivial⟩
      · rw [flN_len] at e1
        exact ⟨_,_,e1,trivial⟩
    subst hsl
    clear hH HH
    by_cases hlt:(j:Int) < n
    case' neg=>
      have HANS:Hid (decide (n ≤ (j:Int)) = (decide ((cU S.2 3 4096:Int) + n ≤ (P.q 3:Int)) || decide (n ≤ 0))):=by
        have h1:decide (n ≤ (j:Int)) = true:=by simp; omega
        unfold Hid
        rw [h1]
        rcases hjn with e | e
        · rw [show decide (n ≤ 0) = true by simp; omega]; simp
        · rw [show decide ((cU S.2 3 4096:Int) + n ≤ (P.q 3:Int)) = true by simp; omega]; rfl
      go_wp2_with fail
    case' pos=>
      by_cases hq:cU S.2 3 4096 + j < P.q 3
      case' pos=>
        have CT1:Hid (Calls _ _ _ _ _):=CT.out j hq _ _ HHr.out
        have HN1:Hid (flN P S.2 (j + 1) = flN P S.2 j ++ [((frN P S.2 j:Nat):Int)]):=flN_succ _ _ _
        have HLEN:Hid ((flN P S.2 j).length = j):=flN_len _ _ _
        go_wp2_with (first
          | (go_at_call 91; refine CT1.out.mono ?_; rintro e w2 ⟨rfl,h2⟩; have HH2:Hid (Hl w1 X1 t c p h P (S.1,tkN P S.2 (j + 1)) m w1.heap.size (.slice aa j cc) (flN P S.2 j) w2):=h2; have hsz:=h2.size; clear h2)
          | (at_builtin; refine wpList_append_lies _ rfl (.tmp 24) (.tmp 26) 22 rfl w1.heap.size 3 i0 _ 1 8 Tryz.underlying22 hi0 hz0 hz1 hz2 rfl (by decide) (.slice aa j cc) j (B.tv (flN P S.2 j)) rfl (by have:=HH2.out.is; unfold Is at this; rw [HLEN.out] at this; exact this.alloc _) _ 1 1 [.int .i64 (frN P S.2 j:Nat)] rfl rfl (cell_one_new _ _ _) (by intro u hu; simp at hu; subst hu; rfl) (by decide) (by unfold maxLen; omega) (by omega) (by simp; omega) _ rfl ?_; intro g cap w3 h2 h3 h4 h5; have HH3:Hid (Hl w1 X1 t c p h P (S.1,tkN P S.2 (j + 1)) m w1.heap.size (.slice (some ⟨g,0,none⟩) (j + 1) cap) (flN P S.2 (j + 1)) w3):=HH2.out.grown ((Below.refl _ _).alloc (Nat.le_refl _) _) (by rw [HN1.out]; refine is_snoc ?_; rw [HLEN.out]; exact h2) h3 h4; clear h2 h3 h4 h5))
        go_roundw
        case rel=>exact ⟨j + 1,_,rfl,by omega,Or.inr (by omega),HH3.out⟩
        case measure=>simp; omega
      case' neg=>
        have CT1:Hid (Calls _ _ _ _ _):=CT0.out j (by omega) _ _ HHr.out
        have HANS:Hid (decide (n ≤ (j:Int)) = (decide ((cU S.2 3 4096:Int) + n ≤ (P.q 3:Int)) || decide (n ≤ 0))):=by
          unfold Hid
          rw [show decide (n ≤ (j:Int)) = false by simp; omega,show decide ((cU S.2 3 4096:Int) + n ≤ (P.q 3:Int)) = false by simp; omega,show decide (n ≤ 0) = false by simp; omega]
          rfl
        clear HHr
        go_wp2_with (go_at_call 91; refine CT1.out.mono ?_; rintro e w2 ⟨rfl,h2⟩; have HHr:Hid (Hl w1 X1 t c p h P (S.1,tkN P S.2 j) m w1.heap.size (.slice aa j cc) (flN P S.2 j) w2):=h2; clear h2)
    all_goals (
      clear HIs CT CT0 c1 hlt hjn
      go_loopw [30] (fun z wq=>∃ i:Nat,i ≤ j∧z = .int .i64 i∧Hl w1 X1 t c p h P (S.1,gvN P S.2 j i) m w1.heap.size (.slice aa j cc) (flN P S.2 j) wq) (fun z _=>j - (D.iv z).toNat)
      case atStart=>exact ⟨0,by omega,rfl,by rw [gvN_zero]; exact HHr.out⟩
      case round=>
        obtain ⟨i,hi,rfl,hI⟩:=hrel
        have HI:Hid (Hl w1 X1 t c p h P (S.1,gvN P S.2 j i) m w1.heap.size (.slice aa j cc) (flN P S.2 j) wr):=hI
        have c1:=HC1.out _ _ _ _ hI
        clear hI HHr
        by_cases hij:i < j
        case' pos=>
          obtain ⟨g,rfl,hcl⟩:=is_at HI.out.is hij
          have CG1:Hid (Calls _ _ _ _ _):=CG.out i j hij hjq _ _ _ HI.out
          go_wp2_with (go_at_call 90; refine CG1.out.mono ?_; rintro e w2 ⟨rfl,h2⟩; have HI2:Hid (Hl w1 X1 t c p h P (S.1,gvN P S.2 j (i + 1)) m w1.heap.size (.slice (some ⟨g,0,none⟩) j cc) (flN P S.2 j) w2):=h2; clear h2)
          go_roundw
          case rel=>exact ⟨i + 1,by omega,by go_num,HI2.out⟩
          case measure=>simp [D.iv]; omega
        case' neg=>
          obtain rfl:i = j:=by omega
          rw [gvN_end] at HI
          go_wp2
          go_ret
          exact ⟨by rw [← HANS.out]; rfl,HFIN.out _ _ _ HI.out⟩)
end Go.Proofs.YtgljdbabagdhlaaGreat.Pg
namespace Go.Proofs.YtgljdbabagdhlaaGreat.P
open B Go.ChangeShapes Go.WideShapes Go.ChangeAt Go.RowKit
set_option linter.unusedVariables false
set_option maxRecDepth 8192
end Go.Proofs.YtgljdbabagdhlaaGreat.P
