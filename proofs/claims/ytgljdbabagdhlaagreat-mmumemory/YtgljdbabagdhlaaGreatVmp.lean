/- MmuMemory's loop of accesses, and all behind it; no condition but those named. -/
import Derived.Test.YtgljdbabagdhlaaGreatVmi
import Derived.Test.YtgljdbabagdhlaaGreatVmo
import Derived.Test.YtgljdbabagdhlaaGreatVOa
namespace Go.Proofs.YtgljdbabagdhlaaGreat.Pg
open P E Go.ChangeShapes Go.WideShapes Go.ChangeAt Go.RowKit
set_option linter.unusedVariables false
set_option linter.unusedSimpArgs false
set_option maxRecDepth 1000000 in
set_option maxHeartbeats 16000000 in
theorem mem_mid {w w0 : World} {t c p ga gp gb gl gs : Nat} {m : Nat → Option Nat} {Q0 : Nat → Prop} {S0 : E.Sc × Us} {v0 : Nat → Int} {fa fp : Nat → Nat} {lo0 st0 : Nat → Bool} {B0 : Nat → Int} {ao : Option Addr} {l cl : Nat} (hl : l ≤ maxLen) (ha : Al w ao l) (hX : Bx w w0 t c p ga gp gb gl gs m Q0 S0 (LI fa) (LI fp) (LU B0) (LB lo0) (LB st0)) (hN : Mn S0 (fun r => m r ≠ none) v0 fa fp lo0 st0 B0) (s0 s1 s3 s4 s5 s6 s10 s13 s14 s18 s19 s20 s21 s22 s23 s24 s25 s26 s27 s28 s29 s30 s31 s32 s33 s34 s35 s36 s37 s38 s39 s40 s41 s42 s43 s44 s45 s46 s47 s48 s49 s50 s51 s52 s53 s54 s55 s56 s57 s58 s59 s60 s61 s62 s63 s64 s65 s66 s67 s68 s69 s70 s71 s72 s73 s74 s75 s76 s77 s78 s79 s80 s81 s82 s83 s84 s85 s86 s87 s88 s89 s90 s91 s92 s93 s94 s95 s96 s97 s98 s99 s100 s101 s102 s103 s104 s105 s106 s107 s108 s109 s110 s111 s112 s113 s114 s115 s116 s117 s118 s119 s120 s121 s122 s123 s124 s125 s126 s127 s128 s129 s130 s131 s132 s133 s134 s135 s136 s137 s138 s139 s140 s141 s142 s143 s144 s145 s146 s147 s148 s149 s150 s151 s152 s153 s154 s155 s156 s157 s158 s159 s160 s161 s162 s163 s164 s165 s166 s167 s168 s169 s170 s171 s172 s173 s174 s175 s176 s177 s178 s179 s180 s181 s182 s183 s184 s185 s186 s187 s188 s189 s190 s191 s192 s193 s194 s195 s196 s197 s198 s199 s200 s201 s202 s203 s204 s205 s206 s207 s208 s209 s210 s211 s212 s213 s214 s215 s216 s217 s218 s219 s220 s221 s222 s223 s224 s225 s226 s227 s228 s229 s230 s231 s232 s233 s234 s235 s236 s237 s238 s239 s240 s241 s242 s243 s244 s245 s246 s247 s248 s249 s250 s251 s252 s253 s254 s255 s256 s257 s258 s259 s260 s261 s262 : Value) :
    Code.wp Tryz.prog (dropSeq 7 (Tryz.f3.body.getD .skip)) (bodyPost Tryz.prog Tryz.f3 fun e w'=>e = .returned (.bool true)∧Below w.heap.size w w') ⟨List.toArray [s0,s1,.slice ao l cl,s3,s4,s5,s6,.pointer (some ⟨c,0,none⟩),.pointer (some ⟨t,0,none⟩),.int .i64 0,s10,.pointer (some ⟨ga,0,none⟩),.pointer (some ⟨gp,0,none⟩),s13,s14,.pointer (some ⟨gb,0,none⟩),.pointer (some ⟨gl,0,none⟩),.pointer (some ⟨gs,0,none⟩),s18,s19,s20,s21,s22,s23,s24,s25,s26,s27,s28,s29,s30,s31,s32,s33,s34,s35,s36,s37,s38,s39,s40,s41,s42,s43,s44,s45,s46,s47,s48,s49,s50,s51,s52,s53,s54,s55,s56,s57,s58,s59,s60,s61,s62,s63,s64,s65,s66,s67,s68,s69,s70,s71,s72,s73,s74,s75,s76,s77,s78,s79,s80,s81,s82,s83,s84,s85,s86,s87,s88,s89,s90,s91,s92,s93,s94,s95,s96,s97,s98,s99,s100,s101,s102,s103,s104,s105,s106,s107,s108,s109,s110,s111,s112,s113,s114,s115,s116,s117,s118,s119,s120,s121,s122,s123,s124,s125,s126,s127,s128,s129,s130,s131,s132,s133,s134,s135,s136,s137,s138,s139,s140,s141,s142,s143,s144,s145,s146,s147,s148,s149,s150,s151,s152,s153,s154,s155,s156,s157,s158,s159,s160,s161,s162,s163,s164,s165,s166,s167,s168,s169,s170,s171,s172,s173,s174,s175,s176,s177,s178,s179,s180,s181,s182,s183,s184,s185,s186,s187,s188,s189,s190,s191,s192,s193,s194,s195,s196,s197,s198,s199,s200,s201,s202,s203,s204,s205,s206,s207,s208,s209,s210,s211,s212,s213,s214,s215,s216,s217,s218,s219,s220,s221,s222,s223,s224,s225,s226,s227,s228,s229,s230,s231,s232,s233,s234,s235,s236,s237,s238,s239,s240,s241,s242,s243,s244,s245,s246,s247,s248,s249,s250,s251,s252,s253,s254,s255,s256,s257,s258,s259,s260,s261,s262],[]⟩ w0:=by
  conv=>arg 2; whnf
  have HA:Hid (Al w ao l):=ha
  unfold maxLen at hl
  have HX0:Hid (Bx w w0 t c p ga gp gb gl gs m Q0 S0 (LI fa) (LI fp) (LU B0) (LB lo0) (LB st0)):=hX
  have HN0:Hid (Mn S0 (fun r=>m r ≠ none) v0 fa fp lo0 st0 B0):=hN
  clear hX hN ha
  refine wp_seq_k (fun Kc hKc => ?_)
  dsimp only
  go_cut [18] from 18 to 233 (fun ta wx=>∃ (Q:Nat→Prop) (S:E.Sc × Us) (v:Nat→Int) (lo st:Nat→Bool) (B:Nat→Int),Bx w wx t c p ga gp gb gl gs m Q S (LI fa) (LI fp) (LU B) (LB lo) (LB st)∧Mn S (fun r=>m r ≠ none) v fa fp lo st B)
  case rest=>
    obtain ⟨Q,S,v,lo,st,B,h1,h2⟩:=hcut
    exact hKc _ _ (mem_end h1 h2 _ _ _ _ _ _ _ _ _ _ _ _ _ _ _ _ _ _ _ _ _ _ _ _ _ _ _ _ _ _ _ _ _ _ _ _ _ _ _ _ _ _ _ _ _ _ _ _ _ _ _ _ _ _ _ _ _ _ _ _ _ _ _ _ _ _ _ _ _ _ _ _ _ _ _ _ _ _ _ _ _ _ _ _ _ _ _ _ _ _ _ _ _ _ _ _ _ _ _ _ _ _ _ _ _ _ _ _ _ _ _ _ _ _ _ _ _ _ _ _ _ _ _ _ _ _ _ _ _ _ _ _ _ _ _ _ _ _ _ _ _ _ _ _ _ _ _ _ _ _ _ _ _ _ _ _ _ _ _ _ _ _ _ _ _ _ _ _ _ _ _ _ _ _ _ _ _ _ _ _ _ _ _ _ _ _ _ _ _ _ _ _ _ _ _ _ _ _ _ _ _ _ _ _ _ _ _ _ _ _ _ _ _ _ _ _ _ _ _ _ _ _ _ _ _ _ _ _ _ _ _ _ _ _ _ _ _ _ _ _ _ _ _ _ _ _ _ _ _ _ _ _ _ _ _)
  case first=>
    go_wp2_with fail
    go_loopw [18] (fun i wr=>∃ (k:Nat) (Q:Nat→Prop) (S:E.Sc × Us) (v:Nat→Int) (lo st:Nat→Bool) (B:Nat→Int),k ≤ l∧k ≤ 150∧i = .int .i64 k∧Bx w wr t c p ga gp gb gl gs m Q S (LI fa) (LI fp) (LU B) (LB lo) (LB st)∧Mn S (fun r=>m r ≠ none) v fa fp lo st B) (fun i _=>l - (D.iv i).toNat)
    case atStart=>exact ⟨0,_,_,_,_,_,_,by omega,by omega,rfl,HX0.out,HN0.out⟩
    case round=>
      clear HX0 HN0
      obtain ⟨k,Q,S,v,lo,st,B,hk,hk150,rfl,hX,hN⟩:=hrel
      have HX:Hid (Bx w wr t c p ga gp gb gl gs m Q S (LI fa) (LI fp) (LU B) (LB lo) (LB st)):=hX
      have HN:Hid (Mn S (fun r=>m r ≠ none) v fa fp lo st B):=hN
      clear hX hN
      by_cases hlt:k < l∧k < 150
      case' pos=>
        obtain ⟨hlt,hk1⟩:=hlt
        obtain ⟨b,off,x,rfl,hb,hcell,hx⟩:=(HA.out.below HX.out.be) k hlt
        obtain ⟨xp,xo,xz,xt,xs,xv⟩:=x
        obtain ⟨AX,HAX⟩:∃ AX:Array Value,Hid (AX = #[.int .i64 xp,.int .i64 xo,.int .i64 xz,.bool xt,.bool xs,.int .u64 xv]):=⟨_,rfl⟩
        have hld:(Instr.loadAt 40 (.pointer (some ⟨b,off + k * 6,none⟩))).run Tryz.prog wr = .ok (.agg AX) wr:=by
          have:=run_loadAt_mid wr b (off + k * 6) 40 (Ac.ce ⟨xp,xo,xz,xt,xs,xv⟩) _ (fun i u hu=>hcell i u hu) Tryz.underlying40 rfl Tryz.sizeX
          rw [HAX.out]
          exact this
        obtain ⟨Q1,hq1,X1,BX,l1⟩:=HX.out.box 40 x0L
        have hgl:gs < wr.heap.size:=HX.out.D.bk.lt
        obtain ⟨tx,X2,BX2,_⟩:=X1.set BX hgl AX (by rw [HAX.out]; rfl)
        have HTX:Hid _:=tx
        have BX2:=BX2.congr (show AX.toList = [.int .i64 xp,.int .i64 xo,.int .i64 xz,.bool xt,.bool xs,.int .u64 xv] by rw [HAX.out])
        have HX2:Hid (Bx w ((wr.alloc (.cells x0L.toArray 40)).setCells wr.heap.size 0 AX.toList) t c p ga gp gb gl gs m Q1 S (LI fa) (LI fp) (LU B) (LB lo) (LB st)):=X2
        have HB2:Hid (Bb Q1 w ((wr.alloc (.cells x0L.toArray 40)).setCells wr.heap.size 0 AX.toList) wr.heap.size 40 [.int .i64 xp,.int .i64 xo,.int .i64 xz,.bool xt,.bool xs,.int .u64 xv]):=BX2
        simp only [x0L] at HTX HX2 HB2
        have hxp:=hx.p0; have hxp':=hx.p1; have hxo:=hx.o0; have hxo':=hx.o1; have hxz:=hx.z0; have hxz':=hx.z1; have hv0:=hx.v0; have hv1:=hx.v1
        simp only at hxp hxp' hxo hxo' hxz hxz' hv0 hv1
        have hd1:decide ((k:Int) < 150) = true:=by simp; omega
        have hd2:decide ((k:Int) < (l:Int)) = true:=by simp; omega
        have hi1:(0:Int) ≤ (k:Int):=by omega
        have hi2:(k:Int) < (l:Int):=by omega
        clear hcell hx X1 BX l1 X2 BX2 tx hq1 HX
        go_upto_region 22 with (first
          | (refine wpList_load_wg rfl 40 (.tmp 104) rfl (.pointer (some ⟨b,off + k * 6,none⟩)) (.agg AX) rfl hld ?_)
          | (refine wpList_store_mid rfl 40 (.tmp 19) (.tmp 105) rfl wr.heap.size 0 AX rfl rfl HTX.out (by rw [HAX.out]; exact Tryz.sizeX) (by rw [HAX.out]; simp [Value.oneCell']) ?_))
        clear hld HTX hd1 hd2 hi1 hi2
        generalize hw2:(wr.alloc (.cells #[.int .i64 0,.int .i64 0,.int .i64 0,.bool false,.bool false,.int .u64 0] 40)).setCells wr.heap.size 0 AX.toList = w2 at HX2 HB2 ⊢
        clear hw2
        generalize hgx:wr.heap.size = gx at hgl HB2 ⊢
        clear hgx HAX
        obtain ⟨pg,hpg⟩:∃ pg:Nat,xp % 8 = pg:=⟨(xp % 8).toNat,by omega⟩
        obtain ⟨zz,hzz⟩:∃ zz:Nat,xz % 8 = zz:=⟨(xz % 8).toNat,by omega⟩
        have hp8:pg < 8:=by omega
        have hz8:zz < 8:=by omega
        obtain ⟨z,hz⟩:∃ z:Nat,z = 1 + zz:=⟨_,rfl⟩
        have hz1:(1:Int) + (zz:Int) = (z:Int):=by omega
        have hz2:IntKind.i64.wrap (z:Int) = (z:Int):=by simp only [IntKind.wrap,IntKind.signed,IntKind.bits]; simp; omega
        have HW:Hid (∀ W (k n r:Int),(k = xp∧n = 8∧r = (pg:Nat)) ∨ (k = xz∧n = 8∧r = (zz:Nat))→Calls Tryz.prog 8 #[.int .i64 k,.int .i64 n] W fun e w'=>e = .returned (.int .i64 r)∧w' = W):=fun W k n r h=>by
          rcases h with ⟨rfl,rfl,rfl⟩ | ⟨rfl,rfl,rfl⟩
          · have:=Within_any k 8 (by decide) (by decide) hxp hxp' W
            rw [hpg] at this
            exact this
          · have:=Within_any k 8 (by decide) (by decide) hxz hxz' W
            rw [hzz] at this
            exact this
        have x0:=HB2.out.bk.cell 0
        have x2:=HB2.out.bk.cell 2
        simp only [List.getElem?_cons_zero,List.getElem?_cons_succ] at x0 x2
        have HZ:Hid (1 ≤ z∧z ≤ 8):=⟨by omega,by omega⟩
        clear hpg hzz hxp hxp' hxz hxz' hz
        simp only [Act.put]
        rename_i Kc hKc
        go_big_quiet (first | (go_at_call 8; refine Calls.quiet_of_same (HW.out _ _ _ _ (by first | exact Or.inl ⟨rfl,rfl,rfl⟩ | exact Or.inr ⟨rfl,rfl,rfl⟩))))
        have HX3:Hid (Bx w (w2.drewN nq) t c p ga gp gb gl gs m Q1 S (LI fa) (LI fp) (LU B) (LB lo) (LB st)):=HX2.out.below (Go.Proofs.YtgljdbabagdhlaaGreat.B.below_of (Go.Proofs.YtgljdbabagdhlaaGreat.B.grown_drewN w2 _ none) _ (Nat.le_refl _) (by simp))
        have HB3:Hid (Bb Q1 w (w2.drewN nq) gx 40 [.int .i64 xp,.int .i64 xo,.int .i64 xz,.bool xt,.bool xs,.int .u64 xv]):=HB2.out.below (Go.Proofs.YtgljdbabagdhlaaGreat.B.below_of (Go.Proofs.YtgljdbabagdhlaaGreat.B.grown_drewN w2 _ none) _ (Nat.le_refl _) (by simp))
        generalize w2.drewN nq = w3 at HX3 HB3 ⊢
        clear HX2 HB2 x0 x2 HW hz1 hz2
        refine hKc _ _ ?_
        refine mem_acc HX3.out HB3.out HN.out hgl hp8 HZ.out.1 HZ.out.2 hxo hxo' hv0 hv1 _ _ _ _ _ _ _ _ _ _ _ _ _ _ _ _ _ _ _ _ _ _ _ _ _ _ _ _ _ _ _ _ _ _ _ _ _ _ _ _ _ _ _ _ _ _ _ _ _ _ _ _ _ _ _ _ _ _ _ _ _ _ _ _ _ _ _ _ _ _ _ _ _ _ _ _ _ _ _ _ _ _ _ _ _ _ _ _ _ _ _ _ _ _ _ _ _ _ _ _ _ _ _ _ _ _ _ _ _ _ _ _ _ _ _ _ _ _ _ _ _ _ _ _ _ _ _ _ _ _ _ _ _ _ _ _ _ _ _ _ _ _ _ _ _ _ _ _ _ _ _ _ _ _ _ _ _ _ _ _ _ _ _ _ _ _ _ _ _ _ _ _ _ _ _ _ _ _ _ _ _ _ _ _ _ _ _ _ _ _ _ _ _ _ _ _ _ _ _ _ _ _ _ _ _ _ _ _ _ _ _ _ _ _ _ _ _ _ _ _ _ _ _ _ _ _ _ _ _ _ _ _ _ _ _ _ _ _ _ _ _ _ _ _ _ _ _ _ _ _ _ _ ?_
        intro t0 t1 t2 t3 t4 t5 t6 t7 t8 t9 t10 t11 t12 t13 t14 t15 t16 t17 t18 t19 t20 t21 t22 t23 t24 t25 t26 t27 t28 t29 t30 t31 t32 t33 t34 t35 t36 t37 t38 t39 t40 t41 t42 t43 t44 t45 t46 t47 t48 t49 t50 t51 t52 t53 t54 t55 t56 t57 t58 t59 t60 t61 t62 t63 t64 t65 t66 t67 t68 t69 t70 t71 t72 t73 t74 t75 t76 t77 t78 t79 t80 t81 t82 t83 t84 t85 t86 t87 t88 t89 t90 t91 t92 t93 t94 t95 t96 t97 t98 t99 t100 t101 t102 t103 t104 t105 t106 t107 t108 t109 t110 t111 t112 t113 t114 t115 t116 t117 t118 t119 t120 t121 t122 t123 t124 t125 t126 t127 t128 w4 Q4 S4 v4 lo4 st4 B4 e4 he4 hX4 hN4
        have HX4:Hid _:=hX4
        have HN4:Hid _:=hN4
        clear hX4 hN4 HX3 HB3 HN
        rcases he4 with rfl | rfl
        all_goals
          simp only [Exit.inBlock,if_true]
          go_wp2
          go_roundw
          case rel=>exact ⟨k + 1,_,_,_,_,_,_,by omega,by omega,by go_num,HX4.out,HN4.out⟩
          case measure=>simp [D.iv]; omega
      case' neg=>
        by_cases h1:k < l
        case' pos=>
          obtain rfl:k = 150:=by omega
          have d2:decide (((150:Nat):Int) < (l:Int)) = true:=by simp; omega
        case' neg=>
          obtain rfl:k = l:=by omega
          have d1:decide ((k:Int) < (k:Int)) = false:=by simp
        all_goals
          clear hlt
          go_wp2_with fail
          go_meet
          case rel=>exact ⟨_,_,_,_,_,_,HX.out,HN.out⟩
structure Az (w wr:World) (t c p ga gp:Nat) (m:Nat→Option Nat) (Q:Nat→Prop) (S:E.Sc × Us) (LA LP:List Value):Prop where
  M:Mq (fun k=>k < w.heap.size) Q w wr t c p (hwOf us) (par us 0) S m
  A:Bb Q w wr ga 29 LA
  P:Bb Q w wr gp 29 LP
  od:ga < gp
  hN:(par us 0).N * (par us 0).C ≤ (hwOf us).n
section
variable {w wr w' : World} {t c p ga gp:Nat} {m:Nat→Option Nat} {Q Q' : Nat→Prop} {S S' : E.Sc × Us} {LA LP:List Value}
theorem Az.turn (X:Az w wr t c p ga gp m Q S LA LP) (K:Zq Q w' t c p (hwOf us) (par us 0) S' m) (k:Ky Q wr w'):Az w w' t c p ga gp m Q S' LA LP:=⟨X.M.turn K k,X.A.ky k,X.P.ky k,X.od,X.hN⟩
theorem Az.below (X:Az w wr t c p ga gp m Q S LA LP) (b:Below wr.heap.size wr w'):Az w w' t c p ga gp m Q S LA LP:=⟨X.M.below b,X.A.below b,X.P.below b,X.od,X.hN⟩
theorem Az.be (X:Az w wr t c p ga gp m Q S LA LP):Below w.heap.size w wr:=⟨X.M.ky.os,X.M.ky.tape,X.M.ky.output,X.M.ky.size,X.M.ky.block⟩
theorem Az.box (X:Az w wr t c p ga gp m Q S LA LP) (ty:TypeId) (L:List Value):∃ Q',Az w (wr.alloc (.cells L.toArray ty)) t c p ga gp m Q' S LA LP∧Bb Q' w (wr.alloc (.cells L.toArray ty)) wr.heap.size ty L:=by
  obtain ⟨Q',hq,M1,B1,l1⟩:=X.M.box ty L
  exact ⟨Q',⟨M1,(X.A.below l1).wide hq,(X.P.below l1).wide hq,X.od,X.hN⟩,B1⟩
theorem Az.putA (X:Az w wr t c p ga gp m Q S LA LP) (i:Nat) (v:Value):Az w (wr.setCell ⟨ga,i,none⟩ v) t c p ga gp m Q S (LA.set i v) LP:=by
  obtain ⟨M1,B1,o⟩:=X.M.put X.A i v
  have:=X.od
  exact ⟨M1,B1,o _ _ _ (by omega) X.P,X.od,X.hN⟩
theorem Az.putP (X:Az w wr t c p ga gp m Q S LA LP) (i:Nat) (v:Value):Az w (wr.setCell ⟨gp,i,none⟩ v) t c p ga gp m Q S LA (LP.set i v):=by
  obtain ⟨M1,B1,o⟩:=X.M.put X.P i v
  have:=X.od
  exact ⟨M1,o _ _ _ (by omega) X.A,B1,X.od,X.hN⟩
theorem Az.putA' {fa fp:Nat→Nat} (X:Az w wr t c p ga gp m Q S (LI fa) (LI fp)) {i:Nat} (hi:i < 8) (n:Nat):Az w (wr.setCell ⟨ga,i,none⟩ (.int .i64 (n:Nat))) t c p ga gp m Q S (LI (setf fa i n)) (LI fp):=by
  have:=X.putA i (.int .i64 (n:Nat))
  rwa [show (LI fa).set i (.int .i64 (n:Nat)) = LI (setf fa i n) from rov_put (fun a:Nat=>.int .i64 (a:Nat)) fa hi n] at this
theorem Az.putP' {fa fp:Nat→Nat} (X:Az w wr t c p ga gp m Q S (LI fa) (LI fp)) {i:Nat} (hi:i < 8) (n:Nat):Az w (wr.setCell ⟨gp,i,none⟩ (.int .i64 (n:Nat))) t c p ga gp m Q S (LI fa) (LI (setf fp i n)):=by
  have:=X.putP i (.int .i64 (n:Nat))
  rwa [show (LI fp).set i (.int .i64 (n:Nat)) = LI (setf fp i n) from rov_put (fun a:Nat=>.int .i64 (a:Nat)) fp hi n] at this
end
structure Ma (S:E.Sc × Us) (R:Nat→Prop) (v:Nat→Int) (fa fp:Nat→Nat) (k:Nat):Prop where
  I:Iv R S v
  l:S.1.l = []
  V:∀ i,i < k→v i = wo ((40 + fa i:Nat):Int) (decide (0 < fp i)) (decide (1 < fp i)) false false
  a5:∀ i,fa i < 5
  z:∀ y,2048 ≤ y→y < 16384→S.1.m y = 0
theorem Ma.mn {S:E.Sc × Us} {R:Nat→Prop} {v:Nat→Int} {fa fp:Nat→Nat} (M:Ma S R v fa fp 8):Mn S R v fa fp (fun _=>false) (fun _=>false) (fun _=>0):=
  ⟨M.I,fun x hx=>by rw [M.l] at hx; exact absurd hx List.not_mem_nil,fun i hi=>M.V i hi,fun i _=>M.a5 i,fun k hk=>M.z _ (by omega) (by omega)⟩
theorem Ma.next {S:E.Sc × Us} {R:Nat→Prop} {v:Nat→Int} {fa fp:Nat→Nat} {k a n:Nat} {s1:E.Sc} (M:Ma S R v fa fp k) (ha:a < 5) (hk:k < 8) (I:Iv R (s1,S.2) (upd v k (wo ((40 + a:Nat):Int) (decide (0 < n)) (decide (1 < n)) false false))) (hl:s1.l = S.1.l) (hm:∀ y,2048 ≤ y→s1.m y = S.1.m y):Ma (s1,S.2) R (upd v k (wo ((40 + a:Nat):Int) (decide (0 < n)) (decide (1 < n)) false false)) (setf fa k a) (setf fp k n) (k + 1):=by
  refine ⟨I,hl.trans M.l,fun i hi => ?_,fun i => ?_,fun y h1 h2=>(hm y h1).trans (M.z y h1 h2)⟩
  · unfold upd setf
    by_cases e:i = k
    · subst e
      rw [if_pos rfl,if_pos rfl,if_pos rfl]
    · rw [if_neg e,if_neg e,if_neg e]
      exact M.V i (by omega)
  · unfold setf
    split
    · exact ha
    · exact M.a5 i
theorem Tryz.infoB5:(Tryz.prog.info? 36).map (fun i=>(i.zero,i.size)) = some (some (.agg (LU (fun _=>0)).toArray),1280):=by kernel_rfl
theorem Tryz.infoB8:(Tryz.prog.info? 37).map (fun i=>(i.zero,i.size)) = some (some (.agg (LB (fun _=>false)).toArray),8):=by kernel_rfl
set_option maxRecDepth 1000000 in
set_option maxHeartbeats 8000000 in
theorem mem_big {w w0 : World} {t c p ga gp : Nat} {m : Nat → Option Nat} {Q0 : Nat → Prop} {S0 : E.Sc × Us} {v0 : Nat → Int} {fa fp : Nat → Nat} {ao : Option Addr} {l cl : Nat} (hl : l ≤ maxLen) (ha : Al w ao l) (hX : Az w w0 t c p ga gp m Q0 S0 (LI fa) (LI fp)) (hN : Mn S0 (fun r => m r ≠ none) v0 fa fp (fun _ => false) (fun _ => false) (fun _ => 0)) (s0 s1 s3 s4 s5 s6 s10 s13 s14 s15 s16 s17 s18 s19 s20 s21 s22 s23 s24 s25 s26 s27 s28 s29 s30 s31 s32 s33 s34 s35 s36 s37 s38 s39 s40 s41 s42 s43 s44 s45 s46 s47 s48 s49 s50 s51 s52 s53 s54 s55 s56 s57 s58 s59 s60 s61 s62 s63 s64 s65 s66 s67 s68 s69 s70 s71 s72 s73 s74 s75 s76 s77 s78 s79 s80 s81 s82 s83 s84 s85 s86 s87 s88 s89 s90 s91 s92 s93 s94 s95 s96 s97 s98 s99 s100 s101 s102 s103 s104 s105 s106 s107 s108 s109 s110 s111 s112 s113 s114 s115 s116 s117 s118 s119 s120 s121 s122 s123 s124 s125 s126 s127 s128 s129 s130 s131 s132 s133 s134 s135 s136 s137 s138 s139 s140 s141 s142 s143 s144 s145 s146 s147 s148 s149 s150 s151 s152 s153 s154 s155 s156 s157 s158 s159 s160 s161 s162 s163 s164 s165 s166 s167 s168 s169 s170 s171 s172 s173 s174 s175 s176 s177 s178 s179 s180 s181 s182 s183 s184 s185 s186 s187 s188 s189 s190 s191 s192 s193 s194 s195 s196 s197 s198 s199 s200 s201 s202 s203 s204 s205 s206 s207 s208 s209 s210 s211 s212 s213 s214 s215 s216 s217 s218 s219 s220 s221 s222 s223 s224 s225 s226 s227 s228 s229 s230 s231 s232 s233 s234 s235 s236 s237 s238 s239 s240 s241 s242 s243 s244 s245 s246 s247 s248 s249 s250 s251 s252 s253 s254 s255 s256 s257 s258 s259 s260 s261 s262 : Value) :
    Code.wp Tryz.prog (dropSeq 5 (Tryz.f3.body.getD .skip)) (bodyPost Tryz.prog Tryz.f3 fun e w'=>e = .returned (.bool true)∧Below w.heap.size w w') ⟨List.toArray [s0,s1,.slice ao l cl,s3,s4,s5,s6,.pointer (some ⟨c,0,none⟩),.pointer (some ⟨t,0,none⟩),.int .i64 0,s10,.pointer (some ⟨ga,0,none⟩),.pointer (some ⟨gp,0,none⟩),s13,s14,s15,s16,s17,s18,s19,s20,s21,s22,s23,s24,s25,s26,s27,s28,s29,s30,s31,s32,s33,s34,s35,s36,s37,s38,s39,s40,s41,s42,s43,s44,s45,s46,s47,s48,s49,s50,s51,s52,s53,s54,s55,s56,s57,s58,s59,s60,s61,s62,s63,s64,s65,s66,s67,s68,s69,s70,s71,s72,s73,s74,s75,s76,s77,s78,s79,s80,s81,s82,s83,s84,s85,s86,s87,s88,s89,s90,s91,s92,s93,s94,s95,s96,s97,s98,s99,s100,s101,s102,s103,s104,s105,s106,s107,s108,s109,s110,s111,s112,s113,s114,s115,s116,s117,s118,s119,s120,s121,s122,s123,s124,s125,s126,s127,s128,s129,s130,s131,s132,s133,s134,s135,s136,s137,s138,s139,s140,s141,s142,s143,s144,s145,s146,s147,s148,s149,s150,s151,s152,s153,s154,s155,s156,s157,s158,s159,s160,s161,s162,s163,s164,s165,s166,s167,s168,s169,s170,s171,s172,s173,s174,s175,s176,s177,s178,s179,s180,s181,s182,s183,s184,s185,s186,s187,s188,s189,s190,s191,s192,s193,s194,s195,s196,s197,s198,s199,s200,s201,s202,s203,s204,s205,s206,s207,s208,s209,s210,s211,s212,s213,s214,s215,s216,s217,s218,s219,s220,s221,s222,s223,s224,s225,s226,s227,s228,s229,s230,s231,s232,s233,s234,s235,s236,s237,s238,s239,s240,s241,s242,s243,s244,s245,s246,s247,s248,s249,s250,s251,s252,s253,s254,s255,s256,s257,s258,s259,s260,s261,s262],[]⟩ w0:=by
  conv=>arg 2; whnf
  dsimp only
  obtain ⟨Q1,hq1,M1,Y1,b1⟩:=hX.M.box 36 (LU (fun _=>0))
  have A1:=(hX.A.below b1).wide hq1
  have P1:=(hX.P.below b1).wide hq1
  obtain ⟨Q2,hq2,M2,L2,b2⟩:=M1.box 37 (LB (fun _=>false))
  obtain ⟨Q3,hq3,M3,D3,b3⟩:=M2.box 37 (LB (fun _=>false))
  have e1:(w0.alloc (.cells (LU (fun _=>0)).toArray 36)).heap.size = w0.heap.size + 1:=by simp
  have e2:((w0.alloc (.cells (LU (fun _=>0)).toArray 36)).alloc (.cells (LB (fun _=>false)).toArray 37)).heap.size = w0.heap.size + 2:=by simp
  rw [e1] at L2
  rw [e2] at D3
  have hgp:gp < w0.heap.size:=hX.P.bk.lt
  have HB:Hid (Bx w (((w0.alloc (.cells (LU (fun _=>0)).toArray 36)).alloc (.cells (LB (fun _=>false)).toArray 37)).alloc (.cells (LB (fun _=>false)).toArray 37)) t c p ga gp w0.heap.size (w0.heap.size + 1) (w0.heap.size + 2) m Q3 S0 (LI fa) (LI fp) (LU (fun _=>0)) (LB (fun _=>false)) (LB (fun _=>false))):=
    ⟨M3,(((A1.below b2).wide hq2).below b3).wide hq3,(((P1.below b2).wide hq2).below b3).wide hq3,(((Y1.below b2).wide hq2).below b3).wide hq3,(L2.below b3).wide hq3,D3,⟨hX.od,hgp,by omega,by omega⟩,hX.hN⟩
  have HN:Hid (Mn S0 (fun r=>m r ≠ none) v0 fa fp (fun _=>false) (fun _=>false) (fun _=>0)):=hN
  have hz5:=(zero_of_info Tryz.infoB5).1
  have hz8:=(zero_of_info Tryz.infoB8).1
  clear hX hN M1 Y1 b1 A1 P1 M2 L2 b2 M3 D3 b3 e1 e2 hgp hq1 hq2 hq3
  generalize hZ5:(LU (fun _=>0)).toArray = Z5 at hz5 HB
  generalize hZ8:(LB (fun _=>false)).toArray = Z8 at hz8 HB
  clear hZ5 hZ8
  refine wp_seq_k (fun K1 hK1 => ?_)
  go_cut [15] from 15 to 15 (fun ta wx=>ta = .pointer (some ⟨w0.heap.size,0,none⟩)∧wx = w0.alloc (.cells Z5 36))
  case first=>
    go_wp2_with fail
    go_meet
    case rel=>exact ⟨rfl,rfl⟩
  case rest=>
    obtain ⟨rfl,rfl⟩:=hcut
    refine hK1 _ _ ?_
    refine wp_seq_k (fun K2 hK2 => ?_)
    go_cut [16,17] from 16 to 17 (fun ta tb wx=>ta = .pointer (some ⟨w0.heap.size + 1,0,none⟩)∧tb = .pointer (some ⟨w0.heap.size + 2,0,none⟩)∧wx = ((w0.alloc (.cells Z5 36)).alloc (.cells Z8 37)).alloc (.cells Z8 37))
    case first=>
      go_wp2_with fail
      go_meet
      case rel=>exact ⟨rfl,rfl,rfl⟩
    case rest=>
      obtain ⟨rfl,rfl,rfl⟩:=hcut
      exact hK2 _ _ (mem_mid hl ha HB.out HN.out _ _ _ _ _ _ _ _ _ _ _ _ _ _ _ _ _ _ _ _ _ _ _ _ _ _ _ _ _ _ _ _ _ _ _ _ _ _ _ _ _ _ _ _ _ _ _ _ _ _ _ _ _ _ _ _ _ _ _ _ _ _ _ _ _ _ _ _ _ _ _ _ _ _ _ _ _ _ _ _ _ _ _ _ _ _ _ _ _ _ _ _ _ _ _ _ _ _ _ _ _ _ _ _ _ _ _ _ _ _ _ _ _ _ _ _ _ _ _ _ _ _ _ _ _ _ _ _ _ _ _ _ _ _ _ _ _ _ _ _ _ _ _ _ _ _ _ _ _ _ _ _ _ _ _ _ _ _ _ _ _ _ _ _ _ _ _ _ _ _ _ _ _ _ _ _ _ _ _ _ _ _ _ _ _ _ _ _ _ _ _ _ _ _ _ _ _ _ _ _ _ _ _ _ _ _ _ _ _ _ _ _ _ _ _ _ _ _ _ _ _ _ _ _ _ _ _ _ _ _ _ _ _ _ _ _ _ _ _ _ _ _ _ _ _ _ _ _ _ _ _ _ _ _)
theorem setf_setf {α:Type} (f:Nat→α) (i:Nat) (x y:α):setf (setf f i x) i y = setf f i y:=by
  funext k
  unfold setf
  split <;> rfl
theorem setf_self {α:Type} (f:Nat→α) (i:Nat):setf f i (f i) = f:=by
  funext k
  unfold setf
  split
  · rename_i e; rw [e]
  · rfl
theorem setf_at {α:Type} (f:Nat→α) (i:Nat) (x:α):setf f i x i = x:=by
  unfold setf
  rw [if_pos rfl]
set_option maxRecDepth 1000000 in
set_option maxHeartbeats 8000000 in
theorem mem_one {w w0 : World} {t c p ga gp : Nat} {m : Nat → Option Nat} {Q0 : Nat → Prop} {S0 : E.Sc × Us} {v0 : Nat → Int} {fa0 fp0 : Nat → Nat} {af aq ao : Option Addr} {nf cf nq cq l cl : Nat} {ff fq : Nat → Int} (hf : Arg w af nf ff) (bf : ∀ i, i < nf → -9223372036854775808 ≤ ff i ∧ ff i ≤ 9223372036854775807) (hfl : nf ≤ maxLen) (hq : Arg w aq nq fq) (bq : ∀ i, i < nq → -9223372036854775808 ≤ fq i ∧ fq i ≤ 9223372036854775807) (hql : nq ≤ maxLen) (hl : l ≤ maxLen) (ha : Al w ao l) (hX : Az w w0 t c p ga gp m Q0 S0 (LI fa0) (LI fp0)) (hN : Ma S0 (fun r => m r ≠ none) v0 fa0 fp0 0) (s3 s4 s5 s6 s10 s13 s14 s15 s16 s17 s18 s19 s20 s21 s22 s23 s24 s25 s26 s27 s28 s29 s30 s31 s32 s33 s34 s35 s36 s37 s38 s39 s40 s41 s42 s43 s44 s45 s46 s47 s48 s49 s50 s51 s52 s53 s54 s55 s56 s57 s58 s59 s60 s61 s62 s63 s64 s65 s66 s67 s68 s69 s70 s71 s72 s73 s74 s75 s76 s77 s78 s79 s80 s81 s82 s83 s84 s85 s86 s87 s88 s89 s90 s91 s92 s93 s94 s95 s96 s97 s98 s99 s100 s101 s102 s103 s104 s105 s106 s107 s108 s109 s110 s111 s112 s113 s114 s115 s116 s117 s118 s119 s120 s121 s122 s123 s124 s125 s126 s127 s128 s129 s130 s131 s132 s133 s134 s135 s136 s137 s138 s139 s140 s141 s142 s143 s144 s145 s146 s147 s148 s149 s150 s151 s152 s153 s154 s155 s156 s157 s158 s159 s160 s161 s162 s163 s164 s165 s166 s167 s168 s169 s170 s171 s172 s173 s174 s175 s176 s177 s178 s179 s180 s181 s182 s183 s184 s185 s186 s187 s188 s189 s190 s191 s192 s193 s194 s195 s196 s197 s198 s199 s200 s201 s202 s203 s204 s205 s206 s207 s208 s209 s210 s211 s212 s213 s214 s215 s216 s217 s218 s219 s220 s221 s222 s223 s224 s225 s226 s227 s228 s229 s230 s231 s232 s233 s234 s235 s236 s237 s238 s239 s240 s241 s242 s243 s244 s245 s246 s247 s248 s249 s250 s251 s252 s253 s254 s255 s256 s257 s258 s259 s260 s261 s262 : Value) :
    Code.wp Tryz.prog (dropSeq 4 (Tryz.f3.body.getD .skip)) (bodyPost Tryz.prog Tryz.f3 fun e w'=>e = .returned (.bool true)∧Below w.heap.size w w') ⟨List.toArray [.slice af nf cf,.slice aq nq cq,.slice ao l cl,s3,s4,s5,s6,.pointer (some ⟨c,0,none⟩),.pointer (some ⟨t,0,none⟩),.int .i64 0,s10,.pointer (some ⟨ga,0,none⟩),.pointer (some ⟨gp,0,none⟩),s13,s14,s15,s16,s17,s18,s19,s20,s21,s22,s23,s24,s25,s26,s27,s28,s29,s30,s31,s32,s33,s34,s35,s36,s37,s38,s39,s40,s41,s42,s43,s44,s45,s46,s47,s48,s49,s50,s51,s52,s53,s54,s55,s56,s57,s58,s59,s60,s61,s62,s63,s64,s65,s66,s67,s68,s69,s70,s71,s72,s73,s74,s75,s76,s77,s78,s79,s80,s81,s82,s83,s84,s85,s86,s87,s88,s89,s90,s91,s92,s93,s94,s95,s96,s97,s98,s99,s100,s101,s102,s103,s104,s105,s106,s107,s108,s109,s110,s111,s112,s113,s114,s115,s116,s117,s118,s119,s120,s121,s122,s123,s124,s125,s126,s127,s128,s129,s130,s131,s132,s133,s134,s135,s136,s137,s138,s139,s140,s141,s142,s143,s144,s145,s146,s147,s148,s149,s150,s151,s152,s153,s154,s155,s156,s157,s158,s159,s160,s161,s162,s163,s164,s165,s166,s167,s168,s169,s170,s171,s172,s173,s174,s175,s176,s177,s178,s179,s180,s181,s182,s183,s184,s185,s186,s187,s188,s189,s190,s191,s192,s193,s194,s195,s196,s197,s198,s199,s200,s201,s202,s203,s204,s205,s206,s207,s208,s209,s210,s211,s212,s213,s214,s215,s216,s217,s218,s219,s220,s221,s222,s223,s224,s225,s226,s227,s228,s229,s230,s231,s232,s233,s234,s235,s236,s237,s238,s239,s240,s241,s242,s243,s244,s245,s246,s247,s248,s249,s250,s251,s252,s253,s254,s255,s256,s257,s258,s259,s260,s261,s262],[]⟩ w0:=by
  conv=>arg 2; whnf
  dsimp only
  have HF:Hid (Arg w af nf ff∧∀ i,i < nf → -9223372036854775808 ≤ ff i∧ff i ≤ 9223372036854775807):=⟨hf,bf⟩
  have HQ:Hid (Arg w aq nq fq∧∀ i,i < nq → -9223372036854775808 ≤ fq i∧fq i ≤ 9223372036854775807):=⟨hq,bq⟩
  have HX0:Hid (Az w w0 t c p ga gp m Q0 S0 (LI fa0) (LI fp0)):=hX
  have HN0:Hid (Ma S0 (fun r=>m r ≠ none) v0 fa0 fp0 0):=hN
  have HA:Hid (l ≤ maxLen∧Al w ao l):=⟨hl,ha⟩
  unfold maxLen at hfl hql
  clear hf bf hq bq hX hN hl ha
  refine wp_seq_k (fun K0 hK0 => ?_)
  go_cut [13] from 13 to 91 (fun ta wx=>∃ (Q:Nat→Prop) (S:E.Sc × Us) (v:Nat→Int) (fa fp:Nat→Nat),Az w wx t c p ga gp m Q S (LI fa) (LI fp)∧Ma S (fun r=>m r ≠ none) v fa fp 8)
  case rest=>
    obtain ⟨Q,S,v,fa,fp,h1,h2⟩:=hcut
    exact hK0 _ _ (mem_big HA.out.1 HA.out.2 h1 h2.mn _ _ _ _ _ _ _ _ _ _ _ _ _ _ _ _ _ _ _ _ _ _ _ _ _ _ _ _ _ _ _ _ _ _ _ _ _ _ _ _ _ _ _ _ _ _ _ _ _ _ _ _ _ _ _ _ _ _ _ _ _ _ _ _ _ _ _ _ _ _ _ _ _ _ _ _ _ _ _ _ _ _ _ _ _ _ _ _ _ _ _ _ _ _ _ _ _ _ _ _ _ _ _ _ _ _ _ _ _ _ _ _ _ _ _ _ _ _ _ _ _ _ _ _ _ _ _ _ _ _ _ _ _ _ _ _ _ _ _ _ _ _ _ _ _ _ _ _ _ _ _ _ _ _ _ _ _ _ _ _ _ _ _ _ _ _ _ _ _ _ _ _ _ _ _ _ _ _ _ _ _ _ _ _ _ _ _ _ _ _ _ _ _ _ _ _ _ _ _ _ _ _ _ _ _ _ _ _ _ _ _ _ _ _ _ _ _ _ _ _ _ _ _ _ _ _ _ _ _ _ _ _ _ _ _ _ _ _ _ _ _ _ _ _ _ _ _ _ _ _ _ _ _ _ _ _ _)
  case first=>
    clear hK0 HA
    go_wp2_with fail
    go_loopw [13] (fun i wr=>∃ (k:Nat) (Q:Nat→Prop) (S:E.Sc × Us) (v:Nat→Int) (fa fp:Nat→Nat),k ≤ 8∧i = .int .i64 k∧Az w wr t c p ga gp m Q S (LI fa) (LI fp)∧Ma S (fun r=>m r ≠ none) v fa fp k) (fun i _=>8 - (D.iv i).toNat)
    case atStart=>exact ⟨0,_,_,_,_,_,by omega,rfl,HX0.out,HN0.out⟩
    case round=>
      clear HX0 HN0
      obtain ⟨k,Q,S,v,fa,fp,hk,rfl,hX,hN⟩:=hrel
      have HX:Hid (Az w wr t c p ga gp m Q S (LI fa) (LI fp)):=hX
      have HN:Hid (Ma S (fun r=>m r ≠ none) v fa fp k):=hN
      clear hX hN
      by_cases hlt:k < 8
      case' pos=>
        have p0:wr.cell? ⟨gp,k,none⟩ = some (.int .i64 (fp k:Nat)):=(HX.out.P.bk.cell k).trans (rov_get hlt)
        have p9:=HX.out.P.bk.frozen k
        have hi0:(0:Int) ≤ (k:Int):=Int.natCast_nonneg k
        have hi1:(k:Int) < 8:=by omega
        have HX1:Hid (Az w (wr.setCell ⟨gp,k,none⟩ (.int .i64 3)) t c p ga gp m Q S (LI fa) (LI (setf fp k 3))):=HX.out.putP' hlt 3
        go_upto_region 8 with fail
        rename_i K1 hK1
        go_cut [50] from 49 to 50 (fun ta wx=>wx = wr.setCell ⟨gp,k,none⟩ (.int .i64 3))
        case first=>
          go_wp2_with fail
          go_meet
          case rel=>rfl
        case rest=>
          obtain rfl:=hcut
          clear p0 p9 HX
          generalize wr.setCell ⟨gp,k,none⟩ (.int .i64 3) = w1 at HX1 ⊢
          refine hK1 _ _ ?_
          refine wp_seq_k (fun K2 hK2 => ?_)
          go_cut [54] from 51 to 61 (fun ta wx=>∃ (Q:Nat→Prop) (n:Nat),n < 4∧Az w wx t c p ga gp m Q S (LI fa) (LI (setf fp k n)))
          case first=>
            clear hK1 hK2
            by_cases hn:k < nq
            · have d1:decide ((k:Int) < (nq:Int)) = true:=by simp; omega
              obtain ⟨b,off,rfl,hc⟩:=HQ.out.1.at' HX1.out.be hn
              have hb:=HQ.out.2 k hn
              obtain ⟨n,hn'⟩:∃ n:Nat,fq k % 4 = n:=⟨(fq k % 4).toNat,by omega⟩
              have hn4:n < 4:=by omega
              have CW:Hid (∀ W,Calls Tryz.prog 8 #[.int .i64 (fq k),.int .i64 4] W fun e w'=>e = .returned (.int .i64 (n:Nat))∧w' = W):=fun W=>by
                have:=Within_any (fq k) 4 (by decide) (by decide) hb.1 (by omega) W
                rw [hn'] at this
                exact this
              have p0:w1.cell? ⟨gp,k,none⟩ = some (.int .i64 (setf fp k 3 k:Nat)):=(HX1.out.P.bk.cell k).trans (rov_get hlt)
              have p9:=HX1.out.P.bk.frozen k
              have HX2:Hid (Az w (w1.setCell ⟨gp,k,none⟩ (.int .i64 (n:Nat))) t c p ga gp m Q S (LI fa) (LI (setf fp k n))):=by
                have:=HX1.out.putP' hlt n
                rw [setf_setf] at this
                exact this
              have hnI:(k:Int) < (nq:Int):=by omega
              generalize fq k = z at *
              generalize setf fp k 3 k = zz at *
              clear hn' hb
              go_wp2_with (go_at_call 8; refine (CW.out _).mono ?_; rintro e w' ⟨rfl,hw'⟩; obtain rfl:=hw'.symm)
              go_meet
              case rel=>exact ⟨_,n,hn4,HX2.out⟩
            · have d1:decide ((k:Int) < (nq:Int)) = false:=by simp; omega
              go_wp2_with fail
              go_meet
              case rel=>exact ⟨_,3,by omega,HX1.out⟩
          case rest=>
            obtain ⟨Q2,n,hn4,hX2⟩:=hcut
            have HX2:Hid (Az w wc t c p ga gp m Q2 S (LI fa) (LI (setf fp k n))):=hX2
            clear hX2 HX1
            refine hK2 _ _ ?_
            refine wp_seq_k (fun K3 hK3 => ?_)
            generalize wc = w2 at HX2 ⊢
            go_cut [65] from 62 to 72 (fun ta wx=>∃ (Q:Nat→Prop) (a:Nat),a < 5∧Az w wx t c p ga gp m Q S (LI (setf fa k a)) (LI (setf fp k n)))
            case first=>
              clear hK1 hK2 hK3
              by_cases hn:k < nf
              · have d1:decide ((k:Int) < (nf:Int)) = true:=by simp; omega
                obtain ⟨b,off,rfl,hc⟩:=HF.out.1.at' HX2.out.be hn
                have hb:=HF.out.2 k hn
                obtain ⟨a,ha'⟩:∃ a:Nat,ff k % 5 = a:=⟨(ff k % 5).toNat,by omega⟩
                have ha5:a < 5:=by omega
                have CW:Hid (∀ W,Calls Tryz.prog 8 #[.int .i64 (ff k),.int .i64 5] W fun e w'=>e = .returned (.int .i64 (a:Nat))∧w' = W):=fun W=>by
                  have:=Within_any (ff k) 5 (by decide) (by decide) hb.1 (by omega) W
                  rw [ha'] at this
                  exact this
                have p0:w2.cell? ⟨ga,k,none⟩ = some (.int .i64 (fa k:Nat)):=(HX2.out.A.bk.cell k).trans (rov_get hlt)
                have p9:=HX2.out.A.bk.frozen k
                have HX3:Hid (Az w (w2.setCell ⟨ga,k,none⟩ (.int .i64 (a:Nat))) t c p ga gp m Q2 S (LI (setf fa k a)) (LI (setf fp k n))):=HX2.out.putA' hlt a
                have hnI:(k:Int) < (nf:Int):=by omega
                generalize ff k = z at *
                generalize fa k = zz at *
                clear ha' hb
                go_wp2_with (go_at_call 8; refine (CW.out _).mono ?_; rintro e w' ⟨rfl,hw'⟩; obtain rfl:=hw'.symm)
                go_meet
                case rel=>exact ⟨_,a,ha5,HX3.out⟩
              · have d1:decide ((k:Int) < (nf:Int)) = false:=by simp; omega
                go_wp2_with fail
                go_meet
                case rel=>exact ⟨_,fa k,HN.out.a5 k,by rw [setf_self]; exact HX2.out⟩
            case rest=>
              obtain ⟨Q3,a,ha5,hX3⟩:=hcut
              have HX3:Hid (Az w wc t c p ga gp m Q3 S (LI (setf fa k a)) (LI (setf fp k n))):=hX3
              clear hX3 HX2
              refine hK3 _ _ ?_
              generalize wc = w3 at HX3 ⊢
              have n0:w3.cell? ⟨gp,k,none⟩ = some (.int .i64 (n:Nat)):=((HX3.out.P.bk.cell k).trans (rov_get hlt)).trans (by rw [setf_at])
              have a0:w3.cell? ⟨ga,k,none⟩ = some (.int .i64 (a:Nat)):=((HX3.out.A.bk.cell k).trans (rov_get hlt)).trans (by rw [setf_at])
              obtain ⟨f,hf⟩:∃ f:Nat,f = 40 + a:=⟨_,rfl⟩
              have f1:(40:Int) + (a:Int) = (f:Int):=by omega
              have f2:=(wrap_small (n:=f) (by omega)).1
              have HFA:Hid (f = 40 + a):=hf
              clear hf hK1 hK2 hK3
              go_upto_region 13 with fail
              have hga:ga < w3.heap.size:=HX3.out.A.bk.lt
              have hgp:gp < w3.heap.size:=HX3.out.P.bk.lt
              have HS:Hid (∀ o,(w3.alloc o).cell? ⟨gp,k,none⟩ = some (.int .i64 (n:Nat))∧(w3.alloc o).cell? ⟨ga,k,none⟩ = some (.int .i64 (a:Nat))):=fun o=>
                ⟨(((Below.refl w3.heap.size w3).alloc (Nat.le_refl _) o).cell (p:=⟨gp,k,none⟩) hgp).trans n0,(((Below.refl w3.heap.size w3).alloc (Nat.le_refl _) o).cell (p:=⟨ga,k,none⟩) hga).trans a0⟩
              clear hga hgp
              go_region_held3 (fun W=>W.cell? ⟨gp,k,none⟩ = some (.int .i64 (n:Nat))∧W.cell? ⟨ga,k,none⟩ = some (.int .i64 (a:Nat))) (first | exact ⟨n0,a0⟩ | exact HS.out _) (fail)
              have hu:decide ((1:Int) < (n:Int)) = decide (1 < n):=decide_eq_decide.2 (by omega)
              simp only [hu]
              clear n0 a0 HS hu f1 f2
              obtain ⟨r,hr⟩:∃ r,decide (0 < n) = r:=⟨_,rfl⟩
              obtain ⟨u,hu⟩:∃ u,decide (1 < n) = u:=⟨_,rfl⟩
              have hru:u = true→r = true:=fun h=>by
                rw [← hu] at h
                rw [← hr]
                simp at h ⊢
                omega
              rw [hr,hu]
              have HRU:Hid (decide (0 < n) = r∧decide (1 < n) = u):=⟨hr,hu⟩
              clear hr hu
              obtain ⟨AE,HAE⟩:∃ AE:Array Value,Hid (AE = #[.bool true,.bool false,.bool r,.bool u,.bool false,.bool false,.int .i64 (f:Nat)]):=⟨_,rfl⟩
              obtain ⟨Q4,X4,B4⟩:=HX3.out.box 32 [.bool true,.bool false,.bool r,.bool u,.bool false,.bool false,.int .i64 (f:Nat)]
              have hb:Below (w3.alloc (.cells #[.bool true,.bool false,.bool r,.bool u,.bool false,.bool false,.int .i64 (f:Nat)] 32)).heap.size (w3.alloc (.cells #[.bool true,.bool false,.bool r,.bool u,.bool false,.bool false,.int .i64 (f:Nat)] 32)) (w3.alloc (.cells #[.bool true,.bool false,.bool r,.bool u,.bool false,.bool false,.int .i64 (f:Nat)] 32)).drew:=(Below.refl _ _).drew
              have HX4:Hid (Az w (w3.alloc (.cells #[.bool true,.bool false,.bool r,.bool u,.bool false,.bool false,.int .i64 (f:Nat)] 32)).drew t c p ga gp m Q4 S (LI (setf fa k a)) (LI (setf fp k n))):=X4.below hb
              have HB4:Hid (Bb Q4 w (w3.alloc (.cells #[.bool true,.bool false,.bool r,.bool u,.bool false,.bool false,.int .i64 (f:Nat)] 32)).drew w3.heap.size 32 [.bool true,.bool false,.bool r,.bool u,.bool false,.bool false,.int .i64 (f:Nat)]):=B4.below hb
              clear X4 B4 hb HX3
              generalize (w3.alloc (.cells #[.bool true,.bool false,.bool r,.bool u,.bool false,.bool false,.int .i64 (f:Nat)] 32)).drew = w4 at HX4 HB4 ⊢
              generalize w3.heap.size = ge at HB4 ⊢
              have hle:=run_loadAt_mid w4 ge 0 32 AE.toList _ (fun i v hv=>by rw [HAE.out] at hv; rw [HB4.out.bk.cell]; rw [Nat.zero_add]; exact hv) Tryz.underlying32 rfl (by rw [HAE.out]; exact Tryz.sizeE)
              have hle:(Instr.loadAt 32 (.pointer (some ⟨ge,0,none⟩))).run Tryz.prog w4 = .ok (.agg AE) w4:=hle
              have f0:40 ≤ f:=by have:=HFA.out; omega
              have f1:f < 64:=by have:=HFA.out; omega
              have CS:=set_iv HX4.out.M.q HX4.out.hN HN.out.I (pg:=k) (by omega) true false r u false false (f:Nat) (may_set hru f1) ⟨f,rfl,f0,f1⟩
              rw [show N.lo true false r u false false + ((f:Nat):Int) * 256 = wo (f:Nat) r u false false from rfl] at CS
              have CS:Hid (Calls _ _ _ _ _):=CS
              clear hru f0 f1
              go_wp2_with (refine wpList_load_wg rfl 32 (.tmp 14) rfl (.pointer (some ⟨ge,0,none⟩)) (.agg AE) rfl hle ?_)
              rw [HAE.out]
              refine CS.out.mono ?_
              rintro e w5 ⟨rfl,k1,k2,hI⟩
              have HX5:Hid (Az w w5 t c p ga gp m Q4 (setS S.1 0 k true (wo (f:Nat) r u false false),S.2) (LI (setf fa k a)) (LI (setf fp k n))):=HX4.out.turn k1 k2
              have HN5:Hid (∃ v,Ma (setS S.1 0 k true (wo (f:Nat) r u false false),S.2) (fun r=>m r ≠ none) v (setf fa k a) (setf fp k n) (k + 1)):=by
                have e1:=HFA.out
                obtain ⟨e2,e3⟩:=HRU.out
                subst e1 e2 e3
                exact ⟨_,HN.out.next ha5 hlt hI (set_l _ _ _ _ _) (fun y hy=>HN.out.I.set_hi (by omega) true _ hy)⟩
              clear k1 k2 hI CS hle HX4 HB4 HAE HRU HFA HN
              generalize setS S.1 0 k true (wo (f:Nat) r u false false) = s5 at HX5 HN5
              go_wp2
              obtain ⟨v5,hN5⟩:=HN5.out
              exact ⟨⟨k + 1,_,_,_,_,_,by omega,by go_num,HX5.out,hN5⟩,by simp [D.iv]; omega⟩
      case' neg=>
        obtain rfl:k = 8:=by omega
        clear hlt
        go_wp2_with fail
        go_meet
        case rel=>exact ⟨_,_,_,_,_,HX.out,HN.out⟩
def i8L0:List Value:=[.int .i64 0,.int .i64 0,.int .i64 0,.int .i64 0,.int .i64 0,.int .i64 0,.int .i64 0,.int .i64 0]
set_option maxRecDepth 1000000 in
set_option maxHeartbeats 8000000 in
theorem memory_any {w : World} {af aq ao : Option Addr} {nf cf nq cq l cl : Nat} {ff fq : Nat → Int} (hfl : nf ≤ maxLen) (hf : Arg w af nf ff) (bf : ∀ i, i < nf → -9223372036854775808 ≤ ff i ∧ ff i ≤ 9223372036854775807) (hql : nq ≤ maxLen) (hq : Arg w aq nq fq) (bq : ∀ i, i < nq → -9223372036854775808 ≤ fq i ∧ fq i ≤ 9223372036854775807) (hl : l ≤ maxLen) (ha : Al w ao l) :
    Calls Tryz.prog 3 #[.slice af nf cf,.slice aq nq cq,.slice ao l cl] w fun e w'=>e = .returned (.bool true)∧Below w.heap.size w w':=by
  have HF:Hid (nf ≤ maxLen∧Arg w af nf ff∧∀ i,i < nf → -9223372036854775808 ≤ ff i∧ff i ≤ 9223372036854775807):=⟨hfl,hf,bf⟩
  have HQ:Hid (nq ≤ maxLen∧Arg w aq nq fq∧∀ i,i < nq → -9223372036854775808 ≤ fq i∧fq i ≤ 9223372036854775807):=⟨hql,hq,bq⟩
  have HA:Hid (l ≤ maxLen∧Al w ao l):=⟨hl,ha⟩
  clear hfl hf bf hql hq bq hl ha
  go_enter Tryz.func3,Tryz.ntmps3
  go_wp2_with fail
  refine (over16_any w).mono ?_
  rintro e W ⟨c,t,p,n,S,m,rfl,O⟩
  have HC0:Hid (Cq w W t c p S m∧Ma S (fun r=>m r ≠ none) (fun _=>0) (fun _=>0) (fun _=>0) 0):=⟨O.cq,O.iv.1,O.iv.2.2,fun i hi=>absurd hi (Nat.not_lt_zero i),fun _=>by decide,fun y h1 h2=>z8_byte O.gd.z8 (by have:=O.cq.q.byte; rw [hw_n] at this; exact this) h1 h2⟩
  clear O
  go_wp2_with fail
  refine (awake16_any _).mono ?_
  rintro e W1 ⟨rfl,b1⟩
  have C1:=HC0.out.1.below b1
  have M0:Mq (fun k=>k < w.heap.size) (fun k=>k < w.heap.size) w W1 t c p (hwOf us) (par us 0) S m:=⟨C1.q,fun _ z=>z,fun k hk=>hk,Ky.of_below C1.be (fun k hk=>hk)⟩
  obtain ⟨Q1,hq1,M1,A1,l1⟩:=M0.box 29 i8L0
  obtain ⟨Q2,hq2,M2,P2,l2⟩:=M1.box 29 i8L0
  have e1:(W1.alloc (.cells i8L0.toArray 29)).heap.size = W1.heap.size + 1:=by simp
  rw [e1] at P2
  have HX:Hid (Az w ((W1.alloc (.cells i8L0.toArray 29)).alloc (.cells i8L0.toArray 29)) t c p W1.heap.size (W1.heap.size + 1) m Q2 S (LI (fun _=>0)) (LI (fun _=>0))):=
    ⟨M2,((A1.below l2).wide hq2).congr (show i8L0 = LI (fun _=>0) from rfl),P2.congr (show i8L0 = LI (fun _=>0) from rfl),Nat.lt_succ_self _,C1.hN⟩
  have HN:Hid _:=HC0.out.2
  simp only [i8L0] at HX
  clear C1 M0 M1 A1 l1 M2 P2 l2 e1 hq1 hq2 HC0 b1
  go_upto_region 4 with fail
  rename_i K1 hK1
  go_cut [11,12] from 11 to 12 (fun ta tb wx=>ta = .pointer (some ⟨W1.heap.size,0,none⟩)∧tb = .pointer (some ⟨W1.heap.size + 1,0,none⟩)∧wx = ((W1.alloc (.cells #[.int .i64 0,.int .i64 0,.int .i64 0,.int .i64 0,.int .i64 0,.int .i64 0,.int .i64 0,.int .i64 0] 29)).alloc (.cells #[.int .i64 0,.int .i64 0,.int .i64 0,.int .i64 0,.int .i64 0,.int .i64 0,.int .i64 0,.int .i64 0] 29)))
  case first=>
    go_wp2_with fail
    go_meet
    case rel=>exact ⟨rfl,rfl,rfl⟩
  case rest=>
    obtain ⟨rfl,rfl,rfl⟩:=hcut
    exact hK1 _ _ (mem_one HF.out.2.1 HF.out.2.2 HF.out.1 HQ.out.2.1 HQ.out.2.2 HQ.out.1 HA.out.1 HA.out.2 HX.out HN.out _ _ _ _ _ _ _ _ _ _ _ _ _ _ _ _ _ _ _ _ _ _ _ _ _ _ _ _ _ _ _ _ _ _ _ _ _ _ _ _ _ _ _ _ _ _ _ _ _ _ _ _ _ _ _ _ _ _ _ _ _ _ _ _ _ _ _ _ _ _ _ _ _ _ _ _ _ _ _ _ _ _ _ _ _ _ _ _ _ _ _ _ _ _ _ _ _ _ _ _ _ _ _ _ _ _ _ _ _ _ _ _ _ _ _ _ _ _ _ _ _ _ _ _ _ _ _ _ _ _ _ _ _ _ _ _ _ _ _ _ _ _ _ _ _ _ _ _ _ _ _ _ _ _ _ _ _ _ _ _ _ _ _ _ _ _ _ _ _ _ _ _ _ _ _ _ _ _ _ _ _ _ _ _ _ _ _ _ _ _ _ _ _ _ _ _ _ _ _ _ _ _ _ _ _ _ _ _ _ _ _ _ _ _ _ _ _ _ _ _ _ _ _ _ _ _ _ _ _ _ _ _ _ _ _ _ _ _ _ _ _ _ _ _ _ _ _ _ _ _ _ _ _ _ _)
end Go.Proofs.YtgljdbabagdhlaaGreat.Pg
namespace Go.Proofs.YtgljdbabagdhlaaGreat
open Go.ChangeShapes Go.WideShapes Go.ChangeAt Go.RowKit Go.Deep
set_option maxRecDepth 100000 in
set_option maxHeartbeats 40000000 in
theorem joinedMmuMemory:joinedFacts Tryz.prog 3 Tryz.f3 Rows.mmuMemorySpec Rows.mmuMemoryRow = true:=by
  unfold joinedFacts
  simp only [Bool.and_eq_true]
  repeat' apply And.intro
  all_goals (as_aux_lemma=>kernel_rfl)
end Go.Proofs.YtgljdbabagdhlaaGreat
