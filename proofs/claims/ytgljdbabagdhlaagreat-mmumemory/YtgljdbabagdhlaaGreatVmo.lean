/- The end of a round of MmuMemory's loop of accesses: what was loaded and stored, the bytes told or kept; no condition but those named. -/
import Derived.Test.YtgljdbabagdhlaaGreatVHa
import Derived.Test.YtgljdbabagdhlaaGreatVmi
import Derived.Deep.DeepCutAuto
import Derived.Deep.QuietTactic
import Derived.BigQuiet
import Derived.Deep.MidRow
import Derived.Deep.RegionHeld3
import Derived.RegionTactic
import Derived.ChangeAlike
import Derived.Laws.ShiftsVarLaws
namespace Go.Proofs.YtgljdbabagdhlaaGreat.Pg
open Go.ChangeShapes Go.WideShapes Go.ChangeAt Go.RowKit
set_option linter.unusedVariables false
set_option linter.unusedSimpArgs false
def ivn:Value→Int
  | .int _ i=>i
  | _=>0
def dropS:Nat→Code→Code
  | 0,c=>c
  | n + 1,.seq _ b=>dropS n b
  | _,c=>c
def blk3:Code→Code
  | .seq (.seq _ (.block _ (.loop (.seq _ (.seq (.block _ x) _))))) _=>x
  | c=>c
noncomputable def accs (n:Nat):Code:=dropS n (blk3 (dropS 7 (Tryz.f3.body.getD .skip)))
def setf {α:Type} (f:Nat→α) (i:Nat) (x:α):Nat→α:=fun k=>if k = i then x else f k
def dn (B:Nat→Int) (b j z:Nat) (x:Int):Nat→Int:=fun i=>if b + j ≤ i∧i < b + z then F.byt x (i - b) else B i
theorem dn_z (B:Nat→Int) (b z:Nat) (x:Int):dn B b z z x = B:=by
  funext i
  unfold dn
  rw [if_neg (by omega)]
theorem dn_next (B:Nat→Int) {b j z:Nat} (x:Int) (h:j < z):setf (dn B b (j + 1) z x) (b + j) (F.byt x j) = dn B b j z x:=by
  funext i
  unfold setf dn
  by_cases e:i = b + j
  · subst e
    rw [if_pos rfl,if_pos (by omega),Nat.add_sub_cancel_left]
  · rw [if_neg e]
    by_cases q:b + (j + 1) ≤ i∧i < b + z
    · rw [if_pos q,if_pos (by omega)]
    · rw [if_neg q,if_neg (by omega)]
theorem num_front' (f:Nat→Int) (a d:Nat):F.num f a (d + 1) = F.num f (a + 1) d * 256 + f a:=by
  rw [Nat.add_comm d 1,F.num_split f a 1 d]
  simp [F.num]
  omega
structure Ys (Y:World→(Nat→Bool)→(Nat→Bool)→(Nat→Int)→Prop) (ga gb gl gs gx gg pg a:Nat) (xs:Bool) (xv gv:Int):Prop where
  A:∀ w lo st B,Y w lo st B→w.cell? ⟨ga,pg,none⟩ = some (.int .i64 (a:Nat))
  B:∀ w lo st B,Y w lo st B→∀ i,i < 1280→w.cell? ⟨gb,i,none⟩ = some (.int .u8 (B i))∧w.frozen? ⟨gb,i,none⟩ = false∧0 ≤ B i∧B i < 256
  L:∀ w lo st B,Y w lo st B→w.cell? ⟨gl,pg,none⟩ = some (.bool (lo pg))∧w.frozen? ⟨gl,pg,none⟩ = false
  S:∀ w lo st B,Y w lo st B→w.cell? ⟨gs,pg,none⟩ = some (.bool (st pg))∧w.frozen? ⟨gs,pg,none⟩ = false
  x4:∀ w lo st B,Y w lo st B→w.cell? ⟨gx,4,none⟩ = some (.bool xs)
  x5:∀ w lo st B,Y w lo st B→w.cell? ⟨gx,5,none⟩ = some (.int .u64 xv)
  g0:∀ w lo st B,Y w lo st B→w.cell? ⟨gg,0,none⟩ = some (.int .u64 gv)
  pL:∀ w lo st B b,Y w lo st B→Y (w.setCell ⟨gl,pg,none⟩ (.bool b)) (setf lo pg b) st B
  pS:∀ w lo st B b,Y w lo st B→Y (w.setCell ⟨gs,pg,none⟩ (.bool b)) lo (setf st pg b) B
  pB:∀ w lo st B i x,Y w lo st B→i < 1280→0 ≤ x→x < 256→Y (w.setCell ⟨gb,i,none⟩ (.int .u8 x)) lo st (setf B i x)
  dr:∀ w lo st B n,Y w lo st B→Y (w.drewN n) lo st B
set_option maxRecDepth 1000000 in
set_option maxHeartbeats 8000000 in
theorem acc_tail_ld {Y : World → (Nat → Bool) → (Nat → Bool) → (Nat → Int) → Prop} {ga gb gl gs gx gg pg a o z : Nat} {xv gv : Int} (hY : Ys Y ga gb gl gs gx gg pg a false xv gv) {w : World} {lo st : Nat → Bool} {B : Nat → Int} (h : Y w lo st B) (hp : pg < 8) (ha : a < 5) (h1 : 1 ≤ z) (h8 : z ≤ 8) (ho : o + z ≤ 256) (hg : gv = F.num B (a * 256 + o) z) {K : Exit → Act → World → Prop} (s0 s1 s2 s3 s4 s5 s6 s7 s8 s9 s10 s12 s13 s14 s18 s23 s24 s27 s28 s29 s30 s31 s32 s33 s34 s35 s36 s37 s38 s39 s40 s41 s42 s43 s44 s45 s46 s47 s48 s49 s50 s51 s52 s53 s54 s55 s56 s57 s58 s59 s60 s61 s62 s63 s64 s65 s66 s67 s68 s69 s70 s71 s72 s73 s74 s75 s76 s77 s78 s79 s80 s81 s82 s83 s84 s85 s86 s87 s88 s89 s90 s91 s92 s93 s94 s95 s96 s97 s98 s99 s100 s101 s102 s103 s104 s105 s106 s107 s108 s109 s110 s111 s112 s113 s114 s115 s116 s117 s118 s119 s120 s121 s122 s123 s124 s125 s126 s127 s128 s129 s130 s131 s132 s133 s134 s135 s136 s137 s138 s139 s140 s141 s142 s143 s144 s145 s146 s147 s148 s149 s150 s151 s152 s153 s154 s155 s156 s157 s158 s159 s160 s161 s162 s163 s164 s165 s166 s167 s168 s169 s170 s171 s172 s173 s174 s175 s176 s177 s178 s179 s180 s181 s182 s183 s184 s185 s186 s187 s188 s189 s190 s191 s192 s193 s194 s195 s196 s197 s198 s199 s200 s201 s202 s203 s204 s205 s206 s207 s208 s209 s210 s211 s212 s213 s214 s215 s216 s217 s218 s219 s220 s221 s222 s223 s224 s225 s226 s227 s228 s229 s230 s231 s232 s233 s234 s235 s236 s237 s238 s239 s240 s241 s242 s243 s244 s245 s246 s247 s248 s249 s250 s251 s252 s253 s254 s255 s256 s257 s258 s259 s260 s261 s262 : Value)
    (hK:∀ (u28 u29 u182 u183 u184 u185 u186 u187 u188 u189 u190 u191 u192 u193 u194 u195 u196 u197 u198 u199 u200 u201 u202 u203 u204 u205 u206 u207 u208 u209 u210 u211 u212 u213 u214 u215 u216 u217 u218 u219 u220 u221 u222 u223 u224 u225 u226 u227 u228 u229 u230 u231 u232 u233:Value) (w' : World),Y w' (setf lo pg true) (setf st pg (st pg)) B→K .normal ⟨List.toArray [s0,s1,s2,s3,s4,s5,s6,s7,s8,s9,s10,.pointer (some ⟨ga,0,none⟩),s12,s13,s14,.pointer (some ⟨gb,0,none⟩),.pointer (some ⟨gl,0,none⟩),.pointer (some ⟨gs,0,none⟩),s18,.pointer (some ⟨gx,0,none⟩),.int .i64 (pg:Nat),.int .i64 (z:Nat),.int .i64 (o:Nat),s23,s24,.bool true,.pointer (some ⟨gg,0,none⟩),s27,u28,u29,s30,s31,s32,s33,s34,s35,s36,s37,s38,s39,s40,s41,s42,s43,s44,s45,s46,s47,s48,s49,s50,s51,s52,s53,s54,s55,s56,s57,s58,s59,s60,s61,s62,s63,s64,s65,s66,s67,s68,s69,s70,s71,s72,s73,s74,s75,s76,s77,s78,s79,s80,s81,s82,s83,s84,s85,s86,s87,s88,s89,s90,s91,s92,s93,s94,s95,s96,s97,s98,s99,s100,s101,s102,s103,s104,s105,s106,s107,s108,s109,s110,s111,s112,s113,s114,s115,s116,s117,s118,s119,s120,s121,s122,s123,s124,s125,s126,s127,s128,s129,s130,s131,s132,s133,s134,s135,s136,s137,s138,s139,s140,s141,s142,s143,s144,s145,s146,s147,s148,s149,s150,s151,s152,s153,s154,s155,s156,s157,s158,s159,s160,s161,s162,s163,s164,s165,s166,s167,s168,s169,s170,s171,s172,s173,s174,s175,s176,s177,s178,s179,s180,s181,u182,u183,u184,u185,u186,u187,u188,u189,u190,u191,u192,u193,u194,u195,u196,u197,u198,u199,u200,u201,u202,u203,u204,u205,u206,u207,u208,u209,u210,u211,u212,u213,u214,u215,u216,u217,u218,u219,u220,u221,u222,u223,u224,u225,u226,u227,u228,u229,u230,u231,u232,u233,s234,s235,s236,s237,s238,s239,s240,s241,s242,s243,s244,s245,s246,s247,s248,s249,s250,s251,s252,s253,s254,s255,s256,s257,s258,s259,s260,s261,s262],[]⟩ w') :
    Code.wp Tryz.prog (accs 11) K ⟨List.toArray [s0,s1,s2,s3,s4,s5,s6,s7,s8,s9,s10,.pointer (some ⟨ga,0,none⟩),s12,s13,s14,.pointer (some ⟨gb,0,none⟩),.pointer (some ⟨gl,0,none⟩),.pointer (some ⟨gs,0,none⟩),s18,.pointer (some ⟨gx,0,none⟩),.int .i64 (pg:Nat),.int .i64 (z:Nat),.int .i64 (o:Nat),s23,s24,.bool true,.pointer (some ⟨gg,0,none⟩),s27,s28,s29,s30,s31,s32,s33,s34,s35,s36,s37,s38,s39,s40,s41,s42,s43,s44,s45,s46,s47,s48,s49,s50,s51,s52,s53,s54,s55,s56,s57,s58,s59,s60,s61,s62,s63,s64,s65,s66,s67,s68,s69,s70,s71,s72,s73,s74,s75,s76,s77,s78,s79,s80,s81,s82,s83,s84,s85,s86,s87,s88,s89,s90,s91,s92,s93,s94,s95,s96,s97,s98,s99,s100,s101,s102,s103,s104,s105,s106,s107,s108,s109,s110,s111,s112,s113,s114,s115,s116,s117,s118,s119,s120,s121,s122,s123,s124,s125,s126,s127,s128,s129,s130,s131,s132,s133,s134,s135,s136,s137,s138,s139,s140,s141,s142,s143,s144,s145,s146,s147,s148,s149,s150,s151,s152,s153,s154,s155,s156,s157,s158,s159,s160,s161,s162,s163,s164,s165,s166,s167,s168,s169,s170,s171,s172,s173,s174,s175,s176,s177,s178,s179,s180,s181,s182,s183,s184,s185,s186,s187,s188,s189,s190,s191,s192,s193,s194,s195,s196,s197,s198,s199,s200,s201,s202,s203,s204,s205,s206,s207,s208,s209,s210,s211,s212,s213,s214,s215,s216,s217,s218,s219,s220,s221,s222,s223,s224,s225,s226,s227,s228,s229,s230,s231,s232,s233,s234,s235,s236,s237,s238,s239,s240,s241,s242,s243,s244,s245,s246,s247,s248,s249,s250,s251,s252,s253,s254,s255,s256,s257,s258,s259,s260,s261,s262],[]⟩ w:=by
  conv=>arg 2; whnf
  dsimp only
  dsimp only at hK
  have HK:Hid _:=hK
  have HS:Hid (Ys Y ga gb gl gs gx gg pg a false xv gv):=hY
  have HY:Hid (Y w lo st B):=h
  clear hK hY h
  obtain ⟨l0,l9⟩:=HS.out.L _ _ _ _ HY.out
  have hp0:(0:Int) ≤ (pg:Int):=Int.natCast_nonneg pg
  have hp1:(pg:Int) < 8:=by omega
  go_upto_region 38 with fail
  have HY1:Hid (Y (w.setCell ⟨gl,pg,none⟩ (.bool true)) (setf lo pg true) st B):=HS.out.pL _ _ _ _ _ HY.out
  clear HY l0 l9
  generalize w.setCell ⟨gl,pg,none⟩ (.bool true) = w1 at HY1 ⊢
  obtain ⟨sb,hsb⟩:∃ sb,st pg = sb:=⟨_,rfl⟩
  obtain ⟨l1,l8⟩:=HS.out.S _ _ _ _ HY1.out
  have l2:=HS.out.x4 _ _ _ _ HY1.out
  rw [hsb] at l1 HK
  have HY2:Hid (Y (w1.setCell ⟨gs,pg,none⟩ (.bool sb)) (setf lo pg true) (setf st pg sb) B):=HS.out.pS _ _ _ _ _ HY1.out
  clear HY1 hsb
  have hzz:IntKind.i64.wrap ((z:Int) - 1) = (z:Int) - 1:=by simp only [IntKind.wrap,IntKind.signed,IntKind.bits]; simp; omega
  cases sb
  all_goals
    go_upto_region 39 with fail
    generalize w1.setCell ⟨gs,pg,none⟩ (.bool _) = w2 at HY2 ⊢
    clear l1 l2 l8
    go_wp2_with fail
    go_loopw [28,29] (fun v i wr=>∃ k d:Nat,k + d = z∧i = .int .i64 ((k:Int) - 1)∧v = .int .u64 (F.num B (a * 256 + o + k) d)∧Y wr (setf lo pg true) (setf st pg _) B) (fun _ i _=>(ivn i + 1).toNat)
    case atStart=>exact ⟨z,0,by omega,rfl,rfl,HY2.out⟩
    case round=>
      clear HY2
      obtain ⟨k,d,hk,rfl,rfl,hYr⟩:=hrel
      have HYR:Hid (Y wr (setf lo pg true) (setf st pg _) B):=hYr
      clear hYr
      cases k with
      | zero=>
        obtain rfl:d = z:=by omega
        have g0:=HS.out.g0 _ _ _ _ HYR.out
        rw [hg] at g0
        go_wp2
        exact HK.out _ _ _ _ _ _ _ _ _ _ _ _ _ _ _ _ _ _ _ _ _ _ _ _ _ _ _ _ _ _ _ _ _ _ _ _ _ _ _ _ _ _ _ _ _ _ _ _ _ _ _ _ _ _ _ HYR.out
      | succ k=>
        have a0:=HS.out.A _ _ _ _ HYR.out
        have x4:=HS.out.x4 _ _ _ _ HYR.out
        have HE:Hid _:=num_front' B (a * 256 + o + k) d
        obtain ⟨c0,c1⟩:=F.num_lt B (a * 256 + o + k) (d + 1) (by omega) (fun i hi=>(HS.out.B _ _ _ _ HYR.out _ (by omega)).2.2)
        obtain ⟨c2,c3⟩:=F.num_lt B (a * 256 + o + k + 1) d (by omega) (fun i hi=>(HS.out.B _ _ _ _ HYR.out _ (by omega)).2.2)
        rw [HE.out] at c0 c1
        rw [show a * 256 + o + (k + 1) = a * 256 + o + k + 1 by omega,show ((k + 1:Nat):Int) - 1 = k by omega]
        generalize hr:F.num B (a * 256 + o + k + 1) d = r at *
        obtain ⟨q,hq⟩:∃ q,q = o + k:=⟨_,rfl⟩
        have hq1:(o:Int) + (k:Int) = (q:Int):=by omega
        have hq2:IntKind.i64.wrap (q:Int) = (q:Int):=by simp only [IntKind.wrap,IntKind.signed,IntKind.bits]; simp; omega
        have hq0:(0:Int) ≤ (q:Int):=Int.natCast_nonneg q
        have hq3:(q:Int) < 256:=by omega
        have ha0:(0:Int) ≤ (a:Int):=Int.natCast_nonneg a
        have ha1:(a:Int) < 5:=by omega
        rw [show a * 256 + o + k = a * 256 + q by omega] at HE c0 c1 hr
        obtain ⟨b0,_,b1,b2⟩:=HS.out.B _ _ _ _ HYR.out (a * 256 + q) (by omega)
        have HEr:Hid (F.num B (a * 256 + q) (d + 1) = r * 256 + B (a * 256 + q)):=HE.out
        have HQ:Hid (q = o + k):=hq
        clear HE hr hq
        generalize hbq:B (a * 256 + q) = bq at *
        clear hbq
        go_wp2
        refine ⟨⟨k,d + 1,by omega,rfl, ?_,HYR.out⟩,by simp [ivn]⟩
        rw [show a * 256 + o + k = a * 256 + q by have:=HQ.out; omega,HEr.out]
set_option maxRecDepth 1000000 in
set_option maxHeartbeats 8000000 in
theorem acc_tail_st {Y : World → (Nat → Bool) → (Nat → Bool) → (Nat → Int) → Prop} {ga gb gl gs gx gg pg a o z : Nat} {xv gv : Int} (hY : Ys Y ga gb gl gs gx gg pg a true xv gv) {w : World} {lo st : Nat → Bool} {B : Nat → Int} (h : Y w lo st B) (hp : pg < 8) (ha : a < 5) (h1 : 1 ≤ z) (h8 : z ≤ 8) (ho : o + z ≤ 256) (hg : gv = 0) (v0 : 0 ≤ xv) (v1 : xv < 18446744073709551616) {K : Exit → Act → World → Prop} (s0 s1 s2 s3 s4 s5 s6 s7 s8 s9 s10 s12 s13 s14 s18 s23 s24 s27 s28 s29 s30 s31 s32 s33 s34 s35 s36 s37 s38 s39 s40 s41 s42 s43 s44 s45 s46 s47 s48 s49 s50 s51 s52 s53 s54 s55 s56 s57 s58 s59 s60 s61 s62 s63 s64 s65 s66 s67 s68 s69 s70 s71 s72 s73 s74 s75 s76 s77 s78 s79 s80 s81 s82 s83 s84 s85 s86 s87 s88 s89 s90 s91 s92 s93 s94 s95 s96 s97 s98 s99 s100 s101 s102 s103 s104 s105 s106 s107 s108 s109 s110 s111 s112 s113 s114 s115 s116 s117 s118 s119 s120 s121 s122 s123 s124 s125 s126 s127 s128 s129 s130 s131 s132 s133 s134 s135 s136 s137 s138 s139 s140 s141 s142 s143 s144 s145 s146 s147 s148 s149 s150 s151 s152 s153 s154 s155 s156 s157 s158 s159 s160 s161 s162 s163 s164 s165 s166 s167 s168 s169 s170 s171 s172 s173 s174 s175 s176 s177 s178 s179 s180 s181 s182 s183 s184 s185 s186 s187 s188 s189 s190 s191 s192 s193 s194 s195 s196 s197 s198 s199 s200 s201 s202 s203 s204 s205 s206 s207 s208 s209 s210 s211 s212 s213 s214 s215 s216 s217 s218 s219 s220 s221 s222 s223 s224 s225 s226 s227 s228 s229 s230 s231 s232 s233 s234 s235 s236 s237 s238 s239 s240 s241 s242 s243 s244 s245 s246 s247 s248 s249 s250 s251 s252 s253 s254 s255 s256 s257 s258 s259 s260 s261 s262 : Value)
    (hK:∀ (u28 u29 u182 u183 u184 u185 u186 u187 u188 u189 u190 u191 u192 u193 u194 u195 u196 u197 u198 u199 u200 u201 u202 u203 u204 u205 u206 u207 u208 u209 u210 u211 u212 u213 u214 u215 u216 u217 u218 u219 u220 u221 u222 u223 u224 u225 u226 u227 u228 u229 u230 u231 u232 u233:Value) (w' : World),Y w' (setf lo pg true) (setf st pg true) (dn B (a * 256 + o) 0 z xv)→K .normal ⟨List.toArray [s0,s1,s2,s3,s4,s5,s6,s7,s8,s9,s10,.pointer (some ⟨ga,0,none⟩),s12,s13,s14,.pointer (some ⟨gb,0,none⟩),.pointer (some ⟨gl,0,none⟩),.pointer (some ⟨gs,0,none⟩),s18,.pointer (some ⟨gx,0,none⟩),.int .i64 (pg:Nat),.int .i64 (z:Nat),.int .i64 (o:Nat),s23,s24,.bool true,.pointer (some ⟨gg,0,none⟩),s27,u28,u29,s30,s31,s32,s33,s34,s35,s36,s37,s38,s39,s40,s41,s42,s43,s44,s45,s46,s47,s48,s49,s50,s51,s52,s53,s54,s55,s56,s57,s58,s59,s60,s61,s62,s63,s64,s65,s66,s67,s68,s69,s70,s71,s72,s73,s74,s75,s76,s77,s78,s79,s80,s81,s82,s83,s84,s85,s86,s87,s88,s89,s90,s91,s92,s93,s94,s95,s96,s97,s98,s99,s100,s101,s102,s103,s104,s105,s106,s107,s108,s109,s110,s111,s112,s113,s114,s115,s116,s117,s118,s119,s120,s121,s122,s123,s124,s125,s126,s127,s128,s129,s130,s131,s132,s133,s134,s135,s136,s137,s138,s139,s140,s141,s142,s143,s144,s145,s146,s147,s148,s149,s150,s151,s152,s153,s154,s155,s156,s157,s158,s159,s160,s161,s162,s163,s164,s165,s166,s167,s168,s169,s170,s171,s172,s173,s174,s175,s176,s177,s178,s179,s180,s181,u182,u183,u184,u185,u186,u187,u188,u189,u190,u191,u192,u193,u194,u195,u196,u197,u198,u199,u200,u201,u202,u203,u204,u205,u206,u207,u208,u209,u210,u211,u212,u213,u214,u215,u216,u217,u218,u219,u220,u221,u222,u223,u224,u225,u226,u227,u228,u229,u230,u231,u232,u233,s234,s235,s236,s237,s238,s239,s240,s241,s242,s243,s244,s245,s246,s247,s248,s249,s250,s251,s252,s253,s254,s255,s256,s257,s258,s259,s260,s261,s262],[]⟩ w') :
    Code.wp Tryz.prog (accs 11) K ⟨List.toArray [s0,s1,s2,s3,s4,s5,s6,s7,s8,s9,s10,.pointer (some ⟨ga,0,none⟩),s12,s13,s14,.pointer (some ⟨gb,0,none⟩),.pointer (some ⟨gl,0,none⟩),.pointer (some ⟨gs,0,none⟩),s18,.pointer (some ⟨gx,0,none⟩),.int .i64 (pg:Nat),.int .i64 (z:Nat),.int .i64 (o:Nat),s23,s24,.bool true,.pointer (some ⟨gg,0,none⟩),s27,s28,s29,s30,s31,s32,s33,s34,s35,s36,s37,s38,s39,s40,s41,s42,s43,s44,s45,s46,s47,s48,s49,s50,s51,s52,s53,s54,s55,s56,s57,s58,s59,s60,s61,s62,s63,s64,s65,s66,s67,s68,s69,s70,s71,s72,s73,s74,s75,s76,s77,s78,s79,s80,s81,s82,s83,s84,s85,s86,s87,s88,s89,s90,s91,s92,s93,s94,s95,s96,s97,s98,s99,s100,s101,s102,s103,s104,s105,s106,s107,s108,s109,s110,s111,s112,s113,s114,s115,s116,s117,s118,s119,s120,s121,s122,s123,s124,s125,s126,s127,s128,s129,s130,s131,s132,s133,s134,s135,s136,s137,s138,s139,s140,s141,s142,s143,s144,s145,s146,s147,s148,s149,s150,s151,s152,s153,s154,s155,s156,s157,s158,s159,s160,s161,s162,s163,s164,s165,s166,s167,s168,s169,s170,s171,s172,s173,s174,s175,s176,s177,s178,s179,s180,s181,s182,s183,s184,s185,s186,s187,s188,s189,s190,s191,s192,s193,s194,s195,s196,s197,s198,s199,s200,s201,s202,s203,s204,s205,s206,s207,s208,s209,s210,s211,s212,s213,s214,s215,s216,s217,s218,s219,s220,s221,s222,s223,s224,s225,s226,s227,s228,s229,s230,s231,s232,s233,s234,s235,s236,s237,s238,s239,s240,s241,s242,s243,s244,s245,s246,s247,s248,s249,s250,s251,s252,s253,s254,s255,s256,s257,s258,s259,s260,s261,s262],[]⟩ w:=by
  conv=>arg 2; whnf
  dsimp only
  dsimp only at hK
  have HK:Hid _:=hK
  have HS:Hid (Ys Y ga gb gl gs gx gg pg a true xv gv):=hY
  have HY:Hid (Y w lo st B):=h
  clear hK hY h
  subst hg
  obtain ⟨l0,l9⟩:=HS.out.L _ _ _ _ HY.out
  have hp0:(0:Int) ≤ (pg:Int):=Int.natCast_nonneg pg
  have hp1:(pg:Int) < 8:=by omega
  go_upto_region 38 with fail
  have HY1:Hid (Y (w.setCell ⟨gl,pg,none⟩ (.bool true)) (setf lo pg true) st B):=HS.out.pL _ _ _ _ _ HY.out
  clear HY l0 l9
  generalize w.setCell ⟨gl,pg,none⟩ (.bool true) = w1 at HY1 ⊢
  obtain ⟨sb,hsb⟩:∃ sb,st pg = sb:=⟨_,rfl⟩
  obtain ⟨l1,l8⟩:=HS.out.S _ _ _ _ HY1.out
  have l2:=HS.out.x4 _ _ _ _ HY1.out
  rw [hsb] at l1
  have HY2:Hid (Y (w1.setCell ⟨gs,pg,none⟩ (.bool true)) (setf lo pg true) (setf st pg true) B):=HS.out.pS _ _ _ _ _ HY1.out
  clear HY1 hsb
  have hzz:IntKind.i64.wrap ((z:Int) - 1) = (z:Int) - 1:=by simp only [IntKind.wrap,IntKind.signed,IntKind.bits]; simp; omega
  cases sb
  all_goals
    go_upto_region 39 with fail
    generalize w1.setCell ⟨gs,pg,none⟩ (.bool _) = w2 at HY2 ⊢
    clear l1 l2 l8
    go_wp2_with fail
    go_loopw [28,29] (fun v i wr=>∃ k:Nat,k ≤ z∧i = .int .i64 ((k:Int) - 1)∧v = .int .u64 0∧Y wr (setf lo pg true) (setf st pg true) (dn B (a * 256 + o) k z xv)) (fun _ i _=>(ivn i + 1).toNat)
    case atStart=>exact ⟨z,by omega,rfl,rfl,by rw [dn_z]; exact HY2.out⟩
    case round=>
      clear HY2
      obtain ⟨k,hk,rfl,rfl,hYr⟩:=hrel
      have HYR:Hid (Y wr (setf lo pg true) (setf st pg true) (dn B (a * 256 + o) k z xv)):=hYr
      clear hYr
      cases k with
      | zero=>
        have g0:=HS.out.g0 _ _ _ _ HYR.out
        go_wp2
        exact HK.out _ _ _ _ _ _ _ _ _ _ _ _ _ _ _ _ _ _ _ _ _ _ _ _ _ _ _ _ _ _ _ _ _ _ _ _ _ _ _ _ _ _ _ _ _ _ _ _ _ _ _ _ _ _ _ HYR.out
      | succ k=>
        have a0:=HS.out.A _ _ _ _ HYR.out
        have x4:=HS.out.x4 _ _ _ _ HYR.out
        have x5:=HS.out.x5 _ _ _ _ HYR.out
        rw [show ((k + 1:Nat):Int) - 1 = k by omega]
        obtain ⟨q,hq⟩:∃ q,q = o + k:=⟨_,rfl⟩
        have hq1:(o:Int) + (k:Int) = (q:Int):=by omega
        have hq2:IntKind.i64.wrap (q:Int) = (q:Int):=by simp only [IntKind.wrap,IntKind.signed,IntKind.bits]; simp; omega
        have hq0:(0:Int) ≤ (q:Int):=Int.natCast_nonneg q
        have hq3:(q:Int) < 256:=by omega
        have ha0:(0:Int) ≤ (a:Int):=Int.natCast_nonneg a
        have ha1:(a:Int) < 5:=by omega
        obtain ⟨b0,b9,_⟩:=HS.out.B _ _ _ _ HYR.out (a * 256 + q) (by omega)
        have HQ:Hid (q = o + k):=hq
        clear hq
        generalize dn B (a * 256 + o) (k + 1) z xv (a * 256 + q) = old at b0
        obtain ⟨e8,he8⟩:∃ e8,e8 = 8 * k:=⟨_,rfl⟩
        have h81:(8:Int) * (k:Int) = (e8:Int):=by omega
        have h82:IntKind.i64.wrap (e8:Int) = (e8:Int):=by simp only [IntKind.wrap,IntKind.signed,IntKind.bits]; simp; omega
        have h80:(0:Int) ≤ (e8:Int):=Int.natCast_nonneg e8
        have h83:(e8:Int) < 64:=by omega
        have hbx:IntKind.u8.wrap (xv / 2 ^ e8) = F.byt xv k:=by
          rw [he8,F.pow8]
          first | rfl | simp [IntKind.wrap_u8,F.byt]
        have hok:=F.byt_ok (k + 1) xv k (by omega)
        have HY3:Hid (Y (wr.setCell ⟨gb,a * 256 + q,none⟩ (.int .u8 (IntKind.u8.wrap (xv / 2 ^ e8)))) (setf lo pg true) (setf st pg true) (dn B (a * 256 + o) k z xv)):=by
          have:=HS.out.pB _ _ _ _ (a * 256 + q) _ HYR.out (by omega) hok.1 hok.2
          rw [show a * 256 + q = a * 256 + o + k by have:=HQ.out; omega,dn_next B xv (by omega)] at this
          rw [hbx,show a * 256 + q = a * 256 + o + k by have:=HQ.out; omega]
          exact this
        have HS2:Hid ((wr.setCell ⟨gb,a * 256 + q,none⟩ (.int .u8 (IntKind.u8.wrap (xv / 2 ^ e8)))).cell? ⟨ga,pg,none⟩ = some (.int .i64 (a:Nat))∧(wr.setCell ⟨gb,a * 256 + q,none⟩ (.int .u8 (IntKind.u8.wrap (xv / 2 ^ e8)))).cell? ⟨gx,5,none⟩ = some (.int .u64 xv)):=⟨HS.out.A _ _ _ _ HY3.out,HS.out.x5 _ _ _ _ HY3.out⟩
        clear he8 hbx hok
        go_upto_region 44 with fail
        go_region_held3 (fun W=>W.cell? ⟨ga,pg,none⟩ = some (.int .i64 (a:Nat))∧W.cell? ⟨gx,5,none⟩ = some (.int .u64 xv)) (first | exact ⟨a0,x5⟩ | exact HS2.out) (fail)
        clear HS2 a0 x4 x5 b0 b9 HYR
        have HY4:Hid (Y (wr.setCell ⟨gb,a * 256 + q,none⟩ (.int .u8 (IntKind.u8.wrap (xv / 2 ^ e8)))).drew (setf lo pg true) (setf st pg true) (dn B (a * 256 + o) k z xv)):=HS.out.dr _ _ _ _ 1 HY3.out
        clear HY3
        generalize (wr.setCell ⟨gb,a * 256 + q,none⟩ (.int .u8 (IntKind.u8.wrap (xv / 2 ^ e8)))).drew = w4 at HY4 ⊢
        go_wp2
        exact ⟨⟨k,by omega,rfl,rfl,HY4.out⟩,by simp [ivn]⟩
end Go.Proofs.YtgljdbabagdhlaaGreat.Pg
namespace Go.Proofs.YtgljdbabagdhlaaGreat.Pg
open P E Go.ChangeShapes Go.WideShapes Go.ChangeAt Go.RowKit
set_option linter.unusedVariables false
set_option maxRecDepth 8192
section
variable {S S' : E.Sc × Us} {R:Nat→Prop} {v:Nat→Int} {fa fp:Nat→Nat} {lo st:Nat→Bool} {B:Nat→Int}
theorem Mn.load (N:Mn S R v fa fp lo st B) {pg:Nat} (hp:pg < 8) (I:Iv R S' (upd v pg (wo ((40 + fa pg:Nat):Int) (decide (0 < fp pg)) (decide (1 < fp pg)) true (st pg)))) (T:∀ x ∈ S'.1.l,Tw (upd v pg (wo ((40 + fa pg:Nat):Int) (decide (0 < fp pg)) (decide (1 < fp pg)) true (st pg))) x) (hm:∀ y,2048 ≤ y→S'.1.m y = S.1.m y):Mn S' R (upd v pg (wo ((40 + fa pg:Nat):Int) (decide (0 < fp pg)) (decide (1 < fp pg)) true (st pg))) fa fp (setf lo pg true) (setf st pg (st pg)) B:=by
  refine ⟨I,T,fun i hi => ?_,N.a5,fun k hk=>by rw [hm _ (by omega)]; exact N.y k hk⟩
  unfold upd setf
  by_cases e:i = pg
  · subst e
    rw [if_pos rfl,if_pos rfl,if_pos rfl]
  · rw [if_neg e,if_neg e,if_neg e]
    exact N.V i hi
theorem Mn.store (N:Mn S R v fa fp lo st B) {pg o z:Nat} {x:Int} (hp:pg < 8) (ho:o + z ≤ 256) (I:Iv R S' (upd v pg (wo ((40 + fa pg:Nat):Int) (decide (0 < fp pg)) (decide (1 < fp pg)) true true))) (T:∀ x ∈ S'.1.l,Tw (upd v pg (wo ((40 + fa pg:Nat):Int) (decide (0 < fp pg)) (decide (1 < fp pg)) true true)) x) (hm:∀ y,2048 ≤ y→S'.1.m y = F.lay S.1.m ((40 + fa pg) * 256 + o) z (F.byt x) y):Mn S' R (upd v pg (wo ((40 + fa pg:Nat):Int) (decide (0 < fp pg)) (decide (1 < fp pg)) true true)) fa fp (setf lo pg true) (setf st pg true) (dn B (fa pg * 256 + o) 0 z x):=by
  have h5:=N.a5 pg hp
  refine ⟨I,T,fun i hi => ?_,N.a5,fun k hk => ?_⟩
  · unfold upd setf
    by_cases e:i = pg
    · subst e
      rw [if_pos rfl,if_pos rfl,if_pos rfl]
    · rw [if_neg e,if_neg e,if_neg e]
      exact N.V i hi
  · rw [hm _ (by omega)]
    unfold F.lay dn
    by_cases q:fa pg * 256 + o + 0 ≤ k∧k < fa pg * 256 + o + z
    · rw [if_pos q,if_pos (by omega),show 10240 + k - ((40 + fa pg) * 256 + o) = k - (fa pg * 256 + o) by omega]
    · rw [if_neg q,if_neg (by omega)]
      exact N.y k hk
theorem Mn.still (N:Mn S R v fa fp lo st B) (I:Iv R S' v) (T:∀ x ∈ S'.1.l,Tw v x) (hm:∀ y,2048 ≤ y→S'.1.m y = S.1.m y):Mn S' R v fa fp lo st B:=
  ⟨I,T,N.V,N.a5,fun k hk=>by rw [hm _ (by omega)]; exact N.y k hk⟩
theorem Mn.num (N:Mn S R v fa fp lo st B) {a o z:Nat} (ha:a < 5) (ho:o + z ≤ 256):F.num S.1.m ((40 + a) * 256 + o) z = F.num B (a * 256 + o) z:=by
  have:∀ k,k ≤ z→F.num S.1.m ((40 + a) * 256 + o) k = F.num B (a * 256 + o) k:=by
    intro k
    induction k with
    | zero=>intro _; rfl
    | succ k ih=>
      intro hk
      unfold F.num
      rw [ih (by omega),show (40 + a) * 256 + o + k = 10240 + (a * 256 + o + k) by omega,N.y _ (by omega)]
  exact this z (Nat.le_refl z)
theorem Mn.byte (N:Mn S R v fa fp lo st B) (ok:F.okB (64 * 256) S.1.m) {k:Nat} (hk:k < 1280):0 ≤ B k∧B k < 256:=by
  rw [← N.y k hk]
  exact ok _ (by omega)
end
def Yw (w:World) (t c p ga gp gb gl gs gx gg:Nat) (m:Nat→Option Nat) (S:E.Sc × Us) (fa fp:Nat→Nat) (LX LG:List Value) (W:World) (lo st:Nat→Bool) (B:Nat→Int):Prop:=
  ∃ Q,Bx w W t c p ga gp gb gl gs m Q S (LI fa) (LI fp) (LU B) (LB lo) (LB st)∧Bb Q w W gx 40 LX∧Bb Q w W gg 44 LG∧∀ k,k < 1280→0 ≤ B k∧B k < 256
theorem yw_ys {w : World} {t c p ga gp gb gl gs gx gg : Nat} {m : Nat → Option Nat} {S : E.Sc × Us} {fa fp : Nat → Nat} {LX LG : List Value} {pg : Nat} {xs : Bool} {xv gv : Int} (hp : pg < 8) (hx : gs < gx) (hg : gs < gg) (e4 : LX[4]? = some (.bool xs)) (e5 : LX[5]? = some (.int .u64 xv)) (e0 : LG[0]? = some (.int .u64 gv)) :
    Ys (Yw w t c p ga gp gb gl gs gx gg m S fa fp LX LG) ga gb gl gs gx gg pg (fa pg) xs xv gv where
  A:=fun W lo st B ⟨Q,X,_⟩=>(X.A.bk.cell pg).trans (rov_get hp)
  B:=fun W lo st B ⟨Q,X,_,_,hb⟩ i hi=>⟨(X.Y.bk.cell i).trans (rov_get hi),X.Y.bk.frozen i,hb i hi⟩
  L:=fun W lo st B ⟨Q,X,_⟩=>⟨(X.L.bk.cell pg).trans (rov_get hp),X.L.bk.frozen pg⟩
  S:=fun W lo st B ⟨Q,X,_⟩=>⟨(X.D.bk.cell pg).trans (rov_get hp),X.D.bk.frozen pg⟩
  x4:=fun W lo st B ⟨Q,_,BX,_⟩=>(BX.bk.cell 4).trans e4
  x5:=fun W lo st B ⟨Q,_,BX,_⟩=>(BX.bk.cell 5).trans e5
  g0:=fun W lo st B ⟨Q,_,_,BG,_⟩=>(BG.bk.cell 0).trans e0
  pL:=fun W lo st B b ⟨Q,X,BX,BG,hb⟩=>by
    obtain ⟨X1,o1⟩:=X.putL pg (.bool b)
    have hod:=X.od
    have e:(LB lo).set pg (.bool b) = LB (setf lo pg b):=rov_put (fun b=>.bool b) lo hp b
    rw [e] at X1
    exact ⟨Q,X1,o1 _ _ _ (by omega) BX,o1 _ _ _ (by omega) BG,hb⟩
  pS:=fun W lo st B b ⟨Q,X,BX,BG,hb⟩=>by
    obtain ⟨X1,o1⟩:=X.putD pg (.bool b)
    have hod:=X.od
    have e:(LB st).set pg (.bool b) = LB (setf st pg b):=rov_put (fun b=>.bool b) st hp b
    rw [e] at X1
    exact ⟨Q,X1,o1 _ _ _ (by omega) BX,o1 _ _ _ (by omega) BG,hb⟩
  pB:=fun W lo st B i x ⟨Q,X,BX,BG,hb⟩ hi x0 x1=>by
    obtain ⟨X1,o1⟩:=X.putY i (.int .u8 x)
    have hod:=X.od
    have e:(LU B).set i (.int .u8 x) = LU (setf B i x):=rov_put (fun b=>.int .u8 b) B hi x
    rw [e] at X1
    refine ⟨Q,X1,o1 _ _ _ (by omega) BX,o1 _ _ _ (by omega) BG,fun k hk => ?_⟩
    unfold setf
    by_cases q:k = i
    · rw [if_pos q]; exact ⟨x0,x1⟩
    · rw [if_neg q]; exact hb k hk
  dr:=fun W lo st B n ⟨Q,X,BX,BG,hb⟩=>by
    have b:Below W.heap.size W (W.drewN n):=Go.Proofs.YtgljdbabagdhlaaGreat.B.below_of (Go.Proofs.YtgljdbabagdhlaaGreat.B.grown_drewN W n none) _ (Nat.le_refl _) (by simp)
    exact ⟨Q,X.below b,BX.below b,BG.below b,hb⟩
end Go.Proofs.YtgljdbabagdhlaaGreat.Pg
namespace Go.Proofs.YtgljdbabagdhlaaGreat.Pg
open P E Go.ChangeShapes Go.WideShapes Go.ChangeAt Go.RowKit
set_option linter.unusedVariables false
set_option linter.unusedSimpArgs false
theorem wrap_small {n:Nat} (h:n < 65536):IntKind.i64.wrap (n:Int) = (n:Int)∧IntKind.u64.wrap (n:Int) = (n:Int):=by
  constructor
  · simp only [IntKind.wrap,IntKind.signed,IntKind.bits]; simp; omega
  · simp only [IntKind.wrap,IntKind.signed,IntKind.bits]; simp; omega
set_option maxRecDepth 1000000 in
set_option maxHeartbeats 16000000 in
theorem mem_acc {w w3 : World} {t c p ga gp gb gl gs gx : Nat} {m : Nat → Option Nat} {Q : Nat → Prop} {S : E.Sc × Us} {v : Nat → Int} {fa fp : Nat → Nat} {lo st : Nat → Bool} {B : Nat → Int} {pg z : Nat} {xp xo xz xv : Int} {xt xs : Bool} (hX : Bx w w3 t c p ga gp gb gl gs m Q S (LI fa) (LI fp) (LU B) (LB lo) (LB st)) (hB : Bb Q w w3 gx 40 [.int .i64 xp, .int .i64 xo, .int .i64 xz, .bool xt, .bool xs, .int .u64 xv]) (hN : Mn S (fun r => m r ≠ none) v fa fp lo st B) (hgx : gs < gx) (hp : pg < 8) (h1 : 1 ≤ z) (h8 : z ≤ 8) (ho0 : -9223372036854775808 ≤ xo) (ho1 : xo < 9223372036854775808) (v0 : 0 ≤ xv) (v1 : xv < 18446744073709551616) {K : Exit → Act → World → Prop} (s0 s1 s2 s3 s4 s5 s6 s10 s13 s14 s18 s22 s23 s24 s25 s26 s27 s28 s29 s30 s31 s32 s33 s34 s35 s36 s37 s38 s39 s40 s41 s42 s43 s44 s45 s46 s47 s48 s49 s50 s51 s52 s53 s54 s55 s56 s57 s58 s59 s60 s61 s62 s63 s64 s65 s66 s67 s68 s69 s70 s71 s72 s73 s74 s75 s76 s77 s78 s79 s80 s81 s82 s83 s84 s85 s86 s87 s88 s89 s90 s91 s92 s93 s94 s95 s96 s97 s98 s99 s100 s101 s102 s103 s104 s105 s106 s107 s108 s109 s110 s111 s112 s113 s114 s115 s116 s117 s118 s119 s120 s121 s122 s123 s124 s125 s126 s127 s128 s129 s130 s131 s132 s133 s134 s135 s136 s137 s138 s139 s140 s141 s142 s143 s144 s145 s146 s147 s148 s149 s150 s151 s152 s153 s154 s155 s156 s157 s158 s159 s160 s161 s162 s163 s164 s165 s166 s167 s168 s169 s170 s171 s172 s173 s174 s175 s176 s177 s178 s179 s180 s181 s182 s183 s184 s185 s186 s187 s188 s189 s190 s191 s192 s193 s194 s195 s196 s197 s198 s199 s200 s201 s202 s203 s204 s205 s206 s207 s208 s209 s210 s211 s212 s213 s214 s215 s216 s217 s218 s219 s220 s221 s222 s223 s224 s225 s226 s227 s228 s229 s230 s231 s232 s233 s234 s235 s236 s237 s238 s239 s240 s241 s242 s243 s244 s245 s246 s247 s248 s249 s250 s251 s252 s253 s254 s255 s256 s257 s258 s259 s260 s261 s262 : Value)
    (hK:∀ (u22 u23 u24 u25 u26 u27 u28 u29 u113 u114 u115 u116 u117 u118 u119 u120 u121 u122 u123 u124 u125 u126 u127 u128 u129 u130 u131 u132 u133 u134 u135 u136 u137 u138 u139 u140 u141 u142 u143 u144 u145 u146 u147 u148 u149 u150 u151 u152 u153 u154 u155 u156 u157 u158 u159 u160 u161 u162 u163 u164 u165 u166 u167 u168 u169 u170 u171 u172 u173 u174 u175 u176 u177 u178 u179 u180 u181 u182 u183 u184 u185 u186 u187 u188 u189 u190 u191 u192 u193 u194 u195 u196 u197 u198 u199 u200 u201 u202 u203 u204 u205 u206 u207 u208 u209 u210 u211 u212 u213 u214 u215 u216 u217 u218 u219 u220 u221 u222 u223 u224 u225 u226 u227 u228 u229 u230 u231 u232 u233:Value) (w' : World) (Q:Nat→Prop) (S:E.Sc × Us) (v:Nat→Int) (lo st:Nat→Bool) (B:Nat→Int) (e:Exit),(e = .normal ∨ e = .exit 3)→Bx w w' t c p ga gp gb gl gs m Q S (LI fa) (LI fp) (LU B) (LB lo) (LB st)→Mn S (fun r=>m r ≠ none) v fa fp lo st B→K e ⟨List.toArray [s0,s1,s2,s3,s4,s5,s6,.pointer (some ⟨c,0,none⟩),.pointer (some ⟨t,0,none⟩),.int .i64 0,s10,.pointer (some ⟨ga,0,none⟩),.pointer (some ⟨gp,0,none⟩),s13,s14,.pointer (some ⟨gb,0,none⟩),.pointer (some ⟨gl,0,none⟩),.pointer (some ⟨gs,0,none⟩),s18,.pointer (some ⟨gx,0,none⟩),.int .i64 (pg:Nat),.int .i64 (z:Nat),u22,u23,u24,u25,u26,u27,u28,u29,s30,s31,s32,s33,s34,s35,s36,s37,s38,s39,s40,s41,s42,s43,s44,s45,s46,s47,s48,s49,s50,s51,s52,s53,s54,s55,s56,s57,s58,s59,s60,s61,s62,s63,s64,s65,s66,s67,s68,s69,s70,s71,s72,s73,s74,s75,s76,s77,s78,s79,s80,s81,s82,s83,s84,s85,s86,s87,s88,s89,s90,s91,s92,s93,s94,s95,s96,s97,s98,s99,s100,s101,s102,s103,s104,s105,s106,s107,s108,s109,s110,s111,s112,u113,u114,u115,u116,u117,u118,u119,u120,u121,u122,u123,u124,u125,u126,u127,u128,u129,u130,u131,u132,u133,u134,u135,u136,u137,u138,u139,u140,u141,u142,u143,u144,u145,u146,u147,u148,u149,u150,u151,u152,u153,u154,u155,u156,u157,u158,u159,u160,u161,u162,u163,u164,u165,u166,u167,u168,u169,u170,u171,u172,u173,u174,u175,u176,u177,u178,u179,u180,u181,u182,u183,u184,u185,u186,u187,u188,u189,u190,u191,u192,u193,u194,u195,u196,u197,u198,u199,u200,u201,u202,u203,u204,u205,u206,u207,u208,u209,u210,u211,u212,u213,u214,u215,u216,u217,u218,u219,u220,u221,u222,u223,u224,u225,u226,u227,u228,u229,u230,u231,u232,u233,s234,s235,s236,s237,s238,s239,s240,s241,s242,s243,s244,s245,s246,s247,s248,s249,s250,s251,s252,s253,s254,s255,s256,s257,s258,s259,s260,s261,s262],[]⟩ w') :
    Code.wp Tryz.prog (accs 2) K ⟨List.toArray [s0,s1,s2,s3,s4,s5,s6,.pointer (some ⟨c,0,none⟩),.pointer (some ⟨t,0,none⟩),.int .i64 0,s10,.pointer (some ⟨ga,0,none⟩),.pointer (some ⟨gp,0,none⟩),s13,s14,.pointer (some ⟨gb,0,none⟩),.pointer (some ⟨gl,0,none⟩),.pointer (some ⟨gs,0,none⟩),s18,.pointer (some ⟨gx,0,none⟩),.int .i64 (pg:Nat),.int .i64 (z:Nat),s22,s23,s24,s25,s26,s27,s28,s29,s30,s31,s32,s33,s34,s35,s36,s37,s38,s39,s40,s41,s42,s43,s44,s45,s46,s47,s48,s49,s50,s51,s52,s53,s54,s55,s56,s57,s58,s59,s60,s61,s62,s63,s64,s65,s66,s67,s68,s69,s70,s71,s72,s73,s74,s75,s76,s77,s78,s79,s80,s81,s82,s83,s84,s85,s86,s87,s88,s89,s90,s91,s92,s93,s94,s95,s96,s97,s98,s99,s100,s101,s102,s103,s104,s105,s106,s107,s108,s109,s110,s111,s112,s113,s114,s115,s116,s117,s118,s119,s120,s121,s122,s123,s124,s125,s126,s127,s128,s129,s130,s131,s132,s133,s134,s135,s136,s137,s138,s139,s140,s141,s142,s143,s144,s145,s146,s147,s148,s149,s150,s151,s152,s153,s154,s155,s156,s157,s158,s159,s160,s161,s162,s163,s164,s165,s166,s167,s168,s169,s170,s171,s172,s173,s174,s175,s176,s177,s178,s179,s180,s181,s182,s183,s184,s185,s186,s187,s188,s189,s190,s191,s192,s193,s194,s195,s196,s197,s198,s199,s200,s201,s202,s203,s204,s205,s206,s207,s208,s209,s210,s211,s212,s213,s214,s215,s216,s217,s218,s219,s220,s221,s222,s223,s224,s225,s226,s227,s228,s229,s230,s231,s232,s233,s234,s235,s236,s237,s238,s239,s240,s241,s242,s243,s244,s245,s246,s247,s248,s249,s250,s251,s252,s253,s254,s255,s256,s257,s258,s259,s260,s261,s262],[]⟩ w3:=by
  conv=>arg 2; whnf
  dsimp only
  dsimp only at hK
  have HK:Hid _:=hK
  have HX:Hid (Bx w w3 t c p ga gp gb gl gs m Q S (LI fa) (LI fp) (LU B) (LB lo) (LB st)):=hX
  have HB:Hid (Bb Q w w3 gx 40 [.int .i64 xp,.int .i64 xo,.int .i64 xz,.bool xt,.bool xs,.int .u64 xv]):=hB
  have HN:Hid (Mn S (fun r=>m r ≠ none) v fa fp lo st B):=hN
  clear hK hX hB hN
  obtain ⟨y,hy⟩:∃ y:Nat,y = 257 - z:=⟨_,rfl⟩
  have hy1:(257:Int) - (z:Int) = (y:Int):=by omega
  have hy2:=(wrap_small (n:=y) (by omega)).1
  obtain ⟨o,ho⟩:∃ o:Nat,xo % (y:Int) = o:=⟨(xo % (y:Int)).toNat,by have:=Int.emod_nonneg xo (show (y:Int) ≠ 0 by omega); omega⟩
  have hoz:o + z ≤ 256:=by have:=Int.emod_lt_of_pos xo (show (0:Int) < (y:Int) by omega); omega
  have CW:Hid (∀ W,Calls Tryz.prog 8 #[.int .i64 xo,.int .i64 (y:Nat)] W fun e w'=>e = .returned (.int .i64 (o:Nat))∧w' = W):=fun W=>by
    have:=Within_any xo (y:Int) (by omega) (by omega) ho0 ho1 W
    rw [ho] at this
    exact this
  have x1:=HB.out.bk.cell 1
  have x3:=HB.out.bk.cell 3
  have x4:=HB.out.bk.cell 4
  have x5:=HB.out.bk.cell 5
  simp only [List.getElem?_cons_zero,List.getElem?_cons_succ] at x1 x3 x4 x5
  have HO:Hid (o + z ≤ 256):=hoz
  have HZ:Hid (1 ≤ z∧z ≤ 8):=⟨h1,h8⟩
  clear ho hy hoz ho0 ho1 h1 h8
  go_upto_region 24 with (go_at_call 8; refine (CW.out _).mono ?_; rintro e w' ⟨rfl,hw'⟩; obtain rfl:=hw'.symm)
  clear CW hy1 hy2 x1
  go_upto_region 25 with fail
  go_cut [119] from 118 to 119 (fun ta wx=>ta = .bool xt∧wx = w3)
  case first=>
    go_wp2_with fail
    go_meet
    case rel=>exact ⟨rfl,rfl⟩
  case rest=>
    obtain ⟨rfl,hwx⟩:=hcut
    obtain rfl:=hwx.symm
    rename_i Kc hKc
    refine hKc _ _ ?_
    go_cut [23] from 23 to 23 (fun ta wx=>∃ a,(a = 1 ∨ a = 2)∧ta = .int .i64 a∧wx = w3)
    case first=>
      cases xt
      all_goals
        go_wp2_with fail
        go_meet
        case rel=>first | exact ⟨1,Or.inl rfl,rfl,rfl⟩ | exact ⟨2,Or.inr rfl,rfl,rfl⟩
    case rest=>
      obtain ⟨a,haa,rfl,hwx⟩:=hcut
      obtain rfl:=hwx.symm
      clear x3
      obtain ⟨pv,hpv⟩:∃ pv:Nat,pv = pg * 256:=⟨_,rfl⟩
      obtain ⟨va,hva⟩:∃ va:Nat,va = pv + o:=⟨_,rfl⟩
      have hoz:=HO.out
      have p1:(pg:Int) * 256 = (pv:Int):=by omega
      have p2:=(wrap_small (n:=pv) (by omega)).1
      have p3:(pv:Int) + (o:Int) = (va:Int):=by omega
      have p4:=(wrap_small (n:=va) (by omega)).1
      have p5:=(wrap_small (n:=va) (by omega)).2
      have HVA:Hid (va = pg * 256 + o):=by show va = _; omega
      clear hpv hva hoz
      go_upto_region 28 with fail
      clear p1 p2 p3 p4 p5
      have hp0:(0:Int) ≤ (pg:Int):=Int.natCast_nonneg pg
      have hp1:(pg:Int) < 8:=by omega
      obtain ⟨n,hn⟩:∃ n,fp pg = n:=⟨_,rfl⟩
      have n0:w3.cell? ⟨gp,pg,none⟩ = some (.int .i64 (n:Nat)):=by rw [← hn]; exact (HX.out.P.bk.cell pg).trans (rov_get hp)
      have HNP:Hid (fp pg = n):=hn
      clear hn
      go_cut [25] from 125 to 139 (fun ta wx=>∃ mb,ta = .bool mb∧mb = (bif xs then decide (1 < n) else decide (0 < n))∧wx = w3)
      case first=>
        by_cases q1:1 < n
        case' pos=>
          have d1:decide ((1:Int) < (n:Int)) = true:=by simp; omega
          have HM:Hid ((bif xs then decide (1 < n) else decide (0 < n)) = true):=by show _ = true; cases xs <;> simp <;> omega
        case' neg=>
          have d1:decide ((1:Int) < (n:Int)) = false:=by simp; omega
          by_cases q0:0 < n
          case' pos=>
            have d0:decide ((0:Int) < (n:Int)) = true:=by simp; omega
            have HM:Hid ((bif xs then decide (1 < n) else decide (0 < n)) = !xs):=by show _ = !xs; cases xs <;> simp <;> omega
          case' neg=>
            have d0:decide ((0:Int) < (n:Int)) = false:=by simp; omega
            have HM:Hid ((bif xs then decide (1 < n) else decide (0 < n)) = false):=by show _ = false; cases xs <;> simp <;> omega
        all_goals
          go_wp2_with fail
          go_meet
          case rel=>exact ⟨_,rfl,HM.out.symm,rfl⟩
      case rest=>
        obtain ⟨mb,rfl,hmb,hwx⟩:=hcut
        obtain rfl:=hwx.symm
        have HMB:Hid (mb = (bif xs then decide (1 < n) else decide (0 < n))):=hmb
        clear n0 hmb x4 x5 hp0 hp1
        have hgg:gs < w3.heap.size:=HX.out.D.bk.lt
        have hxg:gx < w3.heap.size:=HB.out.bk.lt
        have HBY:Hid (∀ k,k < 1280→0 ≤ B k∧B k < 256):=fun k hk=>HN.out.byte (by have:=HX.out.M.q.byte; rw [hw_n] at this; exact this) hk
        obtain ⟨Q1,hq1,X1,G1,l1⟩:=HX.out.box 44 g0L
        have BX1:=(HB.out.below l1).wide hq1
        have HX1:Hid (Bx w (w3.alloc (.cells g0L.toArray 44)) t c p ga gp gb gl gs m Q1 S (LI fa) (LI fp) (LU B) (LB lo) (LB st)):=X1
        have HG1:Hid (Bb Q1 w (w3.alloc (.cells g0L.toArray 44)) w3.heap.size 44 g0L):=G1
        have HB1:Hid (Bb Q1 w (w3.alloc (.cells g0L.toArray 44)) gx 40 [.int .i64 xp,.int .i64 xo,.int .i64 xz,.bool xt,.bool xs,.int .u64 xv]):=BX1
        simp only [g0L] at HX1 HG1 HB1
        clear hq1 X1 G1 l1 BX1 HX HB
        go_upto_region 30 with fail
        generalize hw4:w3.alloc (.cells #[.int .u64 0,.int .u8 0,.bool false,.bool false,.bool false] 44) = w4 at HX1 HG1 HB1 ⊢
        clear hw4
        generalize w3.heap.size = gg at HG1 hgg hxg ⊢
        have x4:=HB1.out.bk.cell 4
        have x5:=HB1.out.bk.cell 5
        simp only [List.getElem?_cons_zero,List.getElem?_cons_succ] at x4 x5
        cases xs with
        | true=>
          by_cases q:1 < n
          · obtain rfl:mb = true:=HMB.out.trans (decide_eq_true (by omega))
            have CS:=st_yes HX1.out.M.q HX1.out.hN HN.out.I HN.out.T haa hp HZ.out.1 HZ.out.2 HO.out (f:=40 + fa pg) (by omega) (by have:=HN.out.a5 pg hp; omega) (HN.out.V pg hp) (decide_eq_true (by rw [HNP.out]; omega)) xv v0 v1
            rw [← HVA.out] at CS
            have CS:Hid (Calls _ _ _ _ _):=CS
            clear q
            go_wp2_with fail
            refine CS.out.mono ?_
            rintro e w5 ⟨b1,b2,b3,S',rfl,k1,k2,hI,hT,hm⟩
            obtain ⟨AG,HAG⟩:∃ AG:Array Value,Hid (AG = #[.int .u64 0,.int .u8 0,.bool b1,.bool b2,.bool b3]):=⟨_,rfl⟩
            obtain ⟨tg,X6,G6,o6⟩:=(HX1.out.turn k1 k2).set (HG1.out.ky k2) hgg AG (by rw [HAG.out]; rfl)
            have BX6:=o6 _ _ _ (by omega) (HB1.out.ky k2)
            have G6:=G6.congr (show AG.toList = [.int .u64 0,.int .u8 0,.bool b1,.bool b2,.bool b3] by rw [HAG.out])
            have HTG:Hid _:=tg
            have HN6:Hid (Mn S' (fun r=>m r ≠ none) _ fa fp _ _ _):=HN.out.store hp HO.out hI hT hm
            have HY6:Hid (Yw w t c p ga gp gb gl gs gx gg m S' fa fp [.int .i64 xp,.int .i64 xo,.int .i64 xz,.bool xt,.bool true,.int .u64 xv] [.int .u64 0,.int .u8 0,.bool b1,.bool b2,.bool b3] (w5.setCells gg 0 AG.toList) lo st B):=⟨_,X6,BX6,G6,HBY.out⟩
            clear k1 k2 hI hT hm tg X6 G6 BX6 o6 CS HX1 HG1 HB1 HBY x4 x5
            go_upto_region 34 with (refine wpList_store_mid rfl 44 (.tmp 26) (.tmp 152) rfl gg 0 AG rfl (congrArg Value.agg HAG.out.symm) HTG.out (by rw [HAG.out]; exact Tryz.sizeG) (by rw [HAG.out]; exact oneG _ _ _ _ _) ?_)
            generalize hw6:w5.setCells gg 0 AG.toList = w6 at HY6 ⊢
            clear hw6 HTG HAG
            rename_i K1 hK1 K2 hK2
            have g1:w6.cell? ⟨gg,1,none⟩ = some (.int .u8 0):=by obtain ⟨Q,_,_,G,_⟩:=HY6.out; exact G.bk.cell 1
            go_cut [181] from 164 to 181 (fun ta wx=>ta = .bool false∧wx = w6)
            case first=>
              go_wp2_with fail
              go_meet
              case rel=>exact ⟨rfl,rfl⟩
            case rest=>
              obtain ⟨rfl,hwx⟩:=hcut
              obtain rfl:=hwx.symm
              clear g1
              refine hK2 _ _ ?_
              refine wp_cond_false rfl ?_
              refine wp_skip ?_
              refine hK1 _ _ ?_
              refine acc_tail_st (yw_ys hp hgx hgg rfl rfl rfl) HY6.out hp (HN.out.a5 pg hp) HZ.out.1 HZ.out.2 HO.out rfl v0 v1 _ _ _ _ _ _ _ _ _ _ _ _ _ _ _ _ _ _ _ _ _ _ _ _ _ _ _ _ _ _ _ _ _ _ _ _ _ _ _ _ _ _ _ _ _ _ _ _ _ _ _ _ _ _ _ _ _ _ _ _ _ _ _ _ _ _ _ _ _ _ _ _ _ _ _ _ _ _ _ _ _ _ _ _ _ _ _ _ _ _ _ _ _ _ _ _ _ _ _ _ _ _ _ _ _ _ _ _ _ _ _ _ _ _ _ _ _ _ _ _ _ _ _ _ _ _ _ _ _ _ _ _ _ _ _ _ _ _ _ _ _ _ _ _ _ _ _ _ _ _ _ _ _ _ _ _ _ _ _ _ _ _ _ _ _ _ _ _ _ _ _ _ _ _ _ _ _ _ _ _ _ _ _ _ _ _ _ _ _ _ _ _ _ _ _ _ _ _ _ _ _ _ _ _ _ _ _ _ _ _ _ _ _ _ _ _ _ _ _ _ _ _ _ _ _ _ _ _ _ _ _ _ _ _ _ _ _ _ _ _ _ _ _ _ _ _ _ _ _ _ _ _ _ ?_
              intro t0 t1 t2 t3 t4 t5 t6 t7 t8 t9 t10 t11 t12 t13 t14 t15 t16 t17 t18 t19 t20 t21 t22 t23 t24 t25 t26 t27 t28 t29 t30 t31 t32 t33 t34 t35 t36 t37 t38 t39 t40 t41 t42 t43 t44 t45 t46 t47 t48 t49 t50 t51 t52 t53 w7 hY7
              obtain ⟨Q7,X7,_⟩:=hY7
              exact HK.out _ _ _ _ _ _ _ _ _ _ _ _ _ _ _ _ _ _ _ _ _ _ _ _ _ _ _ _ _ _ _ _ _ _ _ _ _ _ _ _ _ _ _ _ _ _ _ _ _ _ _ _ _ _ _ _ _ _ _ _ _ _ _ _ _ _ _ _ _ _ _ _ _ _ _ _ _ _ _ _ _ _ _ _ _ _ _ _ _ _ _ _ _ _ _ _ _ _ _ _ _ _ _ _ _ _ _ _ _ _ _ _ _ _ _ _ _ _ _ _ _ _ _ _ _ _ _ _ _ _ _ _ _ _ _ _ _ (Or.inl rfl) X7 HN6.out
          · obtain rfl:mb = false:=HMB.out.trans (decide_eq_false (by omega))
            have CS:=st_no HX1.out.M.q HX1.out.hN HN.out.I HN.out.T haa hp HZ.out.1 HZ.out.2 HO.out (f:=40 + fa pg) (by omega) (by have:=HN.out.a5 pg hp; omega) (HN.out.V pg hp) (decide_eq_false (by rw [HNP.out]; omega)) xv
            rw [← HVA.out] at CS
            have CS:Hid (Calls _ _ _ _ _):=CS
            clear q
            go_wp2_with fail
            refine CS.out.mono ?_
            rintro e w5 ⟨b1,S',rfl,k1,k2,hI,hT,hm⟩
            obtain ⟨AG,HAG⟩:∃ AG:Array Value,Hid (AG = #[.int .u64 0,.int .u8 3,.bool b1,.bool false,.bool false]):=⟨_,rfl⟩
            obtain ⟨tg,X6,G6,o6⟩:=(HX1.out.turn k1 k2).set (HG1.out.ky k2) hgg AG (by rw [HAG.out]; rfl)
            have BX6:=o6 _ _ _ (by omega) (HB1.out.ky k2)
            have G6:=G6.congr (show AG.toList = [.int .u64 0,.int .u8 3,.bool b1,.bool false,.bool false] by rw [HAG.out])
            have HTG:Hid _:=tg
            have HN6:Hid (Mn S' (fun r=>m r ≠ none) v fa fp lo st B):=HN.out.still hI hT hm
            have HY6:Hid (Yw w t c p ga gp gb gl gs gx gg m S' fa fp [.int .i64 xp,.int .i64 xo,.int .i64 xz,.bool xt,.bool true,.int .u64 xv] [.int .u64 0,.int .u8 3,.bool b1,.bool false,.bool false] (w5.setCells gg 0 AG.toList) lo st B):=⟨_,X6,BX6,G6,HBY.out⟩
            clear k1 k2 hI hT hm tg X6 G6 BX6 o6 CS HX1 HG1 HB1 HBY x4 x5
            go_upto_region 34 with (refine wpList_store_mid rfl 44 (.tmp 26) (.tmp 152) rfl gg 0 AG rfl (congrArg Value.agg HAG.out.symm) HTG.out (by rw [HAG.out]; exact Tryz.sizeG) (by rw [HAG.out]; exact oneG _ _ _ _ _) ?_)
            generalize hw6:w5.setCells gg 0 AG.toList = w6 at HY6 ⊢
            clear hw6 HTG HAG
            rename_i K1 hK1 K2 hK2
            have g1:w6.cell? ⟨gg,1,none⟩ = some (.int .u8 3):=by obtain ⟨Q,_,_,G,_⟩:=HY6.out; exact G.bk.cell 1
            go_cut [181] from 164 to 181 (fun ta wx=>ta = .bool false∧wx = w6)
            case first=>
              go_wp2_with fail
              go_meet
              case rel=>exact ⟨rfl,rfl⟩
            case rest=>
              obtain ⟨rfl,hwx⟩:=hcut
              obtain rfl:=hwx.symm
              clear g1
              refine hK2 _ _ ?_
              refine wp_cond_false rfl ?_
              refine wp_skip ?_
              refine hK1 _ _ ?_
              obtain ⟨Q7,X7,_⟩:=HY6.out
              have HX7:Hid _:=X7
              clear X7 HY6
              go_wp2
              exact HK.out _ _ _ _ _ _ _ _ _ _ _ _ _ _ _ _ _ _ _ _ _ _ _ _ _ _ _ _ _ _ _ _ _ _ _ _ _ _ _ _ _ _ _ _ _ _ _ _ _ _ _ _ _ _ _ _ _ _ _ _ _ _ _ _ _ _ _ _ _ _ _ _ _ _ _ _ _ _ _ _ _ _ _ _ _ _ _ _ _ _ _ _ _ _ _ _ _ _ _ _ _ _ _ _ _ _ _ _ _ _ _ _ _ _ _ _ _ _ _ _ _ _ _ _ _ _ _ _ _ _ _ _ _ _ _ _ _ (Or.inr rfl) HX7.out HN6.out
        | false=>
          by_cases q:0 < n
          · obtain rfl:mb = true:=HMB.out.trans (decide_eq_true (by omega))
            have CS:=ld_yes HX1.out.M.q HX1.out.hN HN.out.I HN.out.T haa hp HZ.out.1 HZ.out.2 HO.out (f:=40 + fa pg) (by omega) (by have:=HN.out.a5 pg hp; omega) (HN.out.V pg hp) (decide_eq_true (by rw [HNP.out]; omega))
            rw [← HVA.out,HN.out.num (HN.out.a5 pg hp) HO.out] at CS
            obtain ⟨gv,hgv⟩:∃ gv,gv = F.num B (fa pg * 256 + o) z:=⟨_,rfl⟩
            rw [← hgv] at CS
            have HGV:Hid (gv = F.num B (fa pg * 256 + o) z):=hgv
            clear hgv
            have CS:Hid (Calls _ _ _ _ _):=CS
            clear q
            go_wp2_with fail
            refine CS.out.mono ?_
            rintro e w5 ⟨b1,b2,b3,S',rfl,k1,k2,hI,hT,hm⟩
            obtain ⟨AG,HAG⟩:∃ AG:Array Value,Hid (AG = #[.int .u64 gv,.int .u8 0,.bool b1,.bool b2,.bool b3]):=⟨_,rfl⟩
            obtain ⟨tg,X6,G6,o6⟩:=(HX1.out.turn k1 k2).set (HG1.out.ky k2) hgg AG (by rw [HAG.out]; rfl)
            have BX6:=o6 _ _ _ (by omega) (HB1.out.ky k2)
            have G6:=G6.congr (show AG.toList = [.int .u64 gv,.int .u8 0,.bool b1,.bool b2,.bool b3] by rw [HAG.out])
            have HTG:Hid _:=tg
            have HN6:Hid (Mn S' (fun r=>m r ≠ none) _ fa fp _ _ _):=HN.out.load hp hI hT hm
            have HY6:Hid (Yw w t c p ga gp gb gl gs gx gg m S' fa fp [.int .i64 xp,.int .i64 xo,.int .i64 xz,.bool xt,.bool false,.int .u64 xv] [.int .u64 gv,.int .u8 0,.bool b1,.bool b2,.bool b3] (w5.setCells gg 0 AG.toList) lo st B):=⟨_,X6,BX6,G6,HBY.out⟩
            clear k1 k2 hI hT hm tg X6 G6 BX6 o6 CS HX1 HG1 HB1 HBY x4 x5
            go_upto_region 34 with (refine wpList_store_mid rfl 44 (.tmp 26) (.tmp 162) rfl gg 0 AG rfl (congrArg Value.agg HAG.out.symm) HTG.out (by rw [HAG.out]; exact Tryz.sizeG) (by rw [HAG.out]; exact oneG _ _ _ _ _) ?_)
            generalize hw6:w5.setCells gg 0 AG.toList = w6 at HY6 ⊢
            clear hw6 HTG HAG
            rename_i K1 hK1 K2 hK2
            have g1:w6.cell? ⟨gg,1,none⟩ = some (.int .u8 0):=by obtain ⟨Q,_,_,G,_⟩:=HY6.out; exact G.bk.cell 1
            go_cut [181] from 164 to 181 (fun ta wx=>ta = .bool false∧wx = w6)
            case first=>
              go_wp2_with fail
              go_meet
              case rel=>exact ⟨rfl,rfl⟩
            case rest=>
              obtain ⟨rfl,hwx⟩:=hcut
              obtain rfl:=hwx.symm
              clear g1
              refine hK2 _ _ ?_
              refine wp_cond_false rfl ?_
              refine wp_skip ?_
              refine hK1 _ _ ?_
              refine acc_tail_ld (yw_ys hp hgx hgg rfl rfl rfl) HY6.out hp (HN.out.a5 pg hp) HZ.out.1 HZ.out.2 HO.out HGV.out _ _ _ _ _ _ _ _ _ _ _ _ _ _ _ _ _ _ _ _ _ _ _ _ _ _ _ _ _ _ _ _ _ _ _ _ _ _ _ _ _ _ _ _ _ _ _ _ _ _ _ _ _ _ _ _ _ _ _ _ _ _ _ _ _ _ _ _ _ _ _ _ _ _ _ _ _ _ _ _ _ _ _ _ _ _ _ _ _ _ _ _ _ _ _ _ _ _ _ _ _ _ _ _ _ _ _ _ _ _ _ _ _ _ _ _ _ _ _ _ _ _ _ _ _ _ _ _ _ _ _ _ _ _ _ _ _ _ _ _ _ _ _ _ _ _ _ _ _ _ _ _ _ _ _ _ _ _ _ _ _ _ _ _ _ _ _ _ _ _ _ _ _ _ _ _ _ _ _ _ _ _ _ _ _ _ _ _ _ _ _ _ _ _ _ _ _ _ _ _ _ _ _ _ _ _ _ _ _ _ _ _ _ _ _ _ _ _ _ _ _ _ _ _ _ _ _ _ _ _ _ _ _ _ _ _ _ _ _ _ _ _ _ _ _ _ _ _ _ _ _ _ _ ?_
              intro t0 t1 t2 t3 t4 t5 t6 t7 t8 t9 t10 t11 t12 t13 t14 t15 t16 t17 t18 t19 t20 t21 t22 t23 t24 t25 t26 t27 t28 t29 t30 t31 t32 t33 t34 t35 t36 t37 t38 t39 t40 t41 t42 t43 t44 t45 t46 t47 t48 t49 t50 t51 t52 t53 w7 hY7
              obtain ⟨Q7,X7,_⟩:=hY7
              exact HK.out _ _ _ _ _ _ _ _ _ _ _ _ _ _ _ _ _ _ _ _ _ _ _ _ _ _ _ _ _ _ _ _ _ _ _ _ _ _ _ _ _ _ _ _ _ _ _ _ _ _ _ _ _ _ _ _ _ _ _ _ _ _ _ _ _ _ _ _ _ _ _ _ _ _ _ _ _ _ _ _ _ _ _ _ _ _ _ _ _ _ _ _ _ _ _ _ _ _ _ _ _ _ _ _ _ _ _ _ _ _ _ _ _ _ _ _ _ _ _ _ _ _ _ _ _ _ _ _ _ _ _ _ _ _ _ _ _ (Or.inl rfl) X7 HN6.out
          · obtain rfl:mb = false:=HMB.out.trans (decide_eq_false (by omega))
            have CS:=ld_no HX1.out.M.q HX1.out.hN HN.out.I HN.out.T haa hp HZ.out.1 HZ.out.2 HO.out (f:=40 + fa pg) (by omega) (by have:=HN.out.a5 pg hp; omega) (HN.out.V pg hp) (decide_eq_false (by rw [HNP.out]; omega))
            rw [← HVA.out] at CS
            have CS:Hid (Calls _ _ _ _ _):=CS
            clear q
            go_wp2_with fail
            refine CS.out.mono ?_
            rintro e w5 ⟨b1,S',rfl,k1,k2,hI,hT,hm⟩
            obtain ⟨AG,HAG⟩:∃ AG:Array Value,Hid (AG = #[.int .u64 0,.int .u8 3,.bool b1,.bool false,.bool false]):=⟨_,rfl⟩
            obtain ⟨tg,X6,G6,o6⟩:=(HX1.out.turn k1 k2).set (HG1.out.ky k2) hgg AG (by rw [HAG.out]; rfl)
            have BX6:=o6 _ _ _ (by omega) (HB1.out.ky k2)
            have G6:=G6.congr (show AG.toList = [.int .u64 0,.int .u8 3,.bool b1,.bool false,.bool false] by rw [HAG.out])
            have HTG:Hid _:=tg
            have HN6:Hid (Mn S' (fun r=>m r ≠ none) v fa fp lo st B):=HN.out.still hI hT hm
            have HY6:Hid (Yw w t c p ga gp gb gl gs gx gg m S' fa fp [.int .i64 xp,.int .i64 xo,.int .i64 xz,.bool xt,.bool false,.int .u64 xv] [.int .u64 0,.int .u8 3,.bool b1,.bool false,.bool false] (w5.setCells gg 0 AG.toList) lo st B):=⟨_,X6,BX6,G6,HBY.out⟩
            clear k1 k2 hI hT hm tg X6 G6 BX6 o6 CS HX1 HG1 HB1 HBY x4 x5
            go_upto_region 34 with (refine wpList_store_mid rfl 44 (.tmp 26) (.tmp 162) rfl gg 0 AG rfl (congrArg Value.agg HAG.out.symm) HTG.out (by rw [HAG.out]; exact Tryz.sizeG) (by rw [HAG.out]; exact oneG _ _ _ _ _) ?_)
            generalize hw6:w5.setCells gg 0 AG.toList = w6 at HY6 ⊢
            clear hw6 HTG HAG
            rename_i K1 hK1 K2 hK2
            have g1:w6.cell? ⟨gg,1,none⟩ = some (.int .u8 3):=by obtain ⟨Q,_,_,G,_⟩:=HY6.out; exact G.bk.cell 1
            go_cut [181] from 164 to 181 (fun ta wx=>ta = .bool false∧wx = w6)
            case first=>
              go_wp2_with fail
              go_meet
              case rel=>exact ⟨rfl,rfl⟩
            case rest=>
              obtain ⟨rfl,hwx⟩:=hcut
              obtain rfl:=hwx.symm
              clear g1
              refine hK2 _ _ ?_
              refine wp_cond_false rfl ?_
              refine wp_skip ?_
              refine hK1 _ _ ?_
              obtain ⟨Q7,X7,_⟩:=HY6.out
              have HX7:Hid _:=X7
              clear X7 HY6
              go_wp2
              exact HK.out _ _ _ _ _ _ _ _ _ _ _ _ _ _ _ _ _ _ _ _ _ _ _ _ _ _ _ _ _ _ _ _ _ _ _ _ _ _ _ _ _ _ _ _ _ _ _ _ _ _ _ _ _ _ _ _ _ _ _ _ _ _ _ _ _ _ _ _ _ _ _ _ _ _ _ _ _ _ _ _ _ _ _ _ _ _ _ _ _ _ _ _ _ _ _ _ _ _ _ _ _ _ _ _ _ _ _ _ _ _ _ _ _ _ _ _ _ _ _ _ _ _ _ _ _ _ _ _ _ _ _ _ _ _ _ _ _ (Or.inr rfl) HX7.out HN6.out
end Go.Proofs.YtgljdbabagdhlaaGreat.Pg
