/- What Fit of package table gives back and leaves; no condition but those named. -/
import Derived.Test.YtgljdbabagdhlaaGreatVtf
import Derived.Test.YtgljdbabagdhlaaGreatVab
import Derived.Test.YtgljdbabagdhlaaGreatVkc
import Derived.Test.YtgljdbabagdhlaaGreatVPe
namespace Go.Proofs.YtgljdbabagdhlaaGreat.Pg
open P E Go.ChangeShapes Go.WideShapes Go.ChangeAt Go.RowKit
set_option linter.unusedVariables false
set_option maxRecDepth 8192
theorem cn_ext {p q:Nat→Nat→Bool} (h:∀ d k,0 < d→d ≤ 3→p d k = q d k):all p = all q:=by
  unfold all
  rw [A.cn_congr 32768 (fun k _=>h 3 k (by decide) (by decide)),A.cn_congr 1024 (fun k _=>h 2 k (by decide) (by decide)),A.cn_congr 32 (fun k _=>h 1 k (by decide) (by decide))]
theorem sub_nd (W:Nat→Nat→Int) (r:Nat) (xs:List (Int × Int)):Sub W r (fun d k=>nd xs d k = false):=fun d k h0 h3 hc _=>by
  have hc' : nd xs d (k / 32) = false:=hc
  show nd xs (d + 1) k = false
  cases q:nd xs (d + 1) k with
  | false=>rfl
  | true=>rw [nd_up h3 q] at hc'; cases hc'
theorem fit_op {P : Par} {R : Nat → Prop} {r : Nat} {xs : List (Int × Int)} {S : E.Sc × Us} (K : Ok P R S) (hr : R r) {M : Nat → Int} (hM : wd M = Wc (wd S.1.m) r (fun d k => nd xs d k = false)) (hv : Va P (Uc (wd S.1.m) r (fun d k => nd xs d k = false) S.2)) (hc : cU (Uc (wd S.1.m) r (fun d k => nd xs d k = false) S.2) 3 4096 + gone (pr (wd S.1.m) r) (nd xs) 3 0 0 = cU S.2 3 4096) (hq : cU S.2 3 4096 + A.total xs ≤ P.q 3 + all (pr (wd S.1.m) r)) :
    Op P R r xs ({ S.1 with m:=M },Uc (wd S.1.m) r (fun d k=>nd xs d k = false) S.2):=by
  have E:∀ d k,0 < d→d ≤ 3→pr (wd M) r d k = (pr (wd S.1.m) r d k && nd xs d k):=fun d k h0 h3=>by
    unfold pr
    rw [hM,tb_struck K.fo hr (sub_nd _ _ _) hr d h3 k]
    by_cases q:nd xs d k = true
    · rw [if_neg (by rintro ⟨_,_,z⟩; rw [q] at z; cases z),q,Bool.and_true]
    · rw [Bool.not_eq_true] at q
      rw [if_pos ⟨rfl,h0,q⟩,q,Bool.and_false]
      rfl
  refine ⟨⟨?_,hv⟩,hr, ?_⟩
  · show Fo (wd M) R (fun f=>Uc (wd S.1.m) r (fun d k=>nd xs d k = false) S.2 f = some 3) Lf
    rw [hM]
    exact (K.fo.strike hr (sub_nd _ _ _)).own_congr (fun _=>Iff.rfl) (fun x hx=>by rw [Uc_neg hx.2]; exact hx.1)
  · show cU (Uc (wd S.1.m) r (fun d k=>nd xs d k = false) S.2) 3 4096 + miss (pr (wd M) r) (nd xs) ≤ P.q 3
    have h1:=all_gone (q:=nd xs) (pr_clo (wd S.1.m) r)
    have h2:=all_miss (pr (wd M) r) (nd xs)
    have h3:all (fun d k=>pr (wd M) r d k && nd xs d k) = all (fun d k=>pr (wd S.1.m) r d k && nd xs d k):=cn_ext (fun d k h0 h3=>by
      show (pr (wd M) r d k && nd xs d k) = _
      rw [E d k h0 h3,Bool.and_assoc,Bool.and_self])
    rw [total_all] at hq
    omega
theorem Spn.tables {w:World} {ao:Option Addr} {cap:Nat} {xs:List (Int × Int)} (h:Spn w ao xs) (hx:∀ s ∈ xs,A.fits s) (hm:xs.length ≤ maxLen):Calls Tryz.prog 55 #[.slice ao xs.length cap] w fun e w'=>e = .returned (.tuple #[.int .i64 (A.tres xs).1,.int .i64 (A.tres xs).2])∧Below w.heap.size w w':=by
  rcases h with h | ⟨b,off,e,hr⟩
  · exact A.Tables_any 0 0 cap xs hx hm ao w (Or.inl h)
  · exact A.Tables_any b off cap xs hx hm ao w (Or.inr ⟨e,hr⟩)
noncomputable def fitE (h:Hw) (P:Par) (r:Nat) (xs:List (Int × Int)) (S:E.Sc × Us) (M:Nat→Int):E.Sc × Us:=gr h P r xs ({ S.1 with m:=M },Uc (wd S.1.m) r (fun d k=>nd xs d k = false) S.2) xs.length
theorem nodes_row {P : Par} (hP : P.Ok) {R : Nat → Prop} {S : E.Sc × Us} (K : Ok P R S) {h : Hw} (hN : P.N * P.C ≤ h.n) {r : Nat} (hr : R r) {w1 : World} {X1 : Nat → Prop} {t c p : Nat} {m : Nat → Option Nat} (T1 : Tt w1 X1 t c p h P S m) (w2 : World) (h2 : Below w1.heap.size w1 w2) :
    Calls Tryz.prog 56 #[.pointer (some ⟨t,0,none⟩),.int .i64 (r:Nat)] w2 fun e w'=>∃ g cap,e = .returned (.slice (some ⟨g,0,none⟩) (ndr (wd S.1.m) r).length cap)∧Below w2.heap.size w2 w'∧Rn (wd S.1.m) r (ndr (wd S.1.m) r) g w'∧¬ X1 g:=by
  refine (nodes_ok hP K hN hr (T1.tv.below h2)).mono ?_
  rintro e w' ⟨v,rfl,ho,hb⟩
  obtain ⟨g,cap,rfl,q1,q2,q3⟩:=row_nodes ho (ndr_pos _ _)
  exact ⟨g,cap,rfl,hb,⟨q2,q3⟩,fun q=>by have:=T1.lt g q; have:=h2.size; omega⟩
theorem room_dec {a q n t:Nat} (hq:a ≤ q):(decide ((a:Int) + ((t:Int) - (n:Int)) ≤ (q:Int)) || decide ((t:Int) - (n:Int) ≤ 0)) = decide (a + t ≤ q + n):=by
  by_cases h:a + t ≤ q + n
  · rw [show decide ((a:Int) + ((t:Int) - (n:Int)) ≤ (q:Int)) = true by simp; omega,show decide (a + t ≤ q + n) = true by simp; omega]; rfl
  · rw [show decide ((a:Int) + ((t:Int) - (n:Int)) ≤ (q:Int)) = false by simp; omega,show decide ((t:Int) - (n:Int) ≤ 0) = false by simp; omega,show decide (a + t ≤ q + n) = false by simp; omega]; rfl
set_option maxHeartbeats 1000000 in
theorem Fit_mem {P : Par} (hP : P.Ok) {R : Nat → Prop} {S : E.Sc × Us} (K : Ok P R S) {h : Hw} (hN : P.N * P.C ≤ h.n) {r : Nat} (hr : R r) {w1 : World} {X1 : Nat → Prop} {t c p : Nat} {m : Nat → Option Nat} (T1 : Tt w1 X1 t c p h P S m) (hm : m r ≠ none) {ao : Option Addr} {cap : Nat} {xs : List (Int × Int)} (hs : Spn w1 ao xs) (hl : xs.length ≤ 1024) (hv : ∀ s ∈ xs, A.mayS s = true) (hx : ∀ s ∈ xs, A.fits s) (hq : ¬ cU S.2 3 4096 + A.total xs ≤ P.q 3 + all (pr (wd S.1.m) r)) :
    Calls Tryz.prog 22 #[.pointer (some ⟨t,0,none⟩),.int .i64 (r:Nat),.slice ao xs.length cap] w1 fun e w'=>e = .returned (.tuple #[.int .i64 0,.int .i64 0,.int .i64 4])∧Tv w1 X1 t c p h P S m w':=by
  have HC:Hid (Calls _ _ _ _ _):=check_ok T1.tv r hm
  have CT:Hid (∀ w2,Below w1.heap.size w1 w2→Calls Tryz.prog 55 #[.slice ao xs.length cap] w2 fun e w'=>e = .returned (.tuple #[.int .i64 (A.total xs:Nat),.int .i64 0])∧Below w2.heap.size w2 w'):=fun w2 hb=>by
    have:=(hs.below hb).tables (cap:=cap) hx (by unfold maxLen; omega)
    rw [A.tres_val hl hv] at this
    exact this
  have CN:Hid (∀ w2,Below w1.heap.size w1 w2→Calls _ _ _ w2 _):=nodes_row hP K hN hr T1
  have htb:=A.total_bd xs
  have hnl:=ndr_le (wd S.1.m) r
  have CR:Hid (∀ w2,Below w1.heap.size w1 w2→Calls Tryz.prog 57 #[.pointer (some ⟨t,0,none⟩),.int .i64 ((A.total xs:Int) - ((ndr (wd S.1.m) r).length:Int))] w2 fun e w'=>e = .returned (.bool false)∧Tv w1 X1 t c p h P S m w'):=fun w2 hb=>by
    have:=room_ok hP (T1.tv.below hb) ((A.total xs:Int) - ((ndr (wd S.1.m) r).length:Int)) (by omega) (by omega)
    rw [ndr_len,room_dec (T1.tv.par.2.qu 3 (by decide) (by decide)),decide_eq_false hq, ← ndr_len] at this
    exact this
  clear hs T1 K hq
  generalize A.total xs = tt at *
  generalize (ndr (wd S.1.m) r) = L at *
  go_enter Tryz.func22,Tryz.ntmps22
  go_wp2_with fail
  refine HC.out.mono ?_
  rintro e w2 ⟨rfl,hb⟩
  have HB2:Hid (Below w1.heap.size w1 w2):=hb
  clear hb
  go_wp2_with fail
  refine (CT.out _ HB2.out).mono ?_
  rintro e w3 ⟨rfl,hb⟩
  have HB3:Hid (Below w1.heap.size w1 w3):=HB2.out.trans (hb.mono HB2.out.size)
  clear hb
  go_wp2_with fail
  refine (CN.out _ HB3.out).mono ?_
  rintro e w4 ⟨g,cp,rfl,hb,_,_⟩
  have HB4:Hid (Below w1.heap.size w1 w4):=HB3.out.trans (hb.mono HB3.out.size)
  clear hb
  go_wp2_with (go_at_call 57; refine (CR.out _ HB4.out).mono ?_; rintro e w5 ⟨rfl,h5⟩; have H5:Hid (Tv w1 X1 t c p h P S m w5):=h5; clear h5)
  exact bodyPost_ret (v:=.tuple #[.int .i64 0,.int .i64 0,.int .i64 4]) (by simp [results,Tryz.results22,go_sem]) rfl ⟨rfl,H5.out⟩
theorem getD_at {xs:List (Int × Int)} {j:Nat} (hj:j < xs.length):xs.getD j (0,0) = xs[j]:=by rw [List.getD_eq_getElem?_getD,List.getElem?_eq_getElem hj]; rfl
set_option maxHeartbeats 2000000 in
theorem Fit_ok {P : Par} (hP : P.Ok) {R : Nat → Prop} {S : E.Sc × Us} (K : Ok P R S) {h : Hw} (hN : P.N * P.C ≤ h.n) {r : Nat} (hr : R r) {w1 : World} {X1 : Nat → Prop} {t c p : Nat} {m : Nat → Option Nat} (T1 : Tt w1 X1 t c p h P S m) (hm : m r ≠ none) {ao : Option Addr} {cap : Nat} {xs : List (Int × Int)} (hs : Spn w1 ao xs) (hsX : xs = [] ∨ ∀ b off, ao = some ⟨b, off, none⟩ → b < w1.heap.size ∧ ¬ X1 b) (hl : xs.length ≤ 1024) (hv : ∀ s ∈ xs, A.mayS s = true) (hx : ∀ s ∈ xs, A.fits s) (hq : cU S.2 3 4096 + A.total xs ≤ P.q 3 + all (pr (wd S.1.m) r)) :
    Calls Tryz.prog 22 #[.pointer (some ⟨t,0,none⟩),.int .i64 (r:Nat),.slice ao xs.length cap] w1 fun e w'=>∃ n:Nat,e = .returned (.tuple #[.int .i64 (n:Nat),.int .i64 (gone (pr (wd S.1.m) r) (nd xs) 3 0 0:Nat),.int .i64 0])∧∃ M,wd M = Wc (wd S.1.m) r (fun d k=>nd xs d k = false)∧Op P R r xs ({ S.1 with m:=M },Uc (wd S.1.m) r (fun d k=>nd xs d k = false) S.2)∧cU (Uc (wd S.1.m) r (fun d k=>nd xs d k = false) S.2) 3 4096 + gone (pr (wd S.1.m) r) (nd xs) 3 0 0 = cU S.2 3 4096∧cU (fitE h P r xs S M).2 3 4096 + gone (pr (wd S.1.m) r) (nd xs) 3 0 0 = cU S.2 3 4096 + n∧Tv w1 X1 t c p h P (fitE h P r xs S M) m w':=by
  have HC:Hid (Calls _ _ _ _ _):=check_ok T1.tv r hm
  have CT:Hid (∀ w2,Below w1.heap.size w1 w2→Calls Tryz.prog 55 #[.slice ao xs.length cap] w2 fun e w'=>e = .returned (.tuple #[.int .i64 (A.total xs:Nat),.int .i64 0])∧Below w2.heap.size w2 w'):=fun w2 hb=>by
    have:=(hs.below hb).tables (cap:=cap) hx (by unfold maxLen; omega)
    rw [A.tres_val hl hv] at this
    exact this
  have CN:Hid (∀ w2,Below w1.heap.size w1 w2→Calls _ _ _ w2 _):=nodes_row hP K hN hr T1
  have htb:=A.total_bd xs
  have hnl:=ndr_le (wd S.1.m) r
  have CR:Hid (∀ w2,Below w1.heap.size w1 w2→Calls Tryz.prog 57 #[.pointer (some ⟨t,0,none⟩),.int .i64 ((A.total xs:Int) - ((ndr (wd S.1.m) r).length:Int))] w2 fun e w'=>e = .returned (.bool true)∧Tv w2 X1 t c p h P S m w'):=fun w2 hb=>by
    have:=room_ok hP (T1.below hb).tv ((A.total xs:Int) - ((ndr (wd S.1.m) r).length:Int)) (by omega) (by omega)
    rw [ndr_len,room_dec (T1.tv.par.2.qu 3 (by decide) (by decide)),decide_eq_true hq, ← ndr_len] at this
    exact this
  have HPR:Hid (∀ g cp w5 X5,Tt w5 X5 t c p h P S m→Rn (wd S.1.m) r (ndr (wd S.1.m) r) g w5→¬ X5 g→Spn w5 ao xs→(xs = [] ∨ ∀ b off,ao = some ⟨b,off,none⟩→¬ X5 b)→Calls Tryz.prog 58 #[.pointer (some ⟨t,0,none⟩),.slice (some ⟨g,0,none⟩) (ndr (wd S.1.m) r).length cp,.slice ao xs.length cap] w5 fun e w'=>e = .returned (.int .i64 (gone (pr (wd S.1.m) r) (nd xs) 3 0 0:Nat))∧∃ M,wd M = Wc (wd S.1.m) r (fun d k=>nd xs d k = false)∧Op P R r xs ({ S.1 with m:=M },Uc (wd S.1.m) r (fun d k=>nd xs d k = false) S.2)∧cU (Uc (wd S.1.m) r (fun d k=>nd xs d k = false) S.2) 3 4096 + gone (pr (wd S.1.m) r) (nd xs) 3 0 0 = cU S.2 3 4096∧Tv w5 X5 t c p h P ({ S.1 with m:=M },Uc (wd S.1.m) r (fun d k=>nd xs d k = false) S.2) m w'):=fun g cp w5 X5 t5 h1 h2 h3 h4=>by
    refine (prune_ok hP K hN hr t5 h1 h2 hl hv h3 h4).mono ?_
    rintro e w' ⟨rfl,_,hc,M,hM,hT⟩
    rw [cls_gone] at hc ⊢
    exact ⟨rfl,M,hM,fit_op K hr hM hT.par.2 hc hq,hc,hT⟩
  have HGR:Hid (∀ S1 j wb Xb w2,Op P R r xs S1→j < xs.length→Tv wb Xb t c p h P (gr h P r xs S1 j) m w2→Calls Tryz.prog 59 #[.pointer (some ⟨t,0,none⟩),.int .i64 (r:Nat),.agg #[.int .i64 (xs.getD j (0,0)).1,.int .i64 (xs.getD j (0,0)).2]] w2 fun e w'=>∃ n:Nat,e = .returned (.int .i64 (n:Nat))∧cU (gr h P r xs S1 (j + 1)).2 3 4096 = cU (gr h P r xs S1 j).2 3 4096 + n∧Tv wb Xb t c p h P (gr h P r xs S1 (j + 1)) m w'):=fun S1 j wb Xb w2 K1 hj T2=>by
    have hms:=hv _ (show xs.getD j (0,0) ∈ xs by rw [getD_at hj]; exact List.getElem_mem hj)
    have hin:=in_span hv hj
    simp only [A.mayS,Bool.and_eq_true,decide_eq_true_eq] at hms
    have:=grow_ok hP hN (gr_ok hP h hv K1 j (by omega)).1.op hin (by omega) (by omega) T2
    rw [Int.toNat_of_nonneg hms.1.1,Int.toNat_of_nonneg hms.1.2] at this
    exact this
  have HS1:Hid (Spn w1 ao xs):=hs
  have HSX:Hid (xs = [] ∨ ∀ b off,ao = some ⟨b,off,none⟩→b < w1.heap.size∧¬ X1 b):=hsX
  have HT1:Hid (Tt w1 X1 t c p h P S m):=T1
  unfold fitE
  clear hs T1 K hq hsX hx hv
  generalize A.total xs = tt at *
  generalize (ndr (wd S.1.m) r) = L at *
  generalize hgo:gone (pr (wd S.1.m) r) (nd xs) 3 0 0 = go at *
  clear hgo
  go_enter Tryz.func22,Tryz.ntmps22
  go_wp2_with fail
  refine HC.out.mono ?_
  rintro e w2 ⟨rfl,hb⟩
  have HB2:Hid (Below w1.heap.size w1 w2):=hb
  clear hb
  go_wp2_with fail
  refine (CT.out _ HB2.out).mono ?_
  rintro e w3 ⟨rfl,hb⟩
  have HB3:Hid (Below w1.heap.size w1 w3):=HB2.out.trans (hb.mono HB2.out.size)
  clear hb
  go_wp2_with fail
  refine (CN.out _ HB3.out).mono ?_
  rintro e w4 ⟨g,cp,rfl,hb,hrn,hgx⟩
  have HB4:Hid (Below w1.heap.size w1 w4):=HB3.out.trans (hb.mono HB3.out.size)
  have HRN:Hid (Rn (wd S.1.m) r L g w4∧¬ X1 g):=⟨hrn,hgx⟩
  clear hb hrn hgx
  go_wp2_with fail
  refine (CR.out _ HB4.out).mono ?_
  rintro e w5 ⟨rfl,X5,t5,k5⟩
  have HT5:Hid (Tt w5 X5 t c p h P S m):=t5
  have HK5:Hid (C.Kp X1 X5 w1 w5):=(kp_of_below _ HB4.out).trans k5
  obtain ⟨o1,o2,o3⟩:=k5.out HRN.out.1.1 HRN.out.2
  have HRN5:Hid (Rn (wd S.1.m) r L g w5∧¬ X5 g):=⟨⟨o3,fun i x hx W' hW=>HRN.out.1.2 i x hx W' (hW.trans o1)⟩,o2⟩
  have HS5:Hid (Spn w5 ao xs∧(xs = [] ∨ ∀ b off,ao = some ⟨b,off,none⟩→b < w5.heap.size∧¬ X5 b)):=by
    rcases HSX.out with q | q
    · exact ⟨Or.inl q,Or.inl q⟩
    · refine ⟨HS1.out.of_eq HK5.out.size (fun b off e hb=>HK5.out.block b hb (q b off e).2),Or.inr fun b off e => ?_⟩
      obtain ⟨z1,z2,z3⟩:=HK5.out.out (q b off e).1 (q b off e).2
      exact ⟨z3,z2⟩
  clear t5 k5 o1 o2 o3 HC CT CN CR HB2 HB3 HRN
  have CP:Hid (Calls _ _ _ _ _):=HPR.out g cp w5 X5 HT5.out HRN5.out.1 HRN5.out.2 HS5.out.1 (HS5.out.2.imp id fun q b off e=>(q b off e).2)
  go_wp2_with fail
  refine CP.out.mono ?_
  rintro e w6 ⟨rfl,M,hM,hop,hcu,hT6⟩
  have HM:Hid (wd M = Wc (wd S.1.m) r (fun d k=>nd xs d k = false)):=hM
  have HOP:Hid (Op P R r xs ({ S.1 with m:=M },Uc (wd S.1.m) r (fun d k=>nd xs d k = false) S.2)):=hop
  have HCU:Hid (cU (Uc (wd S.1.m) r (fun d k=>nd xs d k = false) S.2) 3 4096 + go = cU S.2 3 4096):=hcu
  have HSP:Hid (∀ S' w',Tv w5 X5 t c p h P S' m w'→Spn w' ao xs):=fun S' w' ⟨X',_,k'⟩=>by
    rcases HS5.out.2 with q | q
    · exact Or.inl q
    · exact HS5.out.1.of_eq k'.size (fun b off e hb=>k'.block b hb (q b off e).2)
  have HT6:Hid (Tv w5 X5 t c p h P (gr h P r xs ({ S.1 with m:=M },Uc (wd S.1.m) r (fun d k=>nd xs d k = false) S.2) 0) m w6):=hT6
  have HFIN:Hid (∀ S' w',Tv w5 X5 t c p h P S' m w'→Tv w1 X1 t c p h P S' m w'):=fun S' w' h'=>h'.pre HK5.out
  clear hM hop hcu hT6 CP HPR HT5 HK5 HS5 HS1 HSX HRN5 HB4
  go_wp2_with fail
  go_loopw [6,44] (fun z i wr=>∃ j k:Nat,j ≤ xs.length∧i = .int .i64 j∧z = .int .i64 k∧k ≤ 4096∧cU (gr h P r xs ({ S.1 with m:=M },Uc (wd S.1.m) r (fun d k=>nd xs d k = false) S.2) j).2 3 4096 = cU (Uc (wd S.1.m) r (fun d k=>nd xs d k = false) S.2) 3 4096 + k∧Tv w5 X5 t c p h P (gr h P r xs ({ S.1 with m:=M },Uc (wd S.1.m) r (fun d k=>nd xs d k = false) S.2) j) m wr) (fun _ i _=>xs.length - (D.iv i).toNat)
  case atStart=>exact ⟨0,0,by omega,rfl,rfl,by omega,(Nat.add_zero _).symm,HT6.out⟩
  case round=>
    obtain ⟨j,k,hj,rfl,rfl,hk,hcj,hTj⟩:=hrel
    have HTj:Hid (Tv w5 X5 t c p h P (gr h P r xs ({ S.1 with m:=M },Uc (wd S.1.m) r (fun d k=>nd xs d k = false) S.2) j) m wr):=hTj
    have HCj:Hid (cU (gr h P r xs ({ S.1 with m:=M },Uc (wd S.1.m) r (fun d k=>nd xs d k = false) S.2) j).2 3 4096 = cU (Uc (wd S.1.m) r (fun d k=>nd xs d k = false) S.2) 3 4096 + k):=hcj
    clear hTj hcj HT6
    by_cases hlt:j < xs.length
    case' pos=>
      obtain ⟨b,off,rfl,q0,q1⟩:=(HSP.out _ _ HTj.out).at' hlt
      have e0:=getD_at hlt
      have BX:Hid (Below wr.heap.size wr (wr.alloc (.cells #[.int .i64 xs[j].1,.int .i64 xs[j].2] 86))):=(Below.refl _ _).alloc (Nat.le_refl _) _
      have cg:=HGR.out _ j _ _ _ HOP.out hlt (HTj.out.below BX.out)
      rw [e0] at cg
      have CG:Hid (Calls _ _ _ _ _):=cg
      have HCN:Hid (∀ n,cU (gr h P r xs ({ S.1 with m:=M },Uc (wd S.1.m) r (fun d k=>nd xs d k = false) S.2) (j + 1)).2 3 4096 = cU (gr h P r xs ({ S.1 with m:=M },Uc (wd S.1.m) r (fun d k=>nd xs d k = false) S.2) j).2 3 4096 + n→k + n ≤ 4096∧cU (gr h P r xs ({ S.1 with m:=M },Uc (wd S.1.m) r (fun d k=>nd xs d k = false) S.2) (j + 1)).2 3 4096 = cU (Uc (wd S.1.m) r (fun d k=>nd xs d k = false) S.2) 3 4096 + (k + n)):=fun n e=>by
        have:=cU_le4 (gr h P r xs ({ S.1 with m:=M },Uc (wd S.1.m) r (fun d k=>nd xs d k = false) S.2) (j + 1)).2 3
        have:=HCj.out
        constructor <;> omega
      clear cg e0
      generalize xs[j].1 = a1 at *
      generalize xs[j].2 = n1 at *
      go_wp2_with (go_at_call 59; refine CG.out.mono ?_; rintro e w7 ⟨n,rfl,hn,h7⟩; obtain ⟨hkn,hcn⟩:=HCN.out n hn; have H7:Hid (Tv w5 X5 t c p h P (gr h P r xs ({ S.1 with m:=M },Uc (wd S.1.m) r (fun d k=>nd xs d k = false) S.2) (j + 1)) m w7):=h7; have HC7:Hid (cU (gr h P r xs ({ S.1 with m:=M },Uc (wd S.1.m) r (fun d k=>nd xs d k = false) S.2) (j + 1)).2 3 4096 = cU (Uc (wd S.1.m) r (fun d k=>nd xs d k = false) S.2) 3 4096 + (k + n)):=hcn; clear hn hcn h7)
      go_roundw
      case rel=>exact ⟨j + 1,k + n,by omega,by go_num,by go_num,hkn,HC7.out,H7.out⟩
      case measure=>simp [D.iv]; omega
    case' neg=>
      obtain rfl:j = xs.length:=by omega
      go_wp2
      refine bodyPost_ret (v:=.tuple #[.int .i64 (k:Nat),.int .i64 (go:Nat),.int .i64 0]) (by simp [results,Tryz.results22,go_sem]) rfl ⟨k,rfl,M,HM.out,HOP.out,HCU.out, ?_,HFIN.out _ _ HTj.out⟩
      have:=HCj.out
      have:=HCU.out
      omega
theorem kp_below {X:Nat→Prop} {w w' : World} (k:C.Kp (fun _=>False) X w w'):Below w.heap.size w w':=⟨k.os,k.tape,k.output,k.size,fun i hi=>k.block i hi (fun q=>q)⟩
theorem coreMade_ok {w:World} {Y:Nat→Prop} {c:Nat} {h:Hw} {s:E.Sc} (K:Cr pK w Y c h s):Calls Tryz.prog 50 #[.pointer (some ⟨c,0,none⟩)] w fun e w'=>e = .returned (.bool true)∧Gv pK w Y c h s w':=by
  have CT:Hid (Calls Tryz.prog 67 #[.pointer (some ⟨c,0,none⟩),.slice none 0 0] w fun e w'=>e = .returned (.tuple #[.agg #[.bool false,.bool false],.int .i64 0])∧Gv pK w Y c h s w'):=Touch_ok K (l:=0) (f:=fun _=>0) (by decide) (Or.inl rfl) (fun q=>absurd q (by decide)) (fun i hi=>absurd hi (by omega))
  clear K
  go_enter Tryz.func50,Tryz.ntmps50
  go_wp2_with (go_at_call 67; refine CT.out.mono ?_; rintro e w2 ⟨rfl,g2⟩; have HG:Hid (Gv pK w Y c h s w2):=g2; clear g2)
  go_ret
  exact ⟨rfl,HG.out.below ((Below.refl _ _).alloc (Nat.le_refl _) _)⟩
theorem poolMade_ok {w:World} {Z:Nat→Prop} {p:Nat} {P:Par} {us:Us} (K:Po w Z p P us):Calls Tryz.prog 51 #[.pointer (some ⟨p,0,none⟩)] w fun e w'=>e = .returned (.bool true)∧w' = w:=by
  have CG:Hid (Calls _ _ _ _ _):=Give_no K (-1) (by decide) (by decide) (fun g e=>by omega)
  clear K
  go_enter Tryz.func51,Tryz.ntmps51
  go_wp2_with (go_at_call 90; refine CG.out.mono ?_; rintro e w2 ⟨rfl,rfl⟩)
  go_ret
  exact ⟨rfl,rfl⟩
theorem New_ok' {w:World} {Y Z:Nat→Prop} {c p:Nat} {h:Hw} {s:E.Sc} {P:Par} {us:Us} (hc:Cr pK w Y c h s) (hp:Po w Z p P us) (hd:∀ k,Y k→¬ Z k):Calls Tryz.prog 20 #[.pointer (some ⟨c,0,none⟩),.pointer (some ⟨p,0,none⟩)] w fun e w'=>∃ t,e = .returned (.tuple #[.pointer (some ⟨t,0,none⟩),.int .i64 0])∧∃ X,Tt w' X t c p h P (s,us) (fun _=>none)∧C.Kp (fun k=>Y k ∨ Z k) X w w':=by
  have CC:Hid (Calls _ _ _ _ _):=coreMade_ok hc
  have HP:Hid (∀ w2,Gv pK w Y c h s w2→Calls Tryz.prog 51 #[.pointer (some ⟨p,0,none⟩)] w2 fun e w'=>e = .returned (.bool true)∧w' = w2):=fun w2 ⟨Y2,_,k2⟩=>poolMade_ok (hp.of_eq k2.size (fun k hk=>k2.block k (hp.lt k hk) (fun q=>hd k q hk)))
  have HF:Hid (∀ w2,Gv pK w Y c h s w2→∃ X,Tt ((w2.alloc (.map #[] 0)).alloc (.cells #[.pointer (some ⟨c,0,none⟩),.pointer (some ⟨p,0,none⟩),.map (some w2.heap.size)] 138)) X (w2.heap.size + 1) c p h P (s,us) (fun _=>none)∧C.Kp (fun k=>Y k ∨ Z k) X w ((w2.alloc (.map #[] 0)).alloc (.cells #[.pointer (some ⟨c,0,none⟩),.pointer (some ⟨p,0,none⟩),.map (some w2.heap.size)] 138))):=fun w2 ⟨Y2,c2,k2⟩=>by
    have p2:Po w2 Z p P us:=hp.of_eq k2.size (fun k hk=>k2.block k (hp.lt k hk) (fun q=>hd k q hk))
    have b2:Below w2.heap.size w2 ((w2.alloc (.map #[] 0)).alloc (.cells #[.pointer (some ⟨c,0,none⟩),.pointer (some ⟨p,0,none⟩),.map (some w2.heap.size)] 138)):=below2 _ _ _
    have e1:(w2.alloc (.map #[] 0)).heap.size = w2.heap.size + 1:=by simp
    have bt:=C.blk_new (w2.alloc (.map #[] 0)) [.pointer (some ⟨c,0,none⟩),.pointer (some ⟨p,0,none⟩),.map (some w2.heap.size)] 138
    rw [e1] at bt
    have mm:=(ms_new w2 4096).of_eq (w':=(w2.alloc (.map #[] 0)).alloc (.cells #[.pointer (some ⟨c,0,none⟩),.pointer (some ⟨p,0,none⟩),.map (some w2.heap.size)] 138)) (heap_alloc_old _ _ (by rw [e1]; omega)) (by simp)
    refine ⟨fun k=>Y2 k ∨ Z k ∨ k = w2.heap.size + 1 ∨ k = w2.heap.size,⟨Y2,Z,w2.heap.size,c2.below b2,p2.below b2,bt,mm,fun k hk=>⟨fun q => ?_, ?_, ?_⟩,fun k hk=>⟨?_, ?_⟩,by omega,fun _=>Iff.rfl⟩,⟨b2.os.trans k2.os,b2.tape.trans k2.tape,b2.output.trans k2.output,Nat.le_trans k2.size b2.size,fun k hk hn => ?_,fun k hk => ?_⟩⟩
    · rcases k2.new k hk with z | z
      · exact hd k z q
      · have:=hp.lt k q; omega
    · have:=c2.lt k hk; omega
    · have:=c2.lt k hk; omega
    · have:=p2.lt k hk; omega
    · have:=p2.lt k hk; omega
    · rw [b2.block k (Nat.lt_of_lt_of_le hk k2.size)]
      exact k2.block k hk (fun q=>hn (Or.inl q))
    · have:=k2.size
      rcases hk with q | q | q | q
      · rcases k2.new k q with z | z
        · exact Or.inl (Or.inl z)
        · exact Or.inr z
      · exact Or.inl (Or.inr q)
      · exact Or.inr (by omega)
      · exact Or.inr (by omega)
  clear hc hp hd
  have hmm:=@run_makeMap Tryz.prog
  go_enter Tryz.func20,Tryz.ntmps20
  go_wp2_with fail
  refine CC.out.mono ?_
  rintro e w2 ⟨rfl,g2⟩
  have HG:Hid (Gv pK w Y c h s w2):=g2
  clear g2
  go_wp2_with (go_at_call 51; refine (HP.out _ HG.out).mono ?_; rintro e w' ⟨rfl,rfl⟩)
  go_ret2
  exact ⟨_,rfl,HF.out _ HG.out⟩
theorem par_n {c:Cf} (h:c.Ok) {n:Nat} (hn:n < c.pn):(par c n).N * (par c n).C ≤ (hwOf c).n:=by
  have h1:=div_frames h.m
  have r:=prn_of h hn
  have:(((par c n).N * (par c n).C:Nat):Int) = c.F:=by rw [Int.natCast_mul,r.N,r.C]; exact h1.2
  show _ ≤ c.F.toNat
  omega
end Go.Proofs.YtgljdbabagdhlaaGreat.Pg
