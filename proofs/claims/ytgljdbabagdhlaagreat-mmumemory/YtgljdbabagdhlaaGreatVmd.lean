/- The mmu's begin of an access that may be; no condition but those named. -/
import Derived.Test.YtgljdbabagdhlaaGreatVmc
namespace Go.Proofs.YtgljdbabagdhlaaGreat.Pg
open P E Go.ChangeShapes Go.WideShapes Go.ChangeAt Go.RowKit
set_option linter.unusedVariables false
set_option linter.unusedSimpArgs false
set_option maxRecDepth 100000
section
variable {Z:Nat→Prop} {w:World} {t c p:Nat} {h:Hw} {P:Par} {S:E.Sc × Us} {m:Nat→Option Nat}
theorem res_aii {fn : Func} {p q r : Tmp} (h : fn.results = #[.cell p 93, .tmp q, .tmp r]) {tmps : Array Value} {w : World} {s : Nat} {u v : Value} {A : Array Value} (hA : A.size = 6) (hp : tmps.getD p undef = .pointer (some ⟨s, 0, none⟩)) (hq : tmps.getD q undef = u) (hr : tmps.getD r undef = v) (hc : C.Blk w s 93 A.toList) :
    (results fn tmps).run Tryz.prog w = .ok (.tuple #[.agg A,u,v]) w:=by
  have hl2:(loadVar 93 ⟨s,0,none⟩).run Tryz.prog w = .ok (.agg A) w:=run_loadVar_row w s 93 93 A (0,0) _ hc Tryz.underlying93 rfl (by rw [hA]; exact Tryz.sizeA)
  simp only [results,h]
  simp only [Array.getD_eq_getD_getElem?] at hp hq hr
  simp [Result.andThen,hp,hq,hr,asAddr,hl2]
theorem oneA (c t:Nat) (a r pg:Int) (wr:Bool):(#[.pointer (some ⟨c,0,none⟩),.pointer (some ⟨t,0,none⟩),.int .i64 a,.int .i64 r,.int .i64 pg,.bool wr]:Array Value).all (·.oneCell') = true:=by simp [Value.oneCell']
def aL0:List Value:=[.pointer none,.pointer none,.int .i64 0,.int .i64 0,.int .i64 0,.bool false]
set_option maxHeartbeats 1000000 in
theorem begin_ok (K : Zq Z w t c p h P S m) (O : Ok P (fun r => m r ≠ none) S) (hN : P.N * P.C ≤ h.n) (a : Int) {r pg o z : Nat} (hr : r < 9223372036854775808) (hc : chkE m a (r : Nat) = 0) (hp : pg < 1048576) (h1 : 1 ≤ z) (h8 : z ≤ 8) (ho : o + z ≤ 256) :
    Calls Tryz.prog 26 #[.pointer (some ⟨c,0,none⟩),.pointer (some ⟨t,0,none⟩),.int .i64 a,.int .i64 (r:Nat),.int .u64 ((pg * 256 + o:Nat):Int),.int .i64 (z:Nat)] w fun e w'=>e = .returned (.tuple #[.agg #[.pointer (some ⟨c,0,none⟩),.pointer (some ⟨t,0,none⟩),.int .i64 a,.int .i64 (r:Nat),.int .i64 (pg:Nat),.bool false],.int .i64 (o:Nat),.int .i64 0])∧Zq Z w' t c p h P S m∧Ky Z w w':=by
  obtain ⟨Q,hq0,M0,BA,l0⟩:=(Mq.start K).box 93 aL0
  obtain ⟨W0,hW0⟩:∃ W0,w.alloc (.cells aL0.toArray 93) = W0:=⟨_,rfl⟩
  rw [hW0] at M0 BA
  have HM0:Hid (Mq Z Q w W0 t c p h P S m):=M0
  have HBA:Hid (Bb Q w W0 w.heap.size 93 aL0):=BA
  have CC:=check_q M0.q O hN a (r:Nat) (by omega) (by omega)
  rw [hc] at CC
  have CC:Hid (Calls _ _ _ _ _):=CC
  have CR:Hid (∀ W,Calls Tryz.prog 64 #[.int .u64 ((pg * 256 + o:Nat):Int),.int .i64 (z:Nat)] W fun e w'=>e = .returned (.tuple #[.int .i64 (pg:Nat),.int .i64 (o:Nat),.int .i64 0])∧w' = W):=fun W=>(A.Run_ok ((pg * 256 + o:Nat):Int) (z:Nat) (by omega) (by omega) (by omega) (by omega) (by omega) W).mono fun e w' ⟨he,hw⟩=>⟨by rw [he,show ((pg * 256 + o:Nat):Int) / 256 = (pg:Nat) by omega,show ((pg * 256 + o:Nat):Int) % 256 = (o:Nat) by omega],hw⟩
  simp only [aL0] at hW0
  clear K O M0 BA l0 hq0 hc hr hp h1 h8 ho
  generalize ((r:Nat):Int) = ri at *
  generalize ((pg * 256 + o:Nat):Int) = vi at *
  generalize ((pg:Nat):Int) = pi at *
  generalize ((o:Nat):Int) = oi at *
  generalize ((z:Nat):Int) = zi at *
  go_enter Tryz.func26,Tryz.ntmps26
  go_upto_region 1 with fail
  try rw [hW0]
  clear hW0
  go_wp2_with fail
  refine CC.out.mono ?_
  rintro e w1 ⟨rfl,hK1,hy1⟩
  obtain ⟨AA,HAA⟩:∃ AA:Array Value,Hid (AA = #[.pointer (some ⟨c,0,none⟩),.pointer (some ⟨t,0,none⟩),.int .i64 a,.int .i64 ri,.int .i64 pi,.bool false]):=⟨_,rfl⟩
  obtain ⟨tx,M3,T3,o3⟩:=(HM0.out.turn hK1 hy1).set (HBA.out.ky hy1) AA (by rw [HAA.out]; rfl)
  have HF:Hid _:=M3.fin
  have HR:Hid (C.Blk _ _ _ _):=T3.bk
  have HTX:Hid _:=tx
  clear hK1 hy1 M3 T3 o3 tx HM0 HBA CC
  go_wp2_with (first
    | (go_at_call 64; refine (CR.out _).mono ?_; rintro e w' ⟨rfl,hw'⟩; subst hw')
    | (refine wpList_store_mid rfl 93 (.tmp 12) (.tmp 44) rfl _ 0 AA rfl (congrArg Value.agg HAA.out.symm) HTX.out (by rw [HAA.out]; exact Tryz.sizeA) (by rw [HAA.out]; exact oneA _ _ _ _ _ _) ?_))
  exact bodyPost_ret (v:=.tuple #[.agg AA,.int .i64 oi,.int .i64 0]) (res_aii rfl (by rw [HAA.out]; rfl) rfl rfl rfl HR.out) rfl ⟨by rw [HAA.out],HF.out⟩
end
section
variable {Z:Nat→Prop} {w:World} {t c p:Nat} {h:Hw} {P:Par} {S:E.Sc × Us} {m:Nat→Option Nat}
theorem res_gi {fn : Func} {p q : Tmp} (h : fn.results = #[.cell p 44, .tmp q]) {tmps : Array Value} {w : World} {s : Nat} {v : Value} {A : Array Value} (hA : A.size = 5) (hp : tmps.getD p undef = .pointer (some ⟨s, 0, none⟩)) (hq : tmps.getD q undef = v) (hc : C.Blk w s 44 A.toList) :
    (results fn tmps).run Tryz.prog w = .ok (.tuple #[.agg A,v]) w:=by
  have hl2:(loadVar 44 ⟨s,0,none⟩).run Tryz.prog w = .ok (.agg A) w:=run_loadVar_row w s 44 44 A (0,0) _ hc Tryz.underlying44 rfl (by rw [hA]; exact Tryz.sizeG)
  simp only [results,h]
  simp only [Array.getD_eq_getD_getElem?] at hp hq
  simp [Result.andThen,hp,hq,asAddr,hl2]
theorem oneG (v y:Int) (b1 b2 b3:Bool):(#[.int .u64 v,.int .u8 y,.bool b1,.bool b2,.bool b3]:Array Value).all (·.oneCell') = true:=by simp [Value.oneCell']
theorem ld_got {W:World} {b:Nat} {v y:Int} {b1 b2 b3:Bool} (h:C.Blk W b 44 [.int .u64 v,.int .u8 y,.bool b1,.bool b2,.bool b3]):(Instr.loadAt 44 (.pointer (some ⟨b,0,none⟩))).run Tryz.prog W = .ok (.agg #[.int .u64 v,.int .u8 y,.bool b1,.bool b2,.bool b3]) W:=by
  have c0:=h.cell 0
  have c1:=h.cell 1
  have c2:=h.cell 2
  have c3:=h.cell 3
  have c4:=h.cell 4
  simp only [List.getElem?_cons_zero,List.getElem?_cons_succ] at c0 c1 c2 c3 c4
  clear h
  simp [go_sem, *]
set_option maxHeartbeats 2000000 in
theorem mLoad_no (K : Zq Z w t c p h P S m) (O : Ok P (fun r => m r ≠ none) S) (hN : P.N * P.C ≤ h.n) (a : Int) {r pg o z : Nat} (hr : m r ≠ none) (hr1 : r < 9223372036854775808) (hc : chkE m a (r : Nat) = 0) (hp : pg < 1048576) (h1 : 1 ≤ z) (h8 : z ≤ 8) (ho : o + z ≤ 256) (hy : (lookS h S.1 a r pg false).2.2.2 ≠ 0) :
    Calls Tryz.prog 11 #[.pointer (some ⟨c,0,none⟩),.pointer (some ⟨t,0,none⟩),.int .i64 a,.int .i64 (r:Nat),.int .u64 ((pg * 256 + o:Nat):Int),.int .i64 (z:Nat)] w fun e w'=>e = .returned (.tuple #[.agg #[.int .u64 0,.int .u8 (lookS h S.1 a r pg false).2.2.2,.bool (lookS h S.1 a r pg false).2.2.1,.bool false,.bool false],.int .i64 0])∧Zq Z w' t c p h P ((lookS h S.1 a r pg false).1,S.2) m∧Ky Z w w':=by
  obtain ⟨Q0,hq0,M0,G0,l0⟩:=(Mq.start K).box 44 g0L
  obtain ⟨W0,hW0⟩:∃ W0,w.alloc (.cells g0L.toArray 44) = W0:=⟨_,rfl⟩
  rw [hW0] at M0 G0
  have HM0:Hid (Mq Z Q0 w W0 t c p h P S m):=M0
  have HG0:Hid (Bb Q0 w W0 w.heap.size 44 g0L):=G0
  have CB:Hid (Calls _ _ _ _ _):=begin_ok M0.q O hN a hr1 hc hp h1 h8 ho
  have CR:Hid (∀ Q' W,Zq Q' W t c p h P S m→Calls Tryz.prog 27 #[.agg #[.pointer (some ⟨c,0,none⟩),.pointer (some ⟨t,0,none⟩),.int .i64 a,.int .i64 (r:Nat),.int .i64 (pg:Nat),.bool false],.int .i64 (o:Nat)] W fun e w'=>e = .returned (.tuple #[.int .u64 0,.agg #[.int .u64 0,.int .u8 (lookS h S.1 a r pg false).2.2.2,.bool (lookS h S.1 a r pg false).2.2.1,.bool false,.bool false]])∧Zq Q' w' t c p h P ((lookS h S.1 a r pg false).1,S.2) m∧Ky Q' W w'):=fun Q' W KW=>mreach_no KW O hN a hr hp false (o:Nat) hy
  generalize (lookS h S.1 a r pg false).2.2.2 = y at *
  generalize (lookS h S.1 a r pg false).2.2.1 = tl at *
  generalize (lookS h S.1 a r pg false).1 = s1 at *
  have hyn:(y == 0) = false:=by simp [hy]
  simp only [g0L] at hW0
  clear K O M0 G0 l0 hq0 hc hr hr1 hp h1 h8 ho hy
  generalize ((r:Nat):Int) = ri at *
  generalize ((pg * 256 + o:Nat):Int) = vi at *
  generalize ((pg:Nat):Int) = pi at *
  generalize ((o:Nat):Int) = oi at *
  generalize ((z:Nat):Int) = zi at *
  go_enter Tryz.func11,Tryz.ntmps11
  go_upto_region 1 with fail
  try rw [hW0]
  clear hW0
  go_wp2_with fail
  refine CB.out.mono ?_
  rintro e w1 ⟨rfl,hK1,hy1⟩
  obtain ⟨AA,HAA⟩:∃ AA:Array Value,Hid (AA = #[.pointer (some ⟨c,0,none⟩),.pointer (some ⟨t,0,none⟩),.int .i64 a,.int .i64 ri,.int .i64 pi,.bool false]):=⟨_,rfl⟩
  obtain ⟨Q1,hq1,M1,A1,l1⟩:=(HM0.out.turn hK1 hy1).box 93 aL0
  have G1:=((HG0.out.ky hy1).below l1).wide hq1
  have hne:w.heap.size < w1.heap.size:=(HG0.out.ky hy1).bk.lt
  obtain ⟨tx,M2,A2,o2⟩:=M1.set A1 AA (by rw [HAA.out]; rfl)
  have G2:=o2 _ _ _ (by omega) G1
  have HTX:Hid _:=tx
  have A2:=A2.congr (show AA.toList = [.pointer (some ⟨c,0,none⟩),.pointer (some ⟨t,0,none⟩),.int .i64 a,.int .i64 ri,.int .i64 pi,.bool false] by rw [HAA.out])
  have HW2:Hid (_∧_∧_):=(⟨M2,G2,A2⟩:_∧_∧_)
  simp only [aL0] at HW2 HTX
  clear hK1 hy1 CB HM0 HG0 M1 A1 l1 G1 M2 A2 o2 G2 tx
  go_upto_region 4 with (refine wpList_store_mid rfl 93 (.tmp 14) (.tmp 27) rfl _ 0 AA rfl (congrArg Value.agg HAA.out.symm) HTX.out (by rw [HAA.out]; exact Tryz.sizeA) (by rw [HAA.out]; exact oneA _ _ _ _ _ _) ?_)
  clear HTX
  obtain ⟨W2,hW2⟩:∃ W2,(w1.alloc (.cells #[.pointer none,.pointer none,.int .i64 0,.int .i64 0,.int .i64 0,.bool false] 93)).setCells w1.heap.size 0 AA.toList = W2:=⟨_,rfl⟩
  rw [hW2] at HW2 ⊢
  clear hW2
  have HW3:=HW2
  clear HW2
  generalize W2 = W3 at *
  have hla:(Instr.loadAt 93 (.pointer (some ⟨w1.heap.size,0,none⟩))).run Tryz.prog W3 = _:=ld_ac HW3.out.2.2.bk
  have CR3:Hid (Calls _ _ _ _ _):=CR.out _ W3 HW3.out.1.q
  clear CR
  go_wp2_with (refine wpList_load_wm rfl 93 (.tmp 14) rfl _ _ rfl hla ?_)
  refine CR3.out.mono ?_
  rintro e w4 ⟨rfl,hK4,hy4⟩
  obtain ⟨AG,HAG⟩:∃ AG:Array Value,Hid (AG = #[.int .u64 0,.int .u8 y,.bool tl,.bool false,.bool false]):=⟨_,rfl⟩
  obtain ⟨Q4,hq4,M4,B4,l4⟩:=(HW3.out.1.turn hK4 hy4).box 44 g0L
  have G4:=((HW3.out.2.1.ky hy4).below l4).wide hq4
  have hn4:w.heap.size < w4.heap.size:=(HW3.out.2.1.ky hy4).bk.lt
  obtain ⟨tx,M5,B5,o5⟩:=M4.set B4 AG (by rw [HAG.out]; rfl)
  have G5:=o5 _ _ _ (by omega) G4
  have HTX:Hid _:=tx
  have B5:=B5.congr (show AG.toList = [.int .u64 0,.int .u8 y,.bool tl,.bool false,.bool false] by rw [HAG.out])
  have HW5:Hid (_∧_∧_):=(⟨M5,G5,B5⟩:_∧_∧_)
  simp only [g0L] at HW5 HTX
  clear hK4 hy4 CR3 HW3 M4 B4 l4 G4 M5 B5 o5 G5 tx hla hq4
  go_upto_region 5 with (refine wpList_store_mid rfl 44 (.tmp 18) (.tmp 39) rfl _ 0 AG rfl (congrArg Value.agg HAG.out.symm) HTX.out (by rw [HAG.out]; exact Tryz.sizeG) (by rw [HAG.out]; exact oneG _ _ _ _ _) ?_)
  clear HTX
  generalize (w4.alloc (.cells #[.int .u64 0,.int .u8 0,.bool false,.bool false,.bool false] 44)).setCells w4.heap.size 0 AG.toList = W5 at *
  have k1:=HW5.out.2.2.bk.cell 1
  simp only [List.getElem?_cons_zero,List.getElem?_cons_succ] at k1
  have HW6:=HW5
  have HAH:=HAG
  clear HW5 HAG
  generalize W5 = W6 at *
  generalize AG = AH at *
  go_upto_region 7 with fail
  clear k1
  have hlg:(Instr.loadAt 44 (.pointer (some ⟨w4.heap.size,0,none⟩))).run Tryz.prog W6 = _:=ld_got HW6.out.2.2.bk
  obtain ⟨tx,M7,G7,o7⟩:=HW6.out.1.set HW6.out.2.1 AH (by rw [HAH.out]; rfl)
  have HTX:Hid _:=tx
  have HF:Hid _:=M7.fin
  have HR:Hid (C.Blk _ _ _ _):=G7.bk
  clear tx M7 G7 o7 HW6
  go_wp2_with (first
    | (refine wpList_load_wm rfl 44 (.tmp 18) rfl _ _ rfl hlg ?_)
    | (refine wpList_store_mid rfl 44 (.tmp 12) (.tmp 54) rfl _ 0 AH rfl (congrArg Value.agg HAH.out.symm) HTX.out (by rw [HAH.out]; exact Tryz.sizeG) (by rw [HAH.out]; exact oneG _ _ _ _ _) ?_))
  exact bodyPost_ret (v:=.tuple #[.agg AH,.int .i64 0]) (res_gi rfl (by rw [HAH.out]; rfl) rfl rfl HR.out) rfl ⟨by rw [HAH.out],HF.out⟩
set_option maxHeartbeats 2000000 in
theorem mLoad_ok (K : Zq Z w t c p h P S m) (O : Ok P (fun r => m r ≠ none) S) (hN : P.N * P.C ≤ h.n) (hn : h.n ≤ 4096) (a : Int) {r pg o z f : Nat} (hr : m r ≠ none) (hr1 : r < 9223372036854775808) (hc : chkE m a (r : Nat) = 0) (hp : pg < 1048576) (h1 : 1 ≤ z) (h8 : z ≤ 8) (ho : o + z ≤ 256) (hy : (lookS h S.1 a r pg false).2.2.2 = 0) (hf : (lookS h S.1 a r pg false).2.1.f = (f : Nat)) (hfn : f < h.n) :
    Calls Tryz.prog 11 #[.pointer (some ⟨c,0,none⟩),.pointer (some ⟨t,0,none⟩),.int .i64 a,.int .i64 (r:Nat),.int .u64 ((pg * 256 + o:Nat):Int),.int .i64 (z:Nat)] w fun e w'=>e = .returned (.tuple #[.agg #[.int .u64 (F.num (tou h (aheadS h S.1 a r pg false) (f * 256 + o)).m (f * 256 + o) z),.int .u8 0,.bool (lookS h S.1 a r pg false).2.2.1,.bool (hA h (aheadS h S.1 a r pg false) (f * 256 + o)),.bool (hB h (aheadS h S.1 a r pg false) (f * 256 + o))],.int .i64 0])∧Zq Z w' t c p h P ((tou h (aheadS h S.1 a r pg false) (f * 256 + o)),S.2) m∧Ky Z w w':=by
  obtain ⟨Q0,hq0,M0,G0,l0⟩:=(Mq.start K).box 44 g0L
  obtain ⟨W0,hW0⟩:∃ W0,w.alloc (.cells g0L.toArray 44) = W0:=⟨_,rfl⟩
  rw [hW0] at M0 G0
  have HM0:Hid (Mq Z Q0 w W0 t c p h P S m):=M0
  have HG0:Hid (Bb Q0 w W0 w.heap.size 44 g0L):=G0
  have CB:Hid (Calls _ _ _ _ _):=begin_ok M0.q O hN a hr1 hc hp h1 h8 ho
  have hpa:f * 256 + o + z ≤ h.n * 256:=by omega
  have CR:Hid (∀ Q' W,Zq Q' W t c p h P S m→Calls Tryz.prog 27 #[.agg #[.pointer (some ⟨c,0,none⟩),.pointer (some ⟨t,0,none⟩),.int .i64 a,.int .i64 (r:Nat),.int .i64 (pg:Nat),.bool false],.int .i64 (o:Nat)] W fun e w'=>e = .returned (.tuple #[.int .u64 ((f * 256 + o:Nat):Int),.agg #[.int .u64 0,.int .u8 0,.bool (lookS h S.1 a r pg false).2.2.1,.bool (hA h (aheadS h S.1 a r pg false) (f * 256 + o)),.bool (hB h (aheadS h S.1 a r pg false) (f * 256 + o))]])∧Zq Q' w' t c p h P ((tou h (aheadS h S.1 a r pg false) (f * 256 + o)),S.2) m∧Ky Q' W w'):=fun Q' W KW=>mreach_ok KW O hN hn a hr hp false hy hf hfn (by omega)
  generalize (lookS h S.1 a r pg false).2.2.1 = tl at *
  generalize hA h (aheadS h S.1 a r pg false) (f * 256 + o) = ha at *
  generalize hB h (aheadS h S.1 a r pg false) (f * 256 + o) = hb at *
  generalize (tou h (aheadS h S.1 a r pg false) (f * 256 + o)) = s1 at *
  generalize f * 256 + o = pa at *
  have CF:Hid (∀ Q' W pm,Zq Q' W t c p h P (s1,S.2) m→W.cell? ⟨c,0,none⟩ = some (.pointer (some ⟨pm,0,none⟩))→Calls Tryz.prog 29 #[.pointer (some ⟨pm,0,none⟩),.int .u64 (pa:Nat),.int .i64 (z:Nat)] W fun e w'=>e = .returned (.tuple #[.int .u64 (F.num s1.m pa z),.int .i64 0])∧w' = W):=fun Q' W pm KW hc=>load_q KW hc pa z h1 h8 hpa
  generalize F.num s1.m pa z = nv at *
  simp only [g0L] at hW0
  clear K O M0 G0 l0 hq0 hc hr hr1 hp h1 h8 ho hy hf hfn hpa
  generalize ((r:Nat):Int) = ri at *
  generalize ((pg * 256 + o:Nat):Int) = vi at *
  generalize ((pg:Nat):Int) = pi at *
  generalize ((o:Nat):Int) = oi at *
  generalize ((z:Nat):Int) = zi at *
  go_enter Tryz.func11,Tryz.ntmps11
  go_upto_region 1 with fail
  try rw [hW0]
  clear hW0
  go_wp2_with fail
  refine CB.out.mono ?_
  rintro e w1 ⟨rfl,hK1,hy1⟩
  obtain ⟨AA,HAA⟩:∃ AA:Array Value,Hid (AA = #[.pointer (some ⟨c,0,none⟩),.pointer (some ⟨t,0,none⟩),.int .i64 a,.int .i64 ri,.int .i64 pi,.bool false]):=⟨_,rfl⟩
  obtain ⟨Q1,hq1,M1,A1,l1⟩:=(HM0.out.turn hK1 hy1).box 93 aL0
  have G1:=((HG0.out.ky hy1).below l1).wide hq1
  have hne:w.heap.size < w1.heap.size:=(HG0.out.ky hy1).bk.lt
  obtain ⟨tx,M2,A2,o2⟩:=M1.set A1 AA (by rw [HAA.out]; rfl)
  have G2:=o2 _ _ _ (by omega) G1
  have HTX:Hid _:=tx
  have A2:=A2.congr (show AA.toList = [.pointer (some ⟨c,0,none⟩),.pointer (some ⟨t,0,none⟩),.int .i64 a,.int .i64 ri,.int .i64 pi,.bool false] by rw [HAA.out])
  have HW2:Hid (_∧_∧_):=(⟨M2,G2,A2⟩:_∧_∧_)
  simp only [aL0] at HW2 HTX
  clear hK1 hy1 CB HM0 HG0 M1 A1 l1 G1 M2 A2 o2 G2 tx
  go_upto_region 4 with (refine wpList_store_mid rfl 93 (.tmp 14) (.tmp 27) rfl _ 0 AA rfl (congrArg Value.agg HAA.out.symm) HTX.out (by rw [HAA.out]; exact Tryz.sizeA) (by rw [HAA.out]; exact oneA _ _ _ _ _ _) ?_)
  clear HTX
  obtain ⟨W2,hW2⟩:∃ W2,(w1.alloc (.cells #[.pointer none,.pointer none,.int .i64 0,.int .i64 0,.int .i64 0,.bool false] 93)).setCells w1.heap.size 0 AA.toList = W2:=⟨_,rfl⟩
  rw [hW2] at HW2 ⊢
  clear hW2
  have HW3:=HW2
  clear HW2
  generalize W2 = W3 at *
  have hla:(Instr.loadAt 93 (.pointer (some ⟨w1.heap.size,0,none⟩))).run Tryz.prog W3 = _:=ld_ac HW3.out.2.2.bk
  have CR3:Hid (Calls _ _ _ _ _):=CR.out _ W3 HW3.out.1.q
  clear CR
  go_wp2_with (refine wpList_load_wm rfl 93 (.tmp 14) rfl _ _ rfl hla ?_)
  refine CR3.out.mono ?_
  rintro e w4 ⟨rfl,hK4,hy4⟩
  obtain ⟨AG,HAG⟩:∃ AG:Array Value,Hid (AG = #[.int .u64 0,.int .u8 0,.bool tl,.bool ha,.bool hb]):=⟨_,rfl⟩
  obtain ⟨Q4,hq4,M4,B4,l4⟩:=(HW3.out.1.turn hK4 hy4).box 44 g0L
  have G4:=((HW3.out.2.1.ky hy4).below l4).wide hq4
  have hn4:w.heap.size < w4.heap.size:=(HW3.out.2.1.ky hy4).bk.lt
  obtain ⟨tx,M5,B5,o5⟩:=M4.set B4 AG (by rw [HAG.out]; rfl)
  have G5:=o5 _ _ _ (by omega) G4
  have HTX:Hid _:=tx
  have B5:=B5.congr (show AG.toList = [.int .u64 0,.int .u8 0,.bool tl,.bool ha,.bool hb] by rw [HAG.out])
  have HW5:Hid (_∧_∧_):=(⟨M5,G5,B5⟩:_∧_∧_)
  simp only [g0L] at HW5 HTX
  clear hK4 hy4 CR3 HW3 M4 B4 l4 G4 M5 B5 o5 G5 tx hla hq4
  go_upto_region 5 with (refine wpList_store_mid rfl 44 (.tmp 18) (.tmp 39) rfl _ 0 AG rfl (congrArg Value.agg HAG.out.symm) HTX.out (by rw [HAG.out]; exact Tryz.sizeG) (by rw [HAG.out]; exact oneG _ _ _ _ _) ?_)
  clear HTX
  generalize (w4.alloc (.cells #[.int .u64 0,.int .u8 0,.bool false,.bool false,.bool false] 44)).setCells w4.heap.size 0 AG.toList = W5 at *
  have k1:=HW5.out.2.2.bk.cell 1
  simp only [List.getElem?_cons_zero,List.getElem?_cons_succ] at k1
  obtain ⟨pm,hpm⟩:=HW5.out.1.q.pm
  have CF5:Hid (Calls _ _ _ _ _):=CF.out _ W5 pm HW5.out.1.q hpm
  clear CF
  go_wp2_with fail
  refine CF5.out.mono ?_
  rintro e w6 ⟨rfl,hw6⟩
  subst hw6
  have z0:=HW5.out.2.2.bk.cell 0
  have fz:=HW5.out.2.2.bk.frozen 0
  simp only [List.getElem?_cons_zero,List.getElem?_cons_succ] at z0
  obtain ⟨M6,B6,o6⟩:=HW5.out.1.put HW5.out.2.2 0 (.int .u64 nv)
  have G6:=o6 _ _ _ (by omega) HW5.out.2.1
  simp only [List.set_cons_succ,List.set_cons_zero] at B6
  have HW6:Hid (_∧_∧_):=(⟨M6,G6,B6⟩:_∧_∧_)
  obtain ⟨AH,HAH⟩:∃ AH:Array Value,Hid (AH = #[.int .u64 nv,.int .u8 0,.bool tl,.bool ha,.bool hb]):=⟨_,rfl⟩
  clear M6 B6 o6 G6 HW5 CF5 hpm k1
  go_upto_region 7 with fail
  clear z0 fz
  generalize w6.setCell ⟨w4.heap.size,0,none⟩ (.int .u64 nv) = W6 at *
  have hlg:(Instr.loadAt 44 (.pointer (some ⟨w4.heap.size,0,none⟩))).run Tryz.prog W6 = _:=ld_got HW6.out.2.2.bk
  obtain ⟨tx,M7,G7,o7⟩:=HW6.out.1.set HW6.out.2.1 AH (by rw [HAH.out]; rfl)
  have HTX:Hid _:=tx
  have HF:Hid _:=M7.fin
  have HR:Hid (C.Blk _ _ _ _):=G7.bk
  clear tx M7 G7 o7 HW6
  go_wp2_with (first
    | (refine wpList_load_wm rfl 44 (.tmp 18) rfl _ _ rfl hlg ?_)
    | (refine wpList_store_mid rfl 44 (.tmp 12) (.tmp 54) rfl _ 0 AH rfl (congrArg Value.agg HAH.out.symm) HTX.out (by rw [HAH.out]; exact Tryz.sizeG) (by rw [HAH.out]; exact oneG _ _ _ _ _) ?_))
  exact bodyPost_ret (v:=.tuple #[.agg AH,.int .i64 0]) (res_gi rfl (by rw [HAH.out]; rfl) rfl rfl HR.out) rfl ⟨by rw [HAH.out],HF.out⟩
set_option maxHeartbeats 2000000 in
theorem mStore_no (K : Zq Z w t c p h P S m) (O : Ok P (fun r => m r ≠ none) S) (hN : P.N * P.C ≤ h.n) (a : Int) {r pg o z : Nat} (hr : m r ≠ none) (hr1 : r < 9223372036854775808) (hc : chkE m a (r : Nat) = 0) (hp : pg < 1048576) (h1 : 1 ≤ z) (h8 : z ≤ 8) (ho : o + z ≤ 256) (hy : (lookS h S.1 a r pg true).2.2.2 ≠ 0) (v : Int) :
    Calls Tryz.prog 10 #[.pointer (some ⟨c,0,none⟩),.pointer (some ⟨t,0,none⟩),.int .i64 a,.int .i64 (r:Nat),.int .u64 ((pg * 256 + o:Nat):Int),.int .i64 (z:Nat),.int .u64 v] w fun e w'=>e = .returned (.tuple #[.agg #[.int .u64 0,.int .u8 (lookS h S.1 a r pg true).2.2.2,.bool (lookS h S.1 a r pg true).2.2.1,.bool false,.bool false],.int .i64 0])∧Zq Z w' t c p h P ((lookS h S.1 a r pg true).1,S.2) m∧Ky Z w w':=by
  obtain ⟨Q0,hq0,M0,G0,l0⟩:=(Mq.start K).box 44 g0L
  obtain ⟨W0,hW0⟩:∃ W0,w.alloc (.cells g0L.toArray 44) = W0:=⟨_,rfl⟩
  rw [hW0] at M0 G0
  have HM0:Hid (Mq Z Q0 w W0 t c p h P S m):=M0
  have HG0:Hid (Bb Q0 w W0 w.heap.size 44 g0L):=G0
  have CB:Hid (Calls _ _ _ _ _):=begin_ok M0.q O hN a hr1 hc hp h1 h8 ho
  have CR:Hid (∀ Q' W,Zq Q' W t c p h P S m→Calls Tryz.prog 27 #[.agg #[.pointer (some ⟨c,0,none⟩),.pointer (some ⟨t,0,none⟩),.int .i64 a,.int .i64 (r:Nat),.int .i64 (pg:Nat),.bool true],.int .i64 (o:Nat)] W fun e w'=>e = .returned (.tuple #[.int .u64 0,.agg #[.int .u64 0,.int .u8 (lookS h S.1 a r pg true).2.2.2,.bool (lookS h S.1 a r pg true).2.2.1,.bool false,.bool false]])∧Zq Q' w' t c p h P ((lookS h S.1 a r pg true).1,S.2) m∧Ky Q' W w'):=fun Q' W KW=>mreach_no KW O hN a hr hp true (o:Nat) hy
  generalize (lookS h S.1 a r pg true).2.2.2 = y at *
  generalize (lookS h S.1 a r pg true).2.2.1 = tl at *
  generalize (lookS h S.1 a r pg true).1 = s1 at *
  have hyn:(y == 0) = false:=by simp [hy]
  simp only [g0L] at hW0
  clear K O M0 G0 l0 hq0 hc hr hr1 hp h1 h8 ho hy
  generalize ((r:Nat):Int) = ri at *
  generalize ((pg * 256 + o:Nat):Int) = vi at *
  generalize ((pg:Nat):Int) = pi at *
  generalize ((o:Nat):Int) = oi at *
  generalize ((z:Nat):Int) = zi at *
  go_enter Tryz.func10,Tryz.ntmps10
  go_upto_region 1 with fail
  try rw [hW0]
  clear hW0
  go_wp2_with fail
  refine CB.out.mono ?_
  rintro e w1 ⟨rfl,hK1,hy1⟩
  obtain ⟨AA,HAA⟩:∃ AA:Array Value,Hid (AA = #[.pointer (some ⟨c,0,none⟩),.pointer (some ⟨t,0,none⟩),.int .i64 a,.int .i64 ri,.int .i64 pi,.bool false]):=⟨_,rfl⟩
  obtain ⟨Q1,hq1,M1,A1,l1⟩:=(HM0.out.turn hK1 hy1).box 93 aL0
  have G1:=((HG0.out.ky hy1).below l1).wide hq1
  have hne:w.heap.size < w1.heap.size:=(HG0.out.ky hy1).bk.lt
  obtain ⟨tx,M2,A2,o2⟩:=M1.set A1 AA (by rw [HAA.out]; rfl)
  have G2:=o2 _ _ _ (by omega) G1
  have HTX:Hid _:=tx
  have A2:=A2.congr (show AA.toList = [.pointer (some ⟨c,0,none⟩),.pointer (some ⟨t,0,none⟩),.int .i64 a,.int .i64 ri,.int .i64 pi,.bool false] by rw [HAA.out])
  have HW2:Hid (_∧_∧_):=(⟨M2,G2,A2⟩:_∧_∧_)
  simp only [aL0] at HW2 HTX
  clear hK1 hy1 CB HM0 HG0 M1 A1 l1 G1 M2 A2 o2 G2 tx
  go_upto_region 4 with (refine wpList_store_mid rfl 93 (.tmp 16) (.tmp 29) rfl _ 0 AA rfl (congrArg Value.agg HAA.out.symm) HTX.out (by rw [HAA.out]; exact Tryz.sizeA) (by rw [HAA.out]; exact oneA _ _ _ _ _ _) ?_)
  clear HTX
  obtain ⟨W2,hW2⟩:∃ W2,(w1.alloc (.cells #[.pointer none,.pointer none,.int .i64 0,.int .i64 0,.int .i64 0,.bool false] 93)).setCells w1.heap.size 0 AA.toList = W2:=⟨_,rfl⟩
  rw [hW2] at HW2 ⊢
  clear hW2
  have z5:=HW2.out.2.2.bk.cell 5
  have fz:=HW2.out.2.2.bk.frozen 5
  simp only [List.getElem?_cons_zero,List.getElem?_cons_succ] at z5
  obtain ⟨M3,A3,o3⟩:=HW2.out.1.put HW2.out.2.2 5 (.bool true)
  have G3:=o3 _ _ _ (by omega) HW2.out.2.1
  simp only [List.set_cons_succ,List.set_cons_zero] at A3
  have HW3:Hid (_∧_∧_):=(⟨M3,G3,A3⟩:_∧_∧_)
  clear HW2 M3 A3 o3 G3
  go_upto_region 5 with fail
  clear z5 fz
  generalize W2.setCell ⟨w1.heap.size,5,none⟩ (.bool true) = W3 at *
  have hla:(Instr.loadAt 93 (.pointer (some ⟨w1.heap.size,0,none⟩))).run Tryz.prog W3 = _:=ld_ac HW3.out.2.2.bk
  have CR3:Hid (Calls _ _ _ _ _):=CR.out _ W3 HW3.out.1.q
  clear CR
  go_wp2_with (refine wpList_load_wm rfl 93 (.tmp 16) rfl _ _ rfl hla ?_)
  refine CR3.out.mono ?_
  rintro e w4 ⟨rfl,hK4,hy4⟩
  obtain ⟨AG,HAG⟩:∃ AG:Array Value,Hid (AG = #[.int .u64 0,.int .u8 y,.bool tl,.bool false,.bool false]):=⟨_,rfl⟩
  obtain ⟨Q4,hq4,M4,B4,l4⟩:=(HW3.out.1.turn hK4 hy4).box 44 g0L
  have G4:=((HW3.out.2.1.ky hy4).below l4).wide hq4
  have hn4:w.heap.size < w4.heap.size:=(HW3.out.2.1.ky hy4).bk.lt
  obtain ⟨tx,M5,B5,o5⟩:=M4.set B4 AG (by rw [HAG.out]; rfl)
  have G5:=o5 _ _ _ (by omega) G4
  have HTX:Hid _:=tx
  have B5:=B5.congr (show AG.toList = [.int .u64 0,.int .u8 y,.bool tl,.bool false,.bool false] by rw [HAG.out])
  have HW5:Hid (_∧_∧_):=(⟨M5,G5,B5⟩:_∧_∧_)
  simp only [g0L] at HW5 HTX
  clear hK4 hy4 CR3 HW3 M4 B4 l4 G4 M5 B5 o5 G5 tx hla hq4
  go_upto_region 6 with (refine wpList_store_mid rfl 44 (.tmp 20) (.tmp 42) rfl _ 0 AG rfl (congrArg Value.agg HAG.out.symm) HTX.out (by rw [HAG.out]; exact Tryz.sizeG) (by rw [HAG.out]; exact oneG _ _ _ _ _) ?_)
  clear HTX
  generalize (w4.alloc (.cells #[.int .u64 0,.int .u8 0,.bool false,.bool false,.bool false] 44)).setCells w4.heap.size 0 AG.toList = W5 at *
  have k1:=HW5.out.2.2.bk.cell 1
  simp only [List.getElem?_cons_zero,List.getElem?_cons_succ] at k1
  have HW6:=HW5
  have HAH:=HAG
  clear HW5 HAG
  generalize W5 = W6 at *
  generalize AG = AH at *
  go_upto_region 8 with fail
  clear k1
  have hlg:(Instr.loadAt 44 (.pointer (some ⟨w4.heap.size,0,none⟩))).run Tryz.prog W6 = _:=ld_got HW6.out.2.2.bk
  obtain ⟨tx,M7,G7,o7⟩:=HW6.out.1.set HW6.out.2.1 AH (by rw [HAH.out]; rfl)
  have HTX:Hid _:=tx
  have HF:Hid _:=M7.fin
  have HR:Hid (C.Blk _ _ _ _):=G7.bk
  clear tx M7 G7 o7 HW6
  go_wp2_with (first
    | (refine wpList_load_wm rfl 44 (.tmp 20) rfl _ _ rfl hlg ?_)
    | (refine wpList_store_mid rfl 44 (.tmp 14) (.tmp 54) rfl _ 0 AH rfl (congrArg Value.agg HAH.out.symm) HTX.out (by rw [HAH.out]; exact Tryz.sizeG) (by rw [HAH.out]; exact oneG _ _ _ _ _) ?_))
  exact bodyPost_ret (v:=.tuple #[.agg AH,.int .i64 0]) (res_gi rfl (by rw [HAH.out]; rfl) rfl rfl HR.out) rfl ⟨by rw [HAH.out],HF.out⟩
set_option maxHeartbeats 2000000 in
theorem mStore_ok (K : Zq Z w t c p h P S m) (O : Ok P (fun r => m r ≠ none) S) (hN : P.N * P.C ≤ h.n) (hn : h.n ≤ 4096) (a : Int) {r pg o z f : Nat} (hr : m r ≠ none) (hr1 : r < 9223372036854775808) (hc : chkE m a (r : Nat) = 0) (hp : pg < 1048576) (h1 : 1 ≤ z) (h8 : z ≤ 8) (ho : o + z ≤ 256) (hy : (lookS h S.1 a r pg true).2.2.2 = 0) (hf : (lookS h S.1 a r pg true).2.1.f = (f : Nat)) (hfn : f < h.n) (v : Int) (v0 : 0 ≤ v) (v1 : v < 18446744073709551616) :
    Calls Tryz.prog 10 #[.pointer (some ⟨c,0,none⟩),.pointer (some ⟨t,0,none⟩),.int .i64 a,.int .i64 (r:Nat),.int .u64 ((pg * 256 + o:Nat):Int),.int .i64 (z:Nat),.int .u64 v] w fun e w'=>e = .returned (.tuple #[.agg #[.int .u64 0,.int .u8 0,.bool (lookS h S.1 a r pg true).2.2.1,.bool (hA h (aheadS h S.1 a r pg true) (f * 256 + o)),.bool (hB h (aheadS h S.1 a r pg true) (f * 256 + o))],.int .i64 0])∧Zq Z w' t c p h P ({ (tou h (aheadS h S.1 a r pg true) (f * 256 + o)) with m:=F.lay (tou h (aheadS h S.1 a r pg true) (f * 256 + o)).m (f * 256 + o) z (F.byt v) },S.2) m∧Ky Z w w':=by
  obtain ⟨Q0,hq0,M0,G0,l0⟩:=(Mq.start K).box 44 g0L
  obtain ⟨W0,hW0⟩:∃ W0,w.alloc (.cells g0L.toArray 44) = W0:=⟨_,rfl⟩
  rw [hW0] at M0 G0
  have HM0:Hid (Mq Z Q0 w W0 t c p h P S m):=M0
  have HG0:Hid (Bb Q0 w W0 w.heap.size 44 g0L):=G0
  have CB:Hid (Calls _ _ _ _ _):=begin_ok M0.q O hN a hr1 hc hp h1 h8 ho
  have hpa:f * 256 + o + z ≤ h.n * 256:=by omega
  have CR:Hid (∀ Q' W,Zq Q' W t c p h P S m→Calls Tryz.prog 27 #[.agg #[.pointer (some ⟨c,0,none⟩),.pointer (some ⟨t,0,none⟩),.int .i64 a,.int .i64 (r:Nat),.int .i64 (pg:Nat),.bool true],.int .i64 (o:Nat)] W fun e w'=>e = .returned (.tuple #[.int .u64 ((f * 256 + o:Nat):Int),.agg #[.int .u64 0,.int .u8 0,.bool (lookS h S.1 a r pg true).2.2.1,.bool (hA h (aheadS h S.1 a r pg true) (f * 256 + o)),.bool (hB h (aheadS h S.1 a r pg true) (f * 256 + o))]])∧Zq Q' w' t c p h P ((tou h (aheadS h S.1 a r pg true) (f * 256 + o)),S.2) m∧Ky Q' W w'):=fun Q' W KW=>mreach_ok KW O hN hn a hr hp true hy hf hfn (by omega)
  generalize (lookS h S.1 a r pg true).2.2.1 = tl at *
  generalize hA h (aheadS h S.1 a r pg true) (f * 256 + o) = ha at *
  generalize hB h (aheadS h S.1 a r pg true) (f * 256 + o) = hb at *
  generalize (tou h (aheadS h S.1 a r pg true) (f * 256 + o)) = s1 at *
  generalize f * 256 + o = pa at *
  have CF:Hid (∀ Q' W pm,Zq Q' W t c p h P (s1,S.2) m→W.cell? ⟨c,0,none⟩ = some (.pointer (some ⟨pm,0,none⟩))→Calls Tryz.prog 28 #[.pointer (some ⟨pm,0,none⟩),.int .u64 (pa:Nat),.int .i64 (z:Nat),.int .u64 v] W fun e w'=>e = .returned (.int .i64 0)∧Zq Q' w' t c p h P ({ s1 with m:=F.lay s1.m pa z (F.byt v) },S.2) m∧Ky Q' W w'):=fun Q' W pm KW hc=>store_q KW hc pa z v h1 h8 hpa v0 v1
  simp only [g0L] at hW0
  clear K O M0 G0 l0 hq0 hc hr hr1 hp h1 h8 ho hy v0 v1 hf hfn hpa
  generalize ((r:Nat):Int) = ri at *
  generalize ((pg * 256 + o:Nat):Int) = vi at *
  generalize ((pg:Nat):Int) = pi at *
  generalize ((o:Nat):Int) = oi at *
  generalize ((z:Nat):Int) = zi at *
  go_enter Tryz.func10,Tryz.ntmps10
  go_upto_region 1 with fail
  try rw [hW0]
  clear hW0
  go_wp2_with fail
  refine CB.out.mono ?_
  rintro e w1 ⟨rfl,hK1,hy1⟩
  obtain ⟨AA,HAA⟩:∃ AA:Array Value,Hid (AA = #[.pointer (some ⟨c,0,none⟩),.pointer (some ⟨t,0,none⟩),.int .i64 a,.int .i64 ri,.int .i64 pi,.bool false]):=⟨_,rfl⟩
  obtain ⟨Q1,hq1,M1,A1,l1⟩:=(HM0.out.turn hK1 hy1).box 93 aL0
  have G1:=((HG0.out.ky hy1).below l1).wide hq1
  have hne:w.heap.size < w1.heap.size:=(HG0.out.ky hy1).bk.lt
  obtain ⟨tx,M2,A2,o2⟩:=M1.set A1 AA (by rw [HAA.out]; rfl)
  have G2:=o2 _ _ _ (by omega) G1
  have HTX:Hid _:=tx
  have A2:=A2.congr (show AA.toList = [.pointer (some ⟨c,0,none⟩),.pointer (some ⟨t,0,none⟩),.int .i64 a,.int .i64 ri,.int .i64 pi,.bool false] by rw [HAA.out])
  have HW2:Hid (_∧_∧_):=(⟨M2,G2,A2⟩:_∧_∧_)
  simp only [aL0] at HW2 HTX
  clear hK1 hy1 CB HM0 HG0 M1 A1 l1 G1 M2 A2 o2 G2 tx
  go_upto_region 4 with (refine wpList_store_mid rfl 93 (.tmp 16) (.tmp 29) rfl _ 0 AA rfl (congrArg Value.agg HAA.out.symm) HTX.out (by rw [HAA.out]; exact Tryz.sizeA) (by rw [HAA.out]; exact oneA _ _ _ _ _ _) ?_)
  clear HTX
  obtain ⟨W2,hW2⟩:∃ W2,(w1.alloc (.cells #[.pointer none,.pointer none,.int .i64 0,.int .i64 0,.int .i64 0,.bool false] 93)).setCells w1.heap.size 0 AA.toList = W2:=⟨_,rfl⟩
  rw [hW2] at HW2 ⊢
  clear hW2
  have z5:=HW2.out.2.2.bk.cell 5
  have fz:=HW2.out.2.2.bk.frozen 5
  simp only [List.getElem?_cons_zero,List.getElem?_cons_succ] at z5
  obtain ⟨M3,A3,o3⟩:=HW2.out.1.put HW2.out.2.2 5 (.bool true)
  have G3:=o3 _ _ _ (by omega) HW2.out.2.1
  simp only [List.set_cons_succ,List.set_cons_zero] at A3
  have HW3:Hid (_∧_∧_):=(⟨M3,G3,A3⟩:_∧_∧_)
  clear HW2 M3 A3 o3 G3
  go_upto_region 5 with fail
  clear z5 fz
  generalize W2.setCell ⟨w1.heap.size,5,none⟩ (.bool true) = W3 at *
  have hla:(Instr.loadAt 93 (.pointer (some ⟨w1.heap.size,0,none⟩))).run Tryz.prog W3 = _:=ld_ac HW3.out.2.2.bk
  have CR3:Hid (Calls _ _ _ _ _):=CR.out _ W3 HW3.out.1.q
  clear CR
  go_wp2_with (refine wpList_load_wm rfl 93 (.tmp 16) rfl _ _ rfl hla ?_)
  refine CR3.out.mono ?_
  rintro e w4 ⟨rfl,hK4,hy4⟩
  obtain ⟨AG,HAG⟩:∃ AG:Array Value,Hid (AG = #[.int .u64 0,.int .u8 0,.bool tl,.bool ha,.bool hb]):=⟨_,rfl⟩
  obtain ⟨Q4,hq4,M4,B4,l4⟩:=(HW3.out.1.turn hK4 hy4).box 44 g0L
  have G4:=((HW3.out.2.1.ky hy4).below l4).wide hq4
  have hn4:w.heap.size < w4.heap.size:=(HW3.out.2.1.ky hy4).bk.lt
  obtain ⟨tx,M5,B5,o5⟩:=M4.set B4 AG (by rw [HAG.out]; rfl)
  have G5:=o5 _ _ _ (by omega) G4
  have HTX:Hid _:=tx
  have B5:=B5.congr (show AG.toList = [.int .u64 0,.int .u8 0,.bool tl,.bool ha,.bool hb] by rw [HAG.out])
  have HW5:Hid (_∧_∧_):=(⟨M5,G5,B5⟩:_∧_∧_)
  simp only [g0L] at HW5 HTX
  clear hK4 hy4 CR3 HW3 M4 B4 l4 G4 M5 B5 o5 G5 tx hla hq4
  go_upto_region 6 with (refine wpList_store_mid rfl 44 (.tmp 20) (.tmp 42) rfl _ 0 AG rfl (congrArg Value.agg HAG.out.symm) HTX.out (by rw [HAG.out]; exact Tryz.sizeG) (by rw [HAG.out]; exact oneG _ _ _ _ _) ?_)
  clear HTX
  generalize (w4.alloc (.cells #[.int .u64 0,.int .u8 0,.bool false,.bool false,.bool false] 44)).setCells w4.heap.size 0 AG.toList = W5 at *
  have k1:=HW5.out.2.2.bk.cell 1
  simp only [List.getElem?_cons_zero,List.getElem?_cons_succ] at k1
  obtain ⟨pm,hpm⟩:=HW5.out.1.q.pm
  have CF5:Hid (Calls _ _ _ _ _):=CF.out _ W5 pm HW5.out.1.q hpm
  clear CF
  go_wp2_with fail
  refine CF5.out.mono ?_
  rintro e w6 ⟨rfl,hK6,hy6⟩
  have HW6:Hid (_∧_∧_):=(⟨HW5.out.1.turn hK6 hy6,HW5.out.2.1.ky hy6,HW5.out.2.2.ky hy6⟩:_∧_∧_)
  clear hK6 hy6 HW5 CF5 hpm k1
  have HAH:=HAG
  clear HAG
  generalize w6 = W6 at *
  generalize AG = AH at *
  have hlg:(Instr.loadAt 44 (.pointer (some ⟨w4.heap.size,0,none⟩))).run Tryz.prog W6 = _:=ld_got HW6.out.2.2.bk
  obtain ⟨tx,M7,G7,o7⟩:=HW6.out.1.set HW6.out.2.1 AH (by rw [HAH.out]; rfl)
  have HTX:Hid _:=tx
  have HF:Hid _:=M7.fin
  have HR:Hid (C.Blk _ _ _ _):=G7.bk
  clear tx M7 G7 o7 HW6
  go_wp2_with (first
    | (refine wpList_load_wm rfl 44 (.tmp 20) rfl _ _ rfl hlg ?_)
    | (refine wpList_store_mid rfl 44 (.tmp 14) (.tmp 54) rfl _ 0 AH rfl (congrArg Value.agg HAH.out.symm) HTX.out (by rw [HAH.out]; exact Tryz.sizeG) (by rw [HAH.out]; exact oneG _ _ _ _ _) ?_))
  exact bodyPost_ret (v:=.tuple #[.agg AH,.int .i64 0]) (res_gi rfl (by rw [HAH.out]; rfl) rfl rfl HR.out) rfl ⟨by rw [HAH.out],HF.out⟩
end
structure Lkk (Z Q:Nat→Prop) (w W:World) (t c p:Nat) (h:Hw) (P:Par) (S:E.Sc × Us) (m:Nat→Option Nat) (n:Nat) (AT AG:Array Value) (X Y:List Value):Prop where
  M:Mq Z Q w W t c p h P S m
  T:Bb Q w W w.heap.size 67 X
  G:Bb Q w W (w.heap.size + 1) 44 Y
  B:Bb Q w W n 67 AT.toList
  C:Bb Q w W (n + 1) 44 AG.toList
  ne:w.heap.size + 1 < n
  sT:AT.size = 6
  sG:AG.size = 5
  oT:AT.all (·.oneCell') = true
  oG:AG.all (·.oneCell') = true
section
variable {Z Q:Nat→Prop} {w W:World} {t c p n:Nat} {h:Hw} {P:Par} {S:E.Sc × Us} {m:Nat→Option Nat} {AT AG:Array Value} {X Y:List Value}
end
section
variable {Z:Nat→Prop} {w:World} {t c p:Nat} {h:Hw} {P:Par} {S:E.Sc × Us} {m:Nat→Option Nat}
end
end Go.Proofs.YtgljdbabagdhlaaGreat.Pg
