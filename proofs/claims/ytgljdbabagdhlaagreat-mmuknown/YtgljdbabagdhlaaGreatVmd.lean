/- The mmu's begin of an access that may be; no condition but those named. -/
import Derived.Test.YtgljdbabagdhlaaGreatVmc
namespace Go.Proofs.YtgljdbabagdhlaaGreat.Pg
open P E Go.ChangeShapes Go.WideShapes Go.ChangeAt Go.RowKit
set_option linter.unusedVariables false
set_option linter.unusedSimpArgs false
set_option maxRecDepth 100000
section
variable {Z : Nat → Prop} {w : World} {t c p : Nat} {h : Hw} {P : Par} {S : E.Sc × Us} {m : Nat → Option Nat}
theorem res_aii {fn : Func} {p q r : Tmp} (h : fn.results = #[.cell p 93, .tmp q, .tmp r]) {tmps : Array Value} {w : World} {s : Nat} {u v : Value} {A : Array Value} (hA : A.size = 6) (hp : tmps.getD p undef = .pointer (some ⟨s, 0, none⟩)) (hq : tmps.getD q undef = u) (hr : tmps.getD r undef = v) (hc : C.Blk w s 93 A.toList) :
    (results fn tmps).run Tryz.prog w = .ok (.tuple #[.agg A, u, v]) w := by
  have hl2 : (loadVar 93 ⟨s, 0, none⟩).run Tryz.prog w = .ok (.agg A) w := run_loadVar_row w s 93 93 A (0, 0) _ hc Tryz.underlying93 rfl (by rw [hA]; exact Tryz.sizeA)
  simp only [results, h]
  simp only [Array.getD_eq_getD_getElem?] at hp hq hr
  simp [Result.andThen, hp, hq, hr, asAddr, hl2]
theorem oneA (c t : Nat) (a r pg : Int) (wr : Bool) : (#[.pointer (some ⟨c, 0, none⟩), .pointer (some ⟨t, 0, none⟩), .int .i64 a, .int .i64 r, .int .i64 pg, .bool wr] : Array Value).all (·.oneCell') = true := by simp [Value.oneCell']
def aL0 : List Value := [.pointer none, .pointer none, .int .i64 0, .int .i64 0, .int .i64 0, .bool false]
set_option maxHeartbeats 1000000 in
theorem begin_ok (K : Zq Z w t c p h P S m) (O : Ok P (fun r => m r ≠ none) S) (hN : P.N * P.C ≤ h.n) (a : Int) {r pg o z : Nat} (hr : r < 9223372036854775808) (hc : chkE m a (r : Nat) = 0) (hp : pg < 1048576) (h1 : 1 ≤ z) (h8 : z ≤ 8) (ho : o + z ≤ 256) :
    Calls Tryz.prog 26 #[.pointer (some ⟨c, 0, none⟩), .pointer (some ⟨t, 0, none⟩), .int .i64 a, .int .i64 (r : Nat), .int .u64 ((pg * 256 + o : Nat) : Int), .int .i64 (z : Nat)] w fun e w' => e = .returned (.tuple #[.agg #[.pointer (some ⟨c, 0, none⟩), .pointer (some ⟨t, 0, none⟩), .int .i64 a, .int .i64 (r : Nat), .int .i64 (pg : Nat), .bool false], .int .i64 (o : Nat), .int .i64 0]) ∧ Zq Z w' t c p h P S m ∧ Ky Z w w' := by
  obtain ⟨Q, hq0, M0, BA, l0⟩ := (Mq.start K).box 93 aL0
  obtain ⟨W0, hW0⟩ : ∃ W0, w.alloc (.cells aL0.toArray 93) = W0 := ⟨_, rfl⟩
  rw [hW0] at M0 BA
  have HM0 : Hid (Mq Z Q w W0 t c p h P S m) := M0
  have HBA : Hid (Bb Q w W0 w.heap.size 93 aL0) := BA
  have CC := check_q M0.q O hN a (r : Nat) (by omega) (by omega)
  rw [hc] at CC
  have CC : Hid (Calls _ _ _ _ _) := CC
  have CR : Hid (∀ W, Calls Tryz.prog 64 #[.int .u64 ((pg * 256 + o : Nat) : Int), .int .i64 (z : Nat)] W fun e w' => e = .returned (.tuple #[.int .i64 (pg : Nat), .int .i64 (o : Nat), .int .i64 0]) ∧ w' = W) := fun W => (A.Run_ok ((pg * 256 + o : Nat) : Int) (z : Nat) (by omega) (by omega) (by omega) (by omega) (by omega) W).mono fun e w' ⟨he, hw⟩ => ⟨by rw [he, show ((pg * 256 + o : Nat) : Int) / 256 = (pg : Nat) by omega, show ((pg * 256 + o : Nat) : Int) % 256 = (o : Nat) by omega], hw⟩
  simp only [aL0] at hW0
  clear K O M0 BA l0 hq0 hc hr hp h1 h8 ho
  generalize ((r : Nat) : Int) = ri at *
  generalize ((pg * 256 + o : Nat) : Int) = vi at *
  generalize ((pg : Nat) : Int) = pi at *
  generalize ((o : Nat) : Int) = oi at *
  generalize ((z : Nat) : Int) = zi at *
  go_enter Tryz.func26, Tryz.ntmps26
  go_upto_region 1 with fail
  try rw [hW0]
  clear hW0
  go_wp2_with fail
  refine CC.out.mono ?_
  rintro e w1 ⟨rfl, hK1, hy1⟩
  obtain ⟨AA, HAA⟩ : ∃ AA : Array Value, Hid (AA = #[.pointer (some ⟨c, 0, none⟩), .pointer (some ⟨t, 0, none⟩), .int .i64 a, .int .i64 ri, .int .i64 pi, .bool false]) := ⟨_, rfl⟩
  obtain ⟨tx, M3, T3, o3⟩ := (HM0.out.turn hK1 hy1).set (HBA.out.ky hy1) AA (by rw [HAA.out]; rfl)
  have HF : Hid _ := M3.fin
  have HR : Hid (C.Blk _ _ _ _) := T3.bk
  have HTX : Hid _ := tx
  clear hK1 hy1 M3 T3 o3 tx HM0 HBA CC
  go_wp2_with (first
    | (go_at_call 64; refine (CR.out _).mono ?_; rintro e w' ⟨rfl, hw'⟩; subst hw')
    | (refine wpList_store_mid rfl 93 (.tmp 12) (.tmp 44) rfl _ 0 AA rfl (congrArg Value.agg HAA.out.symm) HTX.out (by rw [HAA.out]; exact Tryz.sizeA) (by rw [HAA.out]; exact oneA _ _ _ _ _ _) ?_))
  exact bodyPost_ret (v := .tuple #[.agg AA, .int .i64 oi, .int .i64 0]) (res_aii rfl (by rw [HAA.out]; rfl) rfl rfl rfl HR.out) rfl ⟨by rw [HAA.out], HF.out⟩
end
end Go.Proofs.YtgljdbabagdhlaaGreat.Pg
namespace Go.Proofs.YtgljdbabagdhlaaGreat.Pg
open P E Go.ChangeShapes Go.WideShapes Go.ChangeAt Go.RowKit
set_option linter.unusedVariables false
set_option linter.unusedSimpArgs false
set_option maxRecDepth 100000
section
variable {Z : Nat → Prop} {w : World} {t c p : Nat} {h : Hw} {P : Par} {S : E.Sc × Us} {m : Nat → Option Nat}
theorem res_gi {fn : Func} {p q : Tmp} (h : fn.results = #[.cell p 44, .tmp q]) {tmps : Array Value} {w : World} {s : Nat} {v : Value} {A : Array Value} (hA : A.size = 5) (hp : tmps.getD p undef = .pointer (some ⟨s, 0, none⟩)) (hq : tmps.getD q undef = v) (hc : C.Blk w s 44 A.toList) :
    (results fn tmps).run Tryz.prog w = .ok (.tuple #[.agg A, v]) w := by
  have hl2 : (loadVar 44 ⟨s, 0, none⟩).run Tryz.prog w = .ok (.agg A) w := run_loadVar_row w s 44 44 A (0, 0) _ hc Tryz.underlying44 rfl (by rw [hA]; exact Tryz.sizeG)
  simp only [results, h]
  simp only [Array.getD_eq_getD_getElem?] at hp hq
  simp [Result.andThen, hp, hq, asAddr, hl2]
theorem oneG (v y : Int) (b1 b2 b3 : Bool) : (#[.int .u64 v, .int .u8 y, .bool b1, .bool b2, .bool b3] : Array Value).all (·.oneCell') = true := by simp [Value.oneCell']
theorem ld_got {W : World} {b : Nat} {v y : Int} {b1 b2 b3 : Bool} (h : C.Blk W b 44 [.int .u64 v, .int .u8 y, .bool b1, .bool b2, .bool b3]) : (Instr.loadAt 44 (.pointer (some ⟨b, 0, none⟩))).run Tryz.prog W = .ok (.agg #[.int .u64 v, .int .u8 y, .bool b1, .bool b2, .bool b3]) W := by
  have c0 := h.cell 0
  have c1 := h.cell 1
  have c2 := h.cell 2
  have c3 := h.cell 3
  have c4 := h.cell 4
  simp only [List.getElem?_cons_zero, List.getElem?_cons_succ] at c0 c1 c2 c3 c4
  clear h
  simp [go_sem, *]
set_option maxHeartbeats 2000000 in
theorem mLoad_no (K : Zq Z w t c p h P S m) (O : Ok P (fun r => m r ≠ none) S) (hN : P.N * P.C ≤ h.n) (a : Int) {r pg o z : Nat} (hr : m r ≠ none) (hr1 : r < 9223372036854775808) (hc : chkE m a (r : Nat) = 0) (hp : pg < 1048576) (h1 : 1 ≤ z) (h8 : z ≤ 8) (ho : o + z ≤ 256) (hy : (lookS h S.1 a r pg false).2.2.2 ≠ 0) :
    Calls Tryz.prog 11 #[.pointer (some ⟨c, 0, none⟩), .pointer (some ⟨t, 0, none⟩), .int .i64 a, .int .i64 (r : Nat), .int .u64 ((pg * 256 + o : Nat) : Int), .int .i64 (z : Nat)] w fun e w' => e = .returned (.tuple #[.agg #[.int .u64 0, .int .u8 (lookS h S.1 a r pg false).2.2.2, .bool (lookS h S.1 a r pg false).2.2.1, .bool false, .bool false], .int .i64 0]) ∧ Zq Z w' t c p h P ((lookS h S.1 a r pg false).1, S.2) m ∧ Ky Z w w' := by
  obtain ⟨Q0, hq0, M0, G0, l0⟩ := (Mq.start K).box 44 g0L
  obtain ⟨W0, hW0⟩ : ∃ W0, w.alloc (.cells g0L.toArray 44) = W0 := ⟨_, rfl⟩
  rw [hW0] at M0 G0
  have HM0 : Hid (Mq Z Q0 w W0 t c p h P S m) := M0
  have HG0 : Hid (Bb Q0 w W0 w.heap.size 44 g0L) := G0
  have CB : Hid (Calls _ _ _ _ _) := begin_ok M0.q O hN a hr1 hc hp h1 h8 ho
  have CR : Hid (∀ Q' W, Zq Q' W t c p h P S m → Calls Tryz.prog 27 #[.agg #[.pointer (some ⟨c, 0, none⟩), .pointer (some ⟨t, 0, none⟩), .int .i64 a, .int .i64 (r : Nat), .int .i64 (pg : Nat), .bool false], .int .i64 (o : Nat)] W fun e w' => e = .returned (.tuple #[.int .u64 0, .agg #[.int .u64 0, .int .u8 (lookS h S.1 a r pg false).2.2.2, .bool (lookS h S.1 a r pg false).2.2.1, .bool false, .bool false]]) ∧ Zq Q' w' t c p h P ((lookS h S.1 a r pg false).1, S.2) m ∧ Ky Q' W w') := fun Q' W KW => mreach_no KW O hN a hr hp false (o : Nat) hy
  generalize (lookS h S.1 a r pg false).2.2.2 = y at *
  generalize (lookS h S.1 a r pg false).2.2.1 = tl at *
  generalize (lookS h S.1 a r pg false).1 = s1 at *
  have hyn : (y == 0) = false := by simp [hy]
  simp only [g0L] at hW0
  clear K O M0 G0 l0 hq0 hc hr hr1 hp h1 h8 ho hy
  generalize ((r : Nat) : Int) = ri at *
  generalize ((pg * 256 + o : Nat) : Int) = vi at *
  generalize ((pg : Nat) : Int) = pi at *
  generalize ((o : Nat) : Int) = oi at *
  generalize ((z : Nat) : Int) = zi at *
  go_enter Tryz.func11, Tryz.ntmps11
  go_upto_region 1 with fail
  try rw [hW0]
  clear hW0
  go_wp2_with fail
  refine CB.out.mono ?_
  rintro e w1 ⟨rfl, hK1, hy1⟩
  obtain ⟨AA, HAA⟩ : ∃ AA : Array Value, Hid (AA = #[.pointer (some ⟨c, 0, none⟩), .pointer (some ⟨t, 0, none⟩), .int .i64 a, .int .i64 ri, .int .i64 pi, .bool false]) := ⟨_, rfl⟩
  obtain ⟨Q1, hq1, M1, A1, l1⟩ := (HM0.out.turn hK1 hy1).box 93 aL0
  have G1 := ((HG0.out.ky hy1).below l1).wide hq1
  have hne : w.heap.size < w1.heap.size := (HG0.out.ky hy1).bk.lt
  obtain ⟨tx, M2, A2, o2⟩ := M1.set A1 AA (by rw [HAA.out]; rfl)
  have G2 := o2 _ _ _ (by omega) G1
  have HTX : Hid _ := tx
  have A2 := A2.congr (show AA.toList = [.pointer (some ⟨c, 0, none⟩), .pointer (some ⟨t, 0, none⟩), .int .i64 a, .int .i64 ri, .int .i64 pi, .bool false] by rw [HAA.out])
  have HW2 : Hid (_ ∧ _ ∧ _) := (⟨M2, G2, A2⟩ : _ ∧ _ ∧ _)
  simp only [aL0] at HW2 HTX
  clear hK1 hy1 CB HM0 HG0 M1 A1 l1 G1 M2 A2 o2 G2 tx
  go_upto_region 4 with (refine wpList_store_mid rfl 93 (.tmp 14) (.tmp 27) rfl _ 0 AA rfl (congrArg Value.agg HAA.out.symm) HTX.out (by rw [HAA.out]; exact Tryz.sizeA) (by rw [HAA.out]; exact oneA _ _ _ _ _ _) ?_)
  clear HTX
  obtain ⟨W2, hW2⟩ : ∃ W2, (w1.alloc (.cells #[.pointer none, .pointer none, .int .i64 0, .int .i64 0, .int .i64 0, .bool false] 93)).setCells w1.heap.size 0 AA.toList = W2 := ⟨_, rfl⟩
  rw [hW2] at HW2 ⊢
  clear hW2
  have HW3 := HW2
  clear HW2
  generalize W2 = W3 at *
  have hla : (Instr.loadAt 93 (.pointer (some ⟨w1.heap.size, 0, none⟩))).run Tryz.prog W3 = _ := ld_ac HW3.out.2.2.bk
  have CR3 : Hid (Calls _ _ _ _ _) := CR.out _ W3 HW3.out.1.q
  clear CR
  go_wp2_with (refine wpList_load_wm rfl 93 (.tmp 14) rfl _ _ rfl hla ?_)
  refine CR3.out.mono ?_
  rintro e w4 ⟨rfl, hK4, hy4⟩
  obtain ⟨AG, HAG⟩ : ∃ AG : Array Value, Hid (AG = #[.int .u64 0, .int .u8 y, .bool tl, .bool false, .bool false]) := ⟨_, rfl⟩
  obtain ⟨Q4, hq4, M4, B4, l4⟩ := (HW3.out.1.turn hK4 hy4).box 44 g0L
  have G4 := ((HW3.out.2.1.ky hy4).below l4).wide hq4
  have hn4 : w.heap.size < w4.heap.size := (HW3.out.2.1.ky hy4).bk.lt
  obtain ⟨tx, M5, B5, o5⟩ := M4.set B4 AG (by rw [HAG.out]; rfl)
  have G5 := o5 _ _ _ (by omega) G4
  have HTX : Hid _ := tx
  have B5 := B5.congr (show AG.toList = [.int .u64 0, .int .u8 y, .bool tl, .bool false, .bool false] by rw [HAG.out])
  have HW5 : Hid (_ ∧ _ ∧ _) := (⟨M5, G5, B5⟩ : _ ∧ _ ∧ _)
  simp only [g0L] at HW5 HTX
  clear hK4 hy4 CR3 HW3 M4 B4 l4 G4 M5 B5 o5 G5 tx hla hq4
  go_upto_region 5 with (refine wpList_store_mid rfl 44 (.tmp 18) (.tmp 39) rfl _ 0 AG rfl (congrArg Value.agg HAG.out.symm) HTX.out (by rw [HAG.out]; exact Tryz.sizeG) (by rw [HAG.out]; exact oneG _ _ _ _ _) ?_)
  clear HTX
  generalize (w4.alloc (.cells #[.int .u64 0, .int .u8 0, .bool false, .bool false, .bool false] 44)).setCells w4.heap.size 0 AG.toList = W5 at *
  have k1 := HW5.out.2.2.bk.cell 1
  simp only [List.getElem?_cons_zero, List.getElem?_cons_succ] at k1
  have HW6 := HW5
  have HAH := HAG
  clear HW5 HAG
  generalize W5 = W6 at *
  generalize AG = AH at *
  go_upto_region 7 with fail
  clear k1
  have hlg : (Instr.loadAt 44 (.pointer (some ⟨w4.heap.size, 0, none⟩))).run Tryz.prog W6 = _ := ld_got HW6.out.2.2.bk
  obtain ⟨tx, M7, G7, o7⟩ := HW6.out.1.set HW6.out.2.1 AH (by rw [HAH.out]; rfl)
  have HTX : Hid _ := tx
  have HF : Hid _ := M7.fin
  have HR : Hid (C.Blk _ _ _ _) := G7.bk
  clear tx M7 G7 o7 HW6
  go_wp2_with (first
    | (refine wpList_load_wm rfl 44 (.tmp 18) rfl _ _ rfl hlg ?_)
    | (refine wpList_store_mid rfl 44 (.tmp 12) (.tmp 54) rfl _ 0 AH rfl (congrArg Value.agg HAH.out.symm) HTX.out (by rw [HAH.out]; exact Tryz.sizeG) (by rw [HAH.out]; exact oneG _ _ _ _ _) ?_))
  exact bodyPost_ret (v := .tuple #[.agg AH, .int .i64 0]) (res_gi rfl (by rw [HAH.out]; rfl) rfl rfl HR.out) rfl ⟨by rw [HAH.out], HF.out⟩
set_option maxHeartbeats 2000000 in
theorem mLoad_ok (K : Zq Z w t c p h P S m) (O : Ok P (fun r => m r ≠ none) S) (hN : P.N * P.C ≤ h.n) (hn : h.n ≤ 4096) (a : Int) {r pg o z f : Nat} (hr : m r ≠ none) (hr1 : r < 9223372036854775808) (hc : chkE m a (r : Nat) = 0) (hp : pg < 1048576) (h1 : 1 ≤ z) (h8 : z ≤ 8) (ho : o + z ≤ 256) (hy : (lookS h S.1 a r pg false).2.2.2 = 0) (hf : (lookS h S.1 a r pg false).2.1.f = (f : Nat)) (hfn : f < h.n) :
    Calls Tryz.prog 11 #[.pointer (some ⟨c, 0, none⟩), .pointer (some ⟨t, 0, none⟩), .int .i64 a, .int .i64 (r : Nat), .int .u64 ((pg * 256 + o : Nat) : Int), .int .i64 (z : Nat)] w fun e w' => e = .returned (.tuple #[.agg #[.int .u64 (F.num (tou h (aheadS h S.1 a r pg false) (f * 256 + o)).m (f * 256 + o) z), .int .u8 0, .bool (lookS h S.1 a r pg false).2.2.1, .bool (hA h (aheadS h S.1 a r pg false) (f * 256 + o)), .bool (hB h (aheadS h S.1 a r pg false) (f * 256 + o))], .int .i64 0]) ∧ Zq Z w' t c p h P ((tou h (aheadS h S.1 a r pg false) (f * 256 + o)), S.2) m ∧ Ky Z w w' := by
  obtain ⟨Q0, hq0, M0, G0, l0⟩ := (Mq.start K).box 44 g0L
  obtain ⟨W0, hW0⟩ : ∃ W0, w.alloc (.cells g0L.toArray 44) = W0 := ⟨_, rfl⟩
  rw [hW0] at M0 G0
  have HM0 : Hid (Mq Z Q0 w W0 t c p h P S m) := M0
  have HG0 : Hid (Bb Q0 w W0 w.heap.size 44 g0L) := G0
  have CB : Hid (Calls _ _ _ _ _) := begin_ok M0.q O hN a hr1 hc hp h1 h8 ho
  have hpa : f * 256 + o + z ≤ h.n * 256 := by omega
  have CR : Hid (∀ Q' W, Zq Q' W t c p h P S m → Calls Tryz.prog 27 #[.agg #[.pointer (some ⟨c, 0, none⟩), .pointer (some ⟨t, 0, none⟩), .int .i64 a, .int .i64 (r : Nat), .int .i64 (pg : Nat), .bool false], .int .i64 (o : Nat)] W fun e w' => e = .returned (.tuple #[.int .u64 ((f * 256 + o : Nat) : Int), .agg #[.int .u64 0, .int .u8 0, .bool (lookS h S.1 a r pg false).2.2.1, .bool (hA h (aheadS h S.1 a r pg false) (f * 256 + o)), .bool (hB h (aheadS h S.1 a r pg false) (f * 256 + o))]]) ∧ Zq Q' w' t c p h P ((tou h (aheadS h S.1 a r pg false) (f * 256 + o)), S.2) m ∧ Ky Q' W w') := fun Q' W KW => mreach_ok KW O hN hn a hr hp false hy hf hfn (by omega)
  generalize (lookS h S.1 a r pg false).2.2.1 = tl at *
  generalize hA h (aheadS h S.1 a r pg false) (f * 256 + o) = ha at *
  generalize hB h (aheadS h S.1 a r pg false) (f * 256 + o) = hb at *
  generalize (tou h (aheadS h S.1 a r pg false) (f * 256 + o)) = s1 at *
  generalize f * 256 + o = pa at *
  have CF : Hid (∀ Q' W pm, Zq Q' W t c p h P (s1, S.2) m → W.cell? ⟨c, 0, none⟩ = some (.pointer (some ⟨pm, 0, none⟩)) → Calls Tryz.prog 29 #[.pointer (some ⟨pm, 0, none⟩), .int .u64 (pa : Nat), .int .i64 (z : Nat)] W fun e w' => e = .returned (.tuple #[.int .u64 (F.num s1.m pa z), .int .i64 0]) ∧ w' = W) := fun Q' W pm KW hc => load_q KW hc pa z h1 h8 hpa
  generalize F.num s1.m pa z = nv at *
  simp only [g0L] at hW0
  clear K O M0 G0 l0 hq0 hc hr hr1 hp h1 h8 ho hy hf hfn hpa
  generalize ((r : Nat) : Int) = ri at *
  generalize ((pg * 256 + o : Nat) : Int) = vi at *
  generalize ((pg : Nat) : Int) = pi at *
  generalize ((o : Nat) : Int) = oi at *
  generalize ((z : Nat) : Int) = zi at *
  go_enter Tryz.func11, Tryz.ntmps11
  go_upto_region 1 with fail
  try rw [hW0]
  clear hW0
  go_wp2_with fail
  refine CB.out.mono ?_
  rintro e w1 ⟨rfl, hK1, hy1⟩
  obtain ⟨AA, HAA⟩ : ∃ AA : Array Value, Hid (AA = #[.pointer (some ⟨c, 0, none⟩), .pointer (some ⟨t, 0, none⟩), .int .i64 a, .int .i64 ri, .int .i64 pi, .bool false]) := ⟨_, rfl⟩
  obtain ⟨Q1, hq1, M1, A1, l1⟩ := (HM0.out.turn hK1 hy1).box 93 aL0
  have G1 := ((HG0.out.ky hy1).below l1).wide hq1
  have hne : w.heap.size < w1.heap.size := (HG0.out.ky hy1).bk.lt
  obtain ⟨tx, M2, A2, o2⟩ := M1.set A1 AA (by rw [HAA.out]; rfl)
  have G2 := o2 _ _ _ (by omega) G1
  have HTX : Hid _ := tx
  have A2 := A2.congr (show AA.toList = [.pointer (some ⟨c, 0, none⟩), .pointer (some ⟨t, 0, none⟩), .int .i64 a, .int .i64 ri, .int .i64 pi, .bool false] by rw [HAA.out])
  have HW2 : Hid (_ ∧ _ ∧ _) := (⟨M2, G2, A2⟩ : _ ∧ _ ∧ _)
  simp only [aL0] at HW2 HTX
  clear hK1 hy1 CB HM0 HG0 M1 A1 l1 G1 M2 A2 o2 G2 tx
  go_upto_region 4 with (refine wpList_store_mid rfl 93 (.tmp 14) (.tmp 27) rfl _ 0 AA rfl (congrArg Value.agg HAA.out.symm) HTX.out (by rw [HAA.out]; exact Tryz.sizeA) (by rw [HAA.out]; exact oneA _ _ _ _ _ _) ?_)
  clear HTX
  obtain ⟨W2, hW2⟩ : ∃ W2, (w1.alloc (.cells #[.pointer none, .pointer none, .int .i64 0, .int .i64 0, .int .i64 0, .bool false] 93)).setCells w1.heap.size 0 AA.toList = W2 := ⟨_, rfl⟩
  rw [hW2] at HW2 ⊢
  clear hW2
  have HW3 := HW2
  clear HW2
  generalize W2 = W3 at *
  have hla : (Instr.loadAt 93 (.pointer (some ⟨w1.heap.size, 0, none⟩))).run Tryz.prog W3 = _ := ld_ac HW3.out.2.2.bk
  have CR3 : Hid (Calls _ _ _ _ _) := CR.out _ W3 HW3.out.1.q
  clear CR
  go_wp2_with (refine wpList_load_wm rfl 93 (.tmp 14) rfl _ _ rfl hla ?_)
  refine CR3.out.mono ?_
  rintro e w4 ⟨rfl, hK4, hy4⟩
  obtain ⟨AG, HAG⟩ : ∃ AG : Array Value, Hid (AG = #[.int .u64 0, .int .u8 0, .bool tl, .bool ha, .bool hb]) := ⟨_, rfl⟩
  obtain ⟨Q4, hq4, M4, B4, l4⟩ := (HW3.out.1.turn hK4 hy4).box 44 g0L
  have G4 := ((HW3.out.2.1.ky hy4).below l4).wide hq4
  have hn4 : w.heap.size < w4.heap.size := (HW3.out.2.1.ky hy4).bk.lt
  obtain ⟨tx, M5, B5, o5⟩ := M4.set B4 AG (by rw [HAG.out]; rfl)
  have G5 := o5 _ _ _ (by omega) G4
  have HTX : Hid _ := tx
  have B5 := B5.congr (show AG.toList = [.int .u64 0, .int .u8 0, .bool tl, .bool ha, .bool hb] by rw [HAG.out])
  have HW5 : Hid (_ ∧ _ ∧ _) := (⟨M5, G5, B5⟩ : _ ∧ _ ∧ _)
  simp only [g0L] at HW5 HTX
  clear hK4 hy4 CR3 HW3 M4 B4 l4 G4 M5 B5 o5 G5 tx hla hq4
  go_upto_region 5 with (refine wpList_store_mid rfl 44 (.tmp 18) (.tmp 39) rfl _ 0 AG rfl (congrArg Value.agg HAG.out.symm) HTX.out (by rw [HAG.out]; exact Tryz.sizeG) (by rw [HAG.out]; exact oneG _ _ _ _ _) ?_)
  clear HTX
  generalize (w4.alloc (.cells #[.int .u64 0, .int .u8 0, .bool false, .bool false, .bool false] 44)).setCells w4.heap.size 0 AG.toList = W5 at *
  have k1 := HW5.out.2.2.bk.cell 1
  simp only [List.getElem?_cons_zero, List.getElem?_cons_succ] at k1
  obtain ⟨pm, hpm⟩ := HW5.out.1.q.pm
  have CF5 : Hid (Calls _ _ _ _ _) := CF.out _ W5 pm HW5.out.1.q hpm
  clear CF
  go_wp2_with fail
  refine CF5.out.mono ?_
  rintro e w6 ⟨rfl, hw6⟩
  subst hw6
  have z0 := HW5.out.2.2.bk.cell 0
  have fz := HW5.out.2.2.bk.frozen 0
  simp only [List.getElem?_cons_zero, List.getElem?_cons_succ] at z0
  obtain ⟨M6, B6, o6⟩ := HW5.out.1.put HW5.out.2.2 0 (.int .u64 nv)
  have G6 := o6 _ _ _ (by omega) HW5.out.2.1
  simp only [List.set_cons_succ, List.set_cons_zero] at B6
  have HW6 : Hid (_ ∧ _ ∧ _) := (⟨M6, G6, B6⟩ : _ ∧ _ ∧ _)
  obtain ⟨AH, HAH⟩ : ∃ AH : Array Value, Hid (AH = #[.int .u64 nv, .int .u8 0, .bool tl, .bool ha, .bool hb]) := ⟨_, rfl⟩
  clear M6 B6 o6 G6 HW5 CF5 hpm k1
  go_upto_region 7 with fail
  clear z0 fz
  generalize w6.setCell ⟨w4.heap.size, 0, none⟩ (.int .u64 nv) = W6 at *
  have hlg : (Instr.loadAt 44 (.pointer (some ⟨w4.heap.size, 0, none⟩))).run Tryz.prog W6 = _ := ld_got HW6.out.2.2.bk
  obtain ⟨tx, M7, G7, o7⟩ := HW6.out.1.set HW6.out.2.1 AH (by rw [HAH.out]; rfl)
  have HTX : Hid _ := tx
  have HF : Hid _ := M7.fin
  have HR : Hid (C.Blk _ _ _ _) := G7.bk
  clear tx M7 G7 o7 HW6
  go_wp2_with (first
    | (refine wpList_load_wm rfl 44 (.tmp 18) rfl _ _ rfl hlg ?_)
    | (refine wpList_store_mid rfl 44 (.tmp 12) (.tmp 54) rfl _ 0 AH rfl (congrArg Value.agg HAH.out.symm) HTX.out (by rw [HAH.out]; exact Tryz.sizeG) (by rw [HAH.out]; exact oneG _ _ _ _ _) ?_))
  exact bodyPost_ret (v := .tuple #[.agg AH, .int .i64 0]) (res_gi rfl (by rw [HAH.out]; rfl) rfl rfl HR.out) rfl ⟨by rw [HAH.out], HF.out⟩
set_option maxHeartbeats 2000000 in
theorem mStore_no (K : Zq Z w t c p h P S m) (O : Ok P (fun r => m r ≠ none) S) (hN : P.N * P.C ≤ h.n) (a : Int) {r pg o z : Nat} (hr : m r ≠ none) (hr1 : r < 9223372036854775808) (hc : chkE m a (r : Nat) = 0) (hp : pg < 1048576) (h1 : 1 ≤ z) (h8 : z ≤ 8) (ho : o + z ≤ 256) (hy : (lookS h S.1 a r pg true).2.2.2 ≠ 0) (v : Int) :
    Calls Tryz.prog 10 #[.pointer (some ⟨c, 0, none⟩), .pointer (some ⟨t, 0, none⟩), .int .i64 a, .int .i64 (r : Nat), .int .u64 ((pg * 256 + o : Nat) : Int), .int .i64 (z : Nat), .int .u64 v] w fun e w' => e = .returned (.tuple #[.agg #[.int .u64 0, .int .u8 (lookS h S.1 a r pg true).2.2.2, .bool (lookS h S.1 a r pg true).2.2.1, .bool false, .bool false], .int .i64 0]) ∧ Zq Z w' t c p h P ((lookS h S.1 a r pg true).1, S.2) m ∧ Ky Z w w' := by
  obtain ⟨Q0, hq0, M0, G0, l0⟩ := (Mq.start K).box 44 g0L
  obtain ⟨W0, hW0⟩ : ∃ W0, w.alloc (.cells g0L.toArray 44) = W0 := ⟨_, rfl⟩
  rw [hW0] at M0 G0
  have HM0 : Hid (Mq Z Q0 w W0 t c p h P S m) := M0
  have HG0 : Hid (Bb Q0 w W0 w.heap.size 44 g0L) := G0
  have CB : Hid (Calls _ _ _ _ _) := begin_ok M0.q O hN a hr1 hc hp h1 h8 ho
  have CR : Hid (∀ Q' W, Zq Q' W t c p h P S m → Calls Tryz.prog 27 #[.agg #[.pointer (some ⟨c, 0, none⟩), .pointer (some ⟨t, 0, none⟩), .int .i64 a, .int .i64 (r : Nat), .int .i64 (pg : Nat), .bool true], .int .i64 (o : Nat)] W fun e w' => e = .returned (.tuple #[.int .u64 0, .agg #[.int .u64 0, .int .u8 (lookS h S.1 a r pg true).2.2.2, .bool (lookS h S.1 a r pg true).2.2.1, .bool false, .bool false]]) ∧ Zq Q' w' t c p h P ((lookS h S.1 a r pg true).1, S.2) m ∧ Ky Q' W w') := fun Q' W KW => mreach_no KW O hN a hr hp true (o : Nat) hy
  generalize (lookS h S.1 a r pg true).2.2.2 = y at *
  generalize (lookS h S.1 a r pg true).2.2.1 = tl at *
  generalize (lookS h S.1 a r pg true).1 = s1 at *
  have hyn : (y == 0) = false := by simp [hy]
  simp only [g0L] at hW0
  clear K O M0 G0 l0 hq0 hc hr hr1 hp h1 h8 ho hy
  generalize ((r : Nat) : Int) = ri at *
  generalize ((pg * 256 + o : Nat) : Int) = vi at *
  generalize ((pg : Nat) : Int) = pi at *
  generalize ((o : Nat) : Int) = oi at *
  generalize ((z : Nat) : Int) = zi at *
  go_enter Tryz.func10, Tryz.ntmps10
  go_upto_region 1 with fail
  try rw [hW0]
  clear hW0
  go_wp2_with fail
  refine CB.out.mono ?_
  rintro e w1 ⟨rfl, hK1, hy1⟩
  obtain ⟨AA, HAA⟩ : ∃ AA : Array Value, Hid (AA = #[.pointer (some ⟨c, 0, none⟩), .pointer (some ⟨t, 0, none⟩), .int .i64 a, .int .i64 ri, .int .i64 pi, .bool false]) := ⟨_, rfl⟩
  obtain ⟨Q1, hq1, M1, A1, l1⟩ := (HM0.out.turn hK1 hy1).box 93 aL0
  have G1 := ((HG0.out.ky hy1).below l1).wide hq1
  have hne : w.heap.size < w1.heap.size := (HG0.out.ky hy1).bk.lt
  obtain ⟨tx, M2, A2, o2⟩ := M1.set A1 AA (by rw [HAA.out]; rfl)
  have G2 := o2 _ _ _ (by omega) G1
  have HTX : Hid _ := tx
  have A2 := A2.congr (show AA.toList = [.pointer (some ⟨c, 0, none⟩), .pointer (some ⟨t, 0, none⟩), .int .i64 a, .int .i64 ri, .int .i64 pi, .bool false] by rw [HAA.out])
  have HW2 : Hid (_ ∧ _ ∧ _) := (⟨M2, G2, A2⟩ : _ ∧ _ ∧ _)
  simp only [aL0] at HW2 HTX
  clear hK1 hy1 CB HM0 HG0 M1 A1 l1 G1 M2 A2 o2 G2 tx
  go_upto_region 4 with (refine wpList_store_mid rfl 93 (.tmp 16) (.tmp 29) rfl _ 0 AA rfl (congrArg Value.agg HAA.out.symm) HTX.out (by rw [HAA.out]; exact Tryz.sizeA) (by rw [HAA.out]; exact oneA _ _ _ _ _ _) ?_)
  clear HTX
  obtain ⟨W2, hW2⟩ : ∃ W2, (w1.alloc (.cells #[.pointer none, .pointer none, .int .i64 0, .int .i64 0, .int .i64 0, .bool false] 93)).setCells w1.heap.size 0 AA.toList = W2 := ⟨_, rfl⟩
  rw [hW2] at HW2 ⊢
  clear hW2
  have z5 := HW2.out.2.2.bk.cell 5
  have fz := HW2.out.2.2.bk.frozen 5
  simp only [List.getElem?_cons_zero, List.getElem?_cons_succ] at z5
  obtain ⟨M3, A3, o3⟩ := HW2.out.1.put HW2.out.2.2 5 (.bool true)
  have G3 := o3 _ _ _ (by omega) HW2.out.2.1
  simp only [List.set_cons_succ, List.set_cons_zero] at A3
  have HW3 : Hid (_ ∧ _ ∧ _) := (⟨M3, G3, A3⟩ : _ ∧ _ ∧ _)
  clear HW2 M3 A3 o3 G3
  go_upto_region 5 with fail
  clear z5 fz
  generalize W2.setCell ⟨w1.heap.size, 5, none⟩ (.bool true) = W3 at *
  have hla : (Instr.loadAt 93 (.pointer (some ⟨w1.heap.size, 0, none⟩))).run Tryz.prog W3 = _ := ld_ac HW3.out.2.2.bk
  have CR3 : Hid (Calls _ _ _ _ _) := CR.out _ W3 HW3.out.1.q
  clear CR
  go_wp2_with (refine wpList_load_wm rfl 93 (.tmp 16) rfl _ _ rfl hla ?_)
  refine CR3.out.mono ?_
  rintro e w4 ⟨rfl, hK4, hy4⟩
  obtain ⟨AG, HAG⟩ : ∃ AG : Array Value, Hid (AG = #[.int .u64 0, .int .u8 y, .bool tl, .bool false, .bool false]) := ⟨_, rfl⟩
  obtain ⟨Q4, hq4, M4, B4, l4⟩ := (HW3.out.1.turn hK4 hy4).box 44 g0L
  have G4 := ((HW3.out.2.1.ky hy4).below l4).wide hq4
  have hn4 : w.heap.size < w4.heap.size := (HW3.out.2.1.ky hy4).bk.lt
  obtain ⟨tx, M5, B5, o5⟩ := M4.set B4 AG (by rw [HAG.out]; rfl)
  have G5 := o5 _ _ _ (by omega) G4
  have HTX : Hid _ := tx
  have B5 := B5.congr (show AG.toList = [.int .u64 0, .int .u8 y, .bool tl, .bool false, .bool false] by rw [HAG.out])
  have HW5 : Hid (_ ∧ _ ∧ _) := (⟨M5, G5, B5⟩ : _ ∧ _ ∧ _)
  simp only [g0L] at HW5 HTX
  clear hK4 hy4 CR3 HW3 M4 B4 l4 G4 M5 B5 o5 G5 tx hla hq4
  go_upto_region 6 with (refine wpList_store_mid rfl 44 (.tmp 20) (.tmp 42) rfl _ 0 AG rfl (congrArg Value.agg HAG.out.symm) HTX.out (by rw [HAG.out]; exact Tryz.sizeG) (by rw [HAG.out]; exact oneG _ _ _ _ _) ?_)
  clear HTX
  generalize (w4.alloc (.cells #[.int .u64 0, .int .u8 0, .bool false, .bool false, .bool false] 44)).setCells w4.heap.size 0 AG.toList = W5 at *
  have k1 := HW5.out.2.2.bk.cell 1
  simp only [List.getElem?_cons_zero, List.getElem?_cons_succ] at k1
  have HW6 := HW5
  have HAH := HAG
  clear HW5 HAG
  generalize W5 = W6 at *
  generalize AG = AH at *
  go_upto_region 8 with fail
  clear k1
  have hlg : (Instr.loadAt 44 (.pointer (some ⟨w4.heap.size, 0, none⟩))).run Tryz.prog W6 = _ := ld_got HW6.out.2.2.bk
  obtain ⟨tx, M7, G7, o7⟩ := HW6.out.1.set HW6.out.2.1 AH (by rw [HAH.out]; rfl)
  have HTX : Hid _ := tx
  have HF : Hid _ := M7.fin
  have HR : Hid (C.Blk _ _ _ _) := G7.bk
  clear tx M7 G7 o7 HW6
  go_wp2_with (first
    | (refine wpList_load_wm rfl 44 (.tmp 20) rfl _ _ rfl hlg ?_)
    | (refine wpList_store_mid rfl 44 (.tmp 14) (.tmp 54) rfl _ 0 AH rfl (congrArg Value.agg HAH.out.symm) HTX.out (by rw [HAH.out]; exact Tryz.sizeG) (by rw [HAH.out]; exact oneG _ _ _ _ _) ?_))
  exact bodyPost_ret (v := .tuple #[.agg AH, .int .i64 0]) (res_gi rfl (by rw [HAH.out]; rfl) rfl rfl HR.out) rfl ⟨by rw [HAH.out], HF.out⟩
set_option maxHeartbeats 2000000 in
theorem mStore_ok (K : Zq Z w t c p h P S m) (O : Ok P (fun r => m r ≠ none) S) (hN : P.N * P.C ≤ h.n) (hn : h.n ≤ 4096) (a : Int) {r pg o z f : Nat} (hr : m r ≠ none) (hr1 : r < 9223372036854775808) (hc : chkE m a (r : Nat) = 0) (hp : pg < 1048576) (h1 : 1 ≤ z) (h8 : z ≤ 8) (ho : o + z ≤ 256) (hy : (lookS h S.1 a r pg true).2.2.2 = 0) (hf : (lookS h S.1 a r pg true).2.1.f = (f : Nat)) (hfn : f < h.n) (v : Int) (v0 : 0 ≤ v) (v1 : v < 18446744073709551616) :
    Calls Tryz.prog 10 #[.pointer (some ⟨c, 0, none⟩), .pointer (some ⟨t, 0, none⟩), .int .i64 a, .int .i64 (r : Nat), .int .u64 ((pg * 256 + o : Nat) : Int), .int .i64 (z : Nat), .int .u64 v] w fun e w' => e = .returned (.tuple #[.agg #[.int .u64 0, .int .u8 0, .bool (lookS h S.1 a r pg true).2.2.1, .bool (hA h (aheadS h S.1 a r pg true) (f * 256 + o)), .bool (hB h (aheadS h S.1 a r pg true) (f * 256 + o))], .int .i64 0]) ∧ Zq Z w' t c p h P ({ (tou h (aheadS h S.1 a r pg true) (f * 256 + o)) with m := F.lay (tou h (aheadS h S.1 a r pg true) (f * 256 + o)).m (f * 256 + o) z (F.byt v) }, S.2) m ∧ Ky Z w w' := by
  obtain ⟨Q0, hq0, M0, G0, l0⟩ := (Mq.start K).box 44 g0L
  obtain ⟨W0, hW0⟩ : ∃ W0, w.alloc (.cells g0L.toArray 44) = W0 := ⟨_, rfl⟩
  rw [hW0] at M0 G0
  have HM0 : Hid (Mq Z Q0 w W0 t c p h P S m) := M0
  have HG0 : Hid (Bb Q0 w W0 w.heap.size 44 g0L) := G0
  have CB : Hid (Calls _ _ _ _ _) := begin_ok M0.q O hN a hr1 hc hp h1 h8 ho
  have hpa : f * 256 + o + z ≤ h.n * 256 := by omega
  have CR : Hid (∀ Q' W, Zq Q' W t c p h P S m → Calls Tryz.prog 27 #[.agg #[.pointer (some ⟨c, 0, none⟩), .pointer (some ⟨t, 0, none⟩), .int .i64 a, .int .i64 (r : Nat), .int .i64 (pg : Nat), .bool true], .int .i64 (o : Nat)] W fun e w' => e = .returned (.tuple #[.int .u64 ((f * 256 + o : Nat) : Int), .agg #[.int .u64 0, .int .u8 0, .bool (lookS h S.1 a r pg true).2.2.1, .bool (hA h (aheadS h S.1 a r pg true) (f * 256 + o)), .bool (hB h (aheadS h S.1 a r pg true) (f * 256 + o))]]) ∧ Zq Q' w' t c p h P ((tou h (aheadS h S.1 a r pg true) (f * 256 + o)), S.2) m ∧ Ky Q' W w') := fun Q' W KW => mreach_ok KW O hN hn a hr hp true hy hf hfn (by omega)
  generalize (lookS h S.1 a r pg true).2.2.1 = tl at *
  generalize hA h (aheadS h S.1 a r pg true) (f * 256 + o) = ha at *
  generalize hB h (aheadS h S.1 a r pg true) (f * 256 + o) = hb at *
  generalize (tou h (aheadS h S.1 a r pg true) (f * 256 + o)) = s1 at *
  generalize f * 256 + o = pa at *
  have CF : Hid (∀ Q' W pm, Zq Q' W t c p h P (s1, S.2) m → W.cell? ⟨c, 0, none⟩ = some (.pointer (some ⟨pm, 0, none⟩)) → Calls Tryz.prog 28 #[.pointer (some ⟨pm, 0, none⟩), .int .u64 (pa : Nat), .int .i64 (z : Nat), .int .u64 v] W fun e w' => e = .returned (.int .i64 0) ∧ Zq Q' w' t c p h P ({ s1 with m := F.lay s1.m pa z (F.byt v) }, S.2) m ∧ Ky Q' W w') := fun Q' W pm KW hc => store_q KW hc pa z v h1 h8 hpa v0 v1
  simp only [g0L] at hW0
  clear K O M0 G0 l0 hq0 hc hr hr1 hp h1 h8 ho hy v0 v1 hf hfn hpa
  generalize ((r : Nat) : Int) = ri at *
  generalize ((pg * 256 + o : Nat) : Int) = vi at *
  generalize ((pg : Nat) : Int) = pi at *
  generalize ((o : Nat) : Int) = oi at *
  generalize ((z : Nat) : Int) = zi at *
  go_enter Tryz.func10, Tryz.ntmps10
  go_upto_region 1 with fail
  try rw [hW0]
  clear hW0
  go_wp2_with fail
  refine CB.out.mono ?_
  rintro e w1 ⟨rfl, hK1, hy1⟩
  obtain ⟨AA, HAA⟩ : ∃ AA : Array Value, Hid (AA = #[.pointer (some ⟨c, 0, none⟩), .pointer (some ⟨t, 0, none⟩), .int .i64 a, .int .i64 ri, .int .i64 pi, .bool false]) := ⟨_, rfl⟩
  obtain ⟨Q1, hq1, M1, A1, l1⟩ := (HM0.out.turn hK1 hy1).box 93 aL0
  have G1 := ((HG0.out.ky hy1).below l1).wide hq1
  have hne : w.heap.size < w1.heap.size := (HG0.out.ky hy1).bk.lt
  obtain ⟨tx, M2, A2, o2⟩ := M1.set A1 AA (by rw [HAA.out]; rfl)
  have G2 := o2 _ _ _ (by omega) G1
  have HTX : Hid _ := tx
  have A2 := A2.congr (show AA.toList = [.pointer (some ⟨c, 0, none⟩), .pointer (some ⟨t, 0, none⟩), .int .i64 a, .int .i64 ri, .int .i64 pi, .bool false] by rw [HAA.out])
  have HW2 : Hid (_ ∧ _ ∧ _) := (⟨M2, G2, A2⟩ : _ ∧ _ ∧ _)
  simp only [aL0] at HW2 HTX
  clear hK1 hy1 CB HM0 HG0 M1 A1 l1 G1 M2 A2 o2 G2 tx
  go_upto_region 4 with (refine wpList_store_mid rfl 93 (.tmp 16) (.tmp 29) rfl _ 0 AA rfl (congrArg Value.agg HAA.out.symm) HTX.out (by rw [HAA.out]; exact Tryz.sizeA) (by rw [HAA.out]; exact oneA _ _ _ _ _ _) ?_)
  clear HTX
  obtain ⟨W2, hW2⟩ : ∃ W2, (w1.alloc (.cells #[.pointer none, .pointer none, .int .i64 0, .int .i64 0, .int .i64 0, .bool false] 93)).setCells w1.heap.size 0 AA.toList = W2 := ⟨_, rfl⟩
  rw [hW2] at HW2 ⊢
  clear hW2
  have z5 := HW2.out.2.2.bk.cell 5
  have fz := HW2.out.2.2.bk.frozen 5
  simp only [List.getElem?_cons_zero, List.getElem?_cons_succ] at z5
  obtain ⟨M3, A3, o3⟩ := HW2.out.1.put HW2.out.2.2 5 (.bool true)
  have G3 := o3 _ _ _ (by omega) HW2.out.2.1
  simp only [List.set_cons_succ, List.set_cons_zero] at A3
  have HW3 : Hid (_ ∧ _ ∧ _) := (⟨M3, G3, A3⟩ : _ ∧ _ ∧ _)
  clear HW2 M3 A3 o3 G3
  go_upto_region 5 with fail
  clear z5 fz
  generalize W2.setCell ⟨w1.heap.size, 5, none⟩ (.bool true) = W3 at *
  have hla : (Instr.loadAt 93 (.pointer (some ⟨w1.heap.size, 0, none⟩))).run Tryz.prog W3 = _ := ld_ac HW3.out.2.2.bk
  have CR3 : Hid (Calls _ _ _ _ _) := CR.out _ W3 HW3.out.1.q
  clear CR
  go_wp2_with (refine wpList_load_wm rfl 93 (.tmp 16) rfl _ _ rfl hla ?_)
  refine CR3.out.mono ?_
  rintro e w4 ⟨rfl, hK4, hy4⟩
  obtain ⟨AG, HAG⟩ : ∃ AG : Array Value, Hid (AG = #[.int .u64 0, .int .u8 0, .bool tl, .bool ha, .bool hb]) := ⟨_, rfl⟩
  obtain ⟨Q4, hq4, M4, B4, l4⟩ := (HW3.out.1.turn hK4 hy4).box 44 g0L
  have G4 := ((HW3.out.2.1.ky hy4).below l4).wide hq4
  have hn4 : w.heap.size < w4.heap.size := (HW3.out.2.1.ky hy4).bk.lt
  obtain ⟨tx, M5, B5, o5⟩ := M4.set B4 AG (by rw [HAG.out]; rfl)
  have G5 := o5 _ _ _ (by omega) G4
  have HTX : Hid _ := tx
  have B5 := B5.congr (show AG.toList = [.int .u64 0, .int .u8 0, .bool tl, .bool ha, .bool hb] by rw [HAG.out])
  have HW5 : Hid (_ ∧ _ ∧ _) := (⟨M5, G5, B5⟩ : _ ∧ _ ∧ _)
  simp only [g0L] at HW5 HTX
  clear hK4 hy4 CR3 HW3 M4 B4 l4 G4 M5 B5 o5 G5 tx hla hq4
  go_upto_region 6 with (refine wpList_store_mid rfl 44 (.tmp 20) (.tmp 42) rfl _ 0 AG rfl (congrArg Value.agg HAG.out.symm) HTX.out (by rw [HAG.out]; exact Tryz.sizeG) (by rw [HAG.out]; exact oneG _ _ _ _ _) ?_)
  clear HTX
  generalize (w4.alloc (.cells #[.int .u64 0, .int .u8 0, .bool false, .bool false, .bool false] 44)).setCells w4.heap.size 0 AG.toList = W5 at *
  have k1 := HW5.out.2.2.bk.cell 1
  simp only [List.getElem?_cons_zero, List.getElem?_cons_succ] at k1
  obtain ⟨pm, hpm⟩ := HW5.out.1.q.pm
  have CF5 : Hid (Calls _ _ _ _ _) := CF.out _ W5 pm HW5.out.1.q hpm
  clear CF
  go_wp2_with fail
  refine CF5.out.mono ?_
  rintro e w6 ⟨rfl, hK6, hy6⟩
  have HW6 : Hid (_ ∧ _ ∧ _) := (⟨HW5.out.1.turn hK6 hy6, HW5.out.2.1.ky hy6, HW5.out.2.2.ky hy6⟩ : _ ∧ _ ∧ _)
  clear hK6 hy6 HW5 CF5 hpm k1
  have HAH := HAG
  clear HAG
  generalize w6 = W6 at *
  generalize AG = AH at *
  have hlg : (Instr.loadAt 44 (.pointer (some ⟨w4.heap.size, 0, none⟩))).run Tryz.prog W6 = _ := ld_got HW6.out.2.2.bk
  obtain ⟨tx, M7, G7, o7⟩ := HW6.out.1.set HW6.out.2.1 AH (by rw [HAH.out]; rfl)
  have HTX : Hid _ := tx
  have HF : Hid _ := M7.fin
  have HR : Hid (C.Blk _ _ _ _) := G7.bk
  clear tx M7 G7 o7 HW6
  go_wp2_with (first
    | (refine wpList_load_wm rfl 44 (.tmp 20) rfl _ _ rfl hlg ?_)
    | (refine wpList_store_mid rfl 44 (.tmp 14) (.tmp 54) rfl _ 0 AH rfl (congrArg Value.agg HAH.out.symm) HTX.out (by rw [HAH.out]; exact Tryz.sizeG) (by rw [HAH.out]; exact oneG _ _ _ _ _) ?_))
  exact bodyPost_ret (v := .tuple #[.agg AH, .int .i64 0]) (res_gi rfl (by rw [HAH.out]; rfl) rfl rfl HR.out) rfl ⟨by rw [HAH.out], HF.out⟩
end
end Go.Proofs.YtgljdbabagdhlaaGreat.Pg
namespace Go.Proofs.YtgljdbabagdhlaaGreat.Pg
open P E Go.ChangeShapes Go.WideShapes Go.ChangeAt Go.RowKit
set_option linter.unusedVariables false
set_option linter.unusedSimpArgs false
set_option maxRecDepth 100000
theorem stl_at {P : Program} {w : World} {ops : Array Oper} {o : Oper} {a : Act} {K : Act → World → Prop} {Q : Exit → Act → World → Prop} {E : Prop} (hgd : o.guard = none) (t : TypeId) (x : Operand)
    (ho : o.op = .load t x) (u v : Value) (hx : a.eval x = u) (hrun : (Instr.loadAt t u).run P w = .ok v w) (h : K (a.put o.dst v) w) : if Region.wanted o (yielded ops a.tmps) = true then Oper.wp P o a w K Q else E := by
  have hw : Region.wanted o (yielded ops a.tmps) = true := by simp [Region.wanted, hgd]
  rw [if_pos hw]
  unfold Oper.wp
  simp [execOp, ho, hx, hrun, Result.andThen]
  exact h
theorem sts_at {P : Program} {w w' : World} {ops : Array Oper} {o : Oper} {a : Act} {K : Act → World → Prop} {Q : Exit → Act → World → Prop} {E : Prop} (hgd : o.guard = none) (t : TypeId) (x y : Operand)
    (ho : o.op = .store t x y) (u v : Value) (hx : a.eval x = u) (hy : a.eval y = v) (hrun : (Instr.storeAt t u v).run P w = .ok () w') (h : K (a.put o.dst undef) w') : if Region.wanted o (yielded ops a.tmps) = true then Oper.wp P o a w K Q else E := by
  have hw : Region.wanted o (yielded ops a.tmps) = true := by simp [Region.wanted, hgd]
  rw [if_pos hw]
  unfold Oper.wp
  simp [execOp, ho, hx, hy, hrun, Result.andThen]
  exact h
theorem res_tgi {fn : Func} {p q z : Tmp} (h : fn.results = #[.cell p 67, .cell q 44, .tmp z]) {tmps : Array Value} {w : World} {r s : Nat} {v : Value} {A B : Array Value} (hA : A.size = 6) (hB : B.size = 5) (hp : tmps.getD p undef = .pointer (some ⟨r, 0, none⟩)) (hq : tmps.getD q undef = .pointer (some ⟨s, 0, none⟩)) (hz : tmps.getD z undef = v) (hb : C.Blk w r 67 A.toList) (hc : C.Blk w s 44 B.toList) :
    (results fn tmps).run Tryz.prog w = .ok (.tuple #[.agg A, .agg B, v]) w := by
  have hl : (loadVar 67 ⟨r, 0, none⟩).run Tryz.prog w = .ok (.agg A) w := run_loadVar_row w r 67 67 A (0, 0) _ hb Tryz.underlying67 rfl (by rw [hA]; exact Tryz.sizeT)
  have hl2 : (loadVar 44 ⟨s, 0, none⟩).run Tryz.prog w = .ok (.agg B) w := run_loadVar_row w s 44 44 B (0, 0) _ hc Tryz.underlying44 rfl (by rw [hB]; exact Tryz.sizeG)
  simp only [results, h]
  simp only [Array.getD_eq_getD_getElem?] at hp hq hz
  simp [Result.andThen, hp, hq, hz, asAddr, hl, hl2]
theorem lda_tr {W : World} {b : Nat} {A : Array Value} (hA : A.size = 6) (h : C.Blk W b 67 A.toList) : (Instr.loadAt 67 (.pointer (some ⟨b, 0, none⟩))).run Tryz.prog W = .ok (.agg A) W := by
  have hl := run_loadVar_row W b 67 67 A (0, 0) _ h Tryz.underlying67 rfl (by rw [hA]; exact Tryz.sizeT)
  simp only [Instr.loadAt, Instr.sureAddr, Sem.run_bind, Sem.run_pure, Result.andThen_ok]
  exact hl
theorem lda_gt {W : World} {b : Nat} {A : Array Value} (hA : A.size = 5) (h : C.Blk W b 44 A.toList) : (Instr.loadAt 44 (.pointer (some ⟨b, 0, none⟩))).run Tryz.prog W = .ok (.agg A) W := by
  have hl := run_loadVar_row W b 44 44 A (0, 0) _ h Tryz.underlying44 rfl (by rw [hA]; exact Tryz.sizeG)
  simp only [Instr.loadAt, Instr.sureAddr, Sem.run_bind, Sem.run_pure, Result.andThen_ok]
  exact hl
structure Lkk (Z Q : Nat → Prop) (w W : World) (t c p : Nat) (h : Hw) (P : Par) (S : E.Sc × Us) (m : Nat → Option Nat) (n : Nat) (AT AG : Array Value) (X Y : List Value) : Prop where
  M : Mq Z Q w W t c p h P S m
  T : Bb Q w W w.heap.size 67 X
  G : Bb Q w W (w.heap.size + 1) 44 Y
  B : Bb Q w W n 67 AT.toList
  C : Bb Q w W (n + 1) 44 AG.toList
  ne : w.heap.size + 1 < n
  sT : AT.size = 6
  sG : AG.size = 5
  oT : AT.all (·.oneCell') = true
  oG : AG.all (·.oneCell') = true
section
variable {Z Q : Nat → Prop} {w W : World} {t c p n : Nat} {h : Hw} {P : Par} {S : E.Sc × Us} {m : Nat → Option Nat} {AT AG : Array Value} {X Y : List Value}
theorem Lkk.ldT (L : Lkk Z Q w W t c p h P S m n AT AG X Y) : (Instr.loadAt 67 (.pointer (some ⟨n, 0, none⟩))).run Tryz.prog W = .ok (.agg AT) W := lda_tr L.sT L.B.bk
theorem Lkk.ldG (L : Lkk Z Q w W t c p h P S m n AT AG X Y) : (Instr.loadAt 44 (.pointer (some ⟨n + 1, 0, none⟩))).run Tryz.prog W = .ok (.agg AG) W := lda_gt L.sG L.C.bk
theorem Lkk.stT (L : Lkk Z Q w W t c p h P S m n AT AG X Y) (hX : X.length = 6) : (Instr.storeAt 67 (.pointer (some ⟨w.heap.size, 0, none⟩)) (.agg AT)).run Tryz.prog W = .ok () (W.setCells w.heap.size 0 AT.toList) ∧ Lkk Z Q w (W.setCells w.heap.size 0 AT.toList) t c p h P S m n AT AG AT.toList Y := by
  obtain ⟨tx, M1, T1, o⟩ := L.M.set L.T AT (by rw [L.sT, hX])
  have := L.ne
  exact ⟨run_storeAt_mid W w.heap.size 0 67 AT tx (by rw [L.sT]; exact Tryz.sizeT) L.oT, M1, T1, o _ _ _ (by omega) L.G, o _ _ _ (by omega) L.B, o _ _ _ (by omega) L.C, L.ne, L.sT, L.sG, L.oT, L.oG⟩
theorem Lkk.stG (L : Lkk Z Q w W t c p h P S m n AT AG X Y) (hY : Y.length = 5) : (Instr.storeAt 44 (.pointer (some ⟨w.heap.size + 1, 0, none⟩)) (.agg AG)).run Tryz.prog W = .ok () (W.setCells (w.heap.size + 1) 0 AG.toList) ∧ Lkk Z Q w (W.setCells (w.heap.size + 1) 0 AG.toList) t c p h P S m n AT AG X AG.toList := by
  obtain ⟨tx, M1, T1, o⟩ := L.M.set L.G AG (by rw [L.sG, hY])
  have := L.ne
  exact ⟨run_storeAt_mid W (w.heap.size + 1) 0 44 AG tx (by rw [L.sG]; exact Tryz.sizeG) L.oG, M1, o _ _ _ (by omega) L.T, T1, o _ _ _ (by omega) L.B, o _ _ _ (by omega) L.C, L.ne, L.sT, L.sG, L.oT, L.oG⟩
end
section
variable {Z : Nat → Prop} {w : World} {t c p : Nat} {h : Hw} {P : Par} {S : E.Sc × Us} {m : Nat → Option Nat}
set_option maxHeartbeats 2000000 in
theorem mLook_ok (K : Zq Z w t c p h P S m) (O : Ok P (fun r => m r ≠ none) S) (hN : P.N * P.C ≤ h.n) (a : Int) {r pg : Nat} (hr : m r ≠ none) (hr1 : r < 9223372036854775808) (hc : chkE m a (r : Nat) = 0) (hp : pg < 1048576) (wr : Bool) :
    Calls Tryz.prog 16 #[.pointer (some ⟨c, 0, none⟩), .pointer (some ⟨t, 0, none⟩), .int .i64 a, .int .i64 (r : Nat), .int .i64 (pg : Nat), .bool wr] w fun e w' => e = .returned (.tuple #[.agg #[.int .i64 (lookS h S.1 a r pg wr).2.1.a, .int .i64 (lookS h S.1 a r pg wr).2.1.p, .int .i64 (lookS h S.1 a r pg wr).2.1.f, .bool (lookS h S.1 a r pg wr).2.1.r, .bool (lookS h S.1 a r pg wr).2.1.w, .bool (lookS h S.1 a r pg wr).2.1.d], .agg #[.int .u64 0, .int .u8 (lookS h S.1 a r pg wr).2.2.2, .bool (lookS h S.1 a r pg wr).2.2.1, .bool false, .bool false], .int .i64 0]) ∧ Zq Z w' t c p h P ((lookS h S.1 a r pg wr).1, S.2) m ∧ Ky Z w w' := by
  obtain ⟨Q, M0, BT, BG⟩ := Mq.box2 K t0L g0L 67 44
  obtain ⟨W0, hW0⟩ : ∃ W0, ((w.alloc (.cells t0L.toArray 67)).alloc (.cells g0L.toArray 44)) = W0 := ⟨_, rfl⟩
  rw [hW0] at M0 BT BG
  have HM0 : Hid (Mq Z Q w W0 t c p h P S m) := M0
  have HBB : Hid (Bb Q w W0 w.heap.size 67 t0L ∧ Bb Q w W0 (w.heap.size + 1) 44 g0L) := ⟨BT, BG⟩
  have CC := check_q M0.q O hN a (r : Nat) (by omega) (by omega)
  rw [hc] at CC
  have CC : Hid (Calls _ _ _ _ _) := CC
  have CJ : Hid (∀ W, Calls Tryz.prog 38 #[.int .i64 (pg : Nat), .int .i64 0] W fun e w' => e = .returned (.tuple #[.int .u64 ((pg : Int) * 256 + 0), .int .i64 0]) ∧ w' = W) := fun W => A.Join_ok (pg : Nat) 0 (by omega) (by omega) (by decide) (by decide) W
  have CL : Hid (∀ Q' W, Zq Q' W t c p h P S m → Calls Tryz.prog 39 _ W _) := fun Q' W KW => mlook_q KW O hN a hr hp wr
  obtain ⟨s1, x1, x2, x3, x4, x5, x6, tl, y, hlk⟩ : ∃ s1 x1 x2 x3 x4 x5 x6 tl y, lookS h S.1 a r pg wr = (s1, ⟨x1, x2, x3, x4, x5, x6⟩, tl, y) := ⟨_, _, _, _, _, _, _, _, _, rfl⟩
  simp only [hlk] at CL ⊢
  simp only [t0L, g0L] at hW0
  clear K O M0 BT BG hc hr hr1 hp hlk
  generalize ((r : Nat) : Int) = ri at *
  generalize ((pg : Nat) : Int) = pi at *
  go_enter Tryz.func16, Tryz.ntmps16
  go_upto_region 1 with fail
  try rw [hW0]
  clear hW0
  go_wp2_with fail
  refine CC.out.mono ?_
  rintro e w1 ⟨rfl, hK1, hy1⟩
  have HM1 : Hid (Mq Z Q w w1 t c p h P S m) := HM0.out.turn hK1 hy1
  have H1 : Hid (Bb Q w w1 w.heap.size 67 t0L ∧ Bb Q w w1 (w.heap.size + 1) 44 g0L) := ⟨HBB.out.1.ky hy1, HBB.out.2.ky hy1⟩
  have CL1 : Hid (Calls _ _ _ _ _) := CL.out Q w1 HM1.out.q
  clear hK1 hy1 CC HM0 HBB CL
  go_upto_region 5 with (go_at_call 38; refine (CJ.out _).mono ?_; rintro e w' ⟨rfl, hw'⟩; subst hw')
  go_wp2_with fail
  refine CL1.out.mono ?_
  rintro e w2 ⟨rfl, hK1, hy1⟩
  obtain ⟨Q1, hq1, M1, B6, l1⟩ := (HM1.out.turn hK1 hy1).box 67 t0L
  obtain ⟨Q2, hq2, M2, B7, l2⟩ := M1.box 44 g0L
  have T2 := (((H1.out.1.ky hy1).below l1).wide hq1 |>.below l2).wide hq2
  have G2 := (((H1.out.2.ky hy1).below l1).wide hq1 |>.below l2).wide hq2
  have B6' := (B6.below l2).wide hq2
  have e1 : (w2.alloc (.cells (t0L : List Value).toArray 67)).heap.size = w2.heap.size + 1 := by simp
  rw [e1] at B7
  have hne : w.heap.size + 1 < w2.heap.size := (H1.out.2.ky hy1).bk.lt
  obtain ⟨W2, hW2⟩ : ∃ W2, (w2.alloc (.cells (t0L : List Value).toArray 67)).alloc (.cells (g0L : List Value).toArray 44) = W2 := ⟨_, rfl⟩
  rw [hW2] at M2 B7 T2 G2 B6'
  simp only [t0L, g0L] at hW2
  obtain ⟨AT, HAT⟩ : ∃ AT : Array Value, Hid (AT = #[.int .i64 x1, .int .i64 x2, .int .i64 x3, .bool x4, .bool x5, .bool x6]) := ⟨_, rfl⟩
  obtain ⟨AG, HAG⟩ : ∃ AG : Array Value, Hid (AG = #[.int .u64 0, .int .u8 y, .bool tl, .bool false, .bool false]) := ⟨_, rfl⟩
  have sT : AT.size = 6 := by rw [HAT.out]; rfl
  have sG : AG.size = 5 := by rw [HAG.out]; rfl
  have oT : AT.all (·.oneCell') = true := by rw [HAT.out]; exact oneT ⟨x1, x2, x3, x4, x5, x6⟩
  have oG : AG.all (·.oneCell') = true := by rw [HAG.out]; exact oneG _ _ _ _ _
  obtain ⟨tx, M3, B3, o3⟩ := M2.set B6' AT (by rw [sT]; rfl)
  have T3 := o3 _ _ _ (by omega) T2
  have G3 := o3 _ _ _ (by omega) G2
  have C3 := o3 _ _ _ (by omega) B7
  obtain ⟨tg, M4, C4, o4⟩ := M3.set C3 AG (by rw [sG]; rfl)
  have T4 := o4 _ _ _ (by omega) T3
  have G4 := o4 _ _ _ (by omega) G3
  have B4 := o4 _ _ _ (by omega) B3
  have HTX : Hid _ := tx
  have HTG : Hid _ := tg
  have H4 : Hid (_ ∧ _ ∧ _ ∧ _ ∧ _) := (⟨M4, T4, G4, B4, C4⟩ : _ ∧ _ ∧ _ ∧ _ ∧ _)
  clear hK1 hy1 l1 l2 M1 M2 T2 G2 B6 B6' B7 CL1 HM1 H1 e1 M3 B3 T3 G3 C3 o3 M4 C4 T4 G4 B4 o4 tx tg CJ
  go_upto_region 8 with (first
    | (refine wpList_store_mid rfl 67 (.tmp 18) (.tmp 49) rfl _ 0 AT rfl (congrArg Value.agg HAT.out.symm) HTX.out (by rw [sT]; exact Tryz.sizeT) oT ?_)
    | (refine wpList_store_mid rfl 44 (.tmp 19) (.tmp 50) rfl _ 0 AG rfl (congrArg Value.agg HAG.out.symm) HTG.out (by rw [sG]; exact Tryz.sizeG) oG ?_))
  clear hW2 HTX HTG
  generalize (W2.setCells w2.heap.size 0 AT.toList).setCells (w2.heap.size + 1) 0 AG.toList = W4 at *
  have L0 : Hid (Lkk _ _ _ _ _ _ _ _ _ _ _ _ _ _ _ _) := (⟨H4.out.1.below (Below.refl _ _).drew, H4.out.2.1.below (Below.refl _ _).drew, H4.out.2.2.1.below (Below.refl _ _).drew, H4.out.2.2.2.1.below (Below.refl _ _).drew, H4.out.2.2.2.2.below (Below.refl _ _).drew, hne, sT, sG, oT, oG⟩ : Lkk Z Q2 w W4.drew t c p h P (s1, S.2) m w2.heap.size AT AG t0L g0L)
  clear H4
  refine wp_region_any (by kernel_rfl) ?_
  change wpAny _ _ _ _ _ _ _ (World.drew _)
  refine wpAny_ready (rs := [0, 1]) (by kernel_rfl) (by simp) ?_
  refine (AllReady.cons rfl (fun KK hK => ?_) (AllReady.cons rfl (fun KK hK => ?_) AllReady.nil))
  · refine stl_at rfl 67 (.tmp 18) rfl _ _ rfl L0.out.ldT (hK _ _ ?_)
    clear hK KK
    refine wpAny_ready (rs := [1, 2]) (by kernel_rfl) (by simp) ?_
    refine (AllReady.cons rfl (fun KK hK => ?_) (AllReady.cons rfl (fun KK hK => ?_) AllReady.nil))
    · refine stl_at rfl 44 (.tmp 19) rfl _ _ rfl L0.out.ldG (hK _ _ ?_)
      clear hK KK
      refine wpAny_ready (rs := [2]) (by kernel_rfl) (by simp) ?_
      refine (AllReady.cons rfl (fun KK hK => ?_) AllReady.nil)
      obtain ⟨eL1, kL1⟩ := L0.out.stT rfl
      refine sts_at rfl 67 (.tmp 12) (.tmp 51) rfl _ _ rfl rfl eL1 (hK _ _ ?_)
      have L1 : Hid (Lkk _ _ _ _ _ _ _ _ _ _ _ _ _ _ _ _) := kL1
      clear eL1 kL1
      clear hK KK
      refine wpAny_ready (rs := [3]) (by kernel_rfl) (by simp) ?_
      refine (AllReady.cons rfl (fun KK hK => ?_) AllReady.nil)
      obtain ⟨eL2, kL2⟩ := L1.out.stG rfl
      refine sts_at rfl 44 (.tmp 13) (.tmp 52) rfl _ _ rfl rfl eL2 (hK _ _ ?_)
      have L2 : Hid (Lkk _ _ _ _ _ _ _ _ _ _ _ _ _ _ _ _) := kL2
      clear eL2 kL2
      clear hK KK
      refine wpAny_ready (rs := [4]) (by kernel_rfl) (by simp) ?_
      refine (AllReady.cons rfl (fun KK hK => ?_) AllReady.nil)
      go_simp
      refine hK _ _ ?_
      clear hK KK
      refine wpAny_done (by kernel_rfl) ?_ _
      go_wp2_with fail
      exact bodyPost_ret (v := .tuple #[.agg AT, .agg AG, .int .i64 0]) (res_tgi rfl L2.out.sT L2.out.sG rfl rfl rfl L2.out.T.bk L2.out.G.bk) rfl ⟨by rw [HAT.out, HAG.out], L2.out.M.fin⟩
    · obtain ⟨eL3, kL3⟩ := L0.out.stT rfl
      refine sts_at rfl 67 (.tmp 12) (.tmp 51) rfl _ _ rfl rfl eL3 (hK _ _ ?_)
      have L3 : Hid (Lkk _ _ _ _ _ _ _ _ _ _ _ _ _ _ _ _) := kL3
      clear eL3 kL3
      clear hK KK
      refine wpAny_ready (rs := [1]) (by kernel_rfl) (by simp) ?_
      refine (AllReady.cons rfl (fun KK hK => ?_) AllReady.nil)
      refine stl_at rfl 44 (.tmp 19) rfl _ _ rfl L3.out.ldG (hK _ _ ?_)
      clear hK KK
      refine wpAny_ready (rs := [3]) (by kernel_rfl) (by simp) ?_
      refine (AllReady.cons rfl (fun KK hK => ?_) AllReady.nil)
      obtain ⟨eL4, kL4⟩ := L3.out.stG rfl
      refine sts_at rfl 44 (.tmp 13) (.tmp 52) rfl _ _ rfl rfl eL4 (hK _ _ ?_)
      have L4 : Hid (Lkk _ _ _ _ _ _ _ _ _ _ _ _ _ _ _ _) := kL4
      clear eL4 kL4
      clear hK KK
      refine wpAny_ready (rs := [4]) (by kernel_rfl) (by simp) ?_
      refine (AllReady.cons rfl (fun KK hK => ?_) AllReady.nil)
      go_simp
      refine hK _ _ ?_
      clear hK KK
      refine wpAny_done (by kernel_rfl) ?_ _
      go_wp2_with fail
      exact bodyPost_ret (v := .tuple #[.agg AT, .agg AG, .int .i64 0]) (res_tgi rfl L4.out.sT L4.out.sG rfl rfl rfl L4.out.T.bk L4.out.G.bk) rfl ⟨by rw [HAT.out, HAG.out], L4.out.M.fin⟩
  · refine stl_at rfl 44 (.tmp 19) rfl _ _ rfl L0.out.ldG (hK _ _ ?_)
    clear hK KK
    refine wpAny_ready (rs := [0]) (by kernel_rfl) (by simp) ?_
    refine (AllReady.cons rfl (fun KK hK => ?_) AllReady.nil)
    refine stl_at rfl 67 (.tmp 18) rfl _ _ rfl L0.out.ldT (hK _ _ ?_)
    clear hK KK
    refine wpAny_ready (rs := [2]) (by kernel_rfl) (by simp) ?_
    refine (AllReady.cons rfl (fun KK hK => ?_) AllReady.nil)
    obtain ⟨eL5, kL5⟩ := L0.out.stT rfl
    refine sts_at rfl 67 (.tmp 12) (.tmp 51) rfl _ _ rfl rfl eL5 (hK _ _ ?_)
    have L5 : Hid (Lkk _ _ _ _ _ _ _ _ _ _ _ _ _ _ _ _) := kL5
    clear eL5 kL5
    clear hK KK
    refine wpAny_ready (rs := [3]) (by kernel_rfl) (by simp) ?_
    refine (AllReady.cons rfl (fun KK hK => ?_) AllReady.nil)
    obtain ⟨eL6, kL6⟩ := L5.out.stG rfl
    refine sts_at rfl 44 (.tmp 13) (.tmp 52) rfl _ _ rfl rfl eL6 (hK _ _ ?_)
    have L6 : Hid (Lkk _ _ _ _ _ _ _ _ _ _ _ _ _ _ _ _) := kL6
    clear eL6 kL6
    clear hK KK
    refine wpAny_ready (rs := [4]) (by kernel_rfl) (by simp) ?_
    refine (AllReady.cons rfl (fun KK hK => ?_) AllReady.nil)
    go_simp
    refine hK _ _ ?_
    clear hK KK
    refine wpAny_done (by kernel_rfl) ?_ _
    go_wp2_with fail
    exact bodyPost_ret (v := .tuple #[.agg AT, .agg AG, .int .i64 0]) (res_tgi rfl L6.out.sT L6.out.sG rfl rfl rfl L6.out.T.bk L6.out.G.bk) rfl ⟨by rw [HAT.out, HAG.out], L6.out.M.fin⟩
end
end Go.Proofs.YtgljdbabagdhlaaGreat.Pg
