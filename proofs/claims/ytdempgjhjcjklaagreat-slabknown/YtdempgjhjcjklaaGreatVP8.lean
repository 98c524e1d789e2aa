/- What plan's functions of the turns, the pad and the slice give back; no condition but those named. -/
import Derived.Test.YtdempgjhjcjklaaGreatVP7
namespace Go.Proofs.YtdempgjhjcjklaaGreat
open Go.ChangeShapes Go.WideShapes Go.ChangeAt Go.RowKit
set_option linter.unusedVariables false

theorem turnsWrong_any {w : World} {a : Ad} {c : Cf} (hc : Cin w a c) : Calls Tryz.prog 137 #[.agg #[.int .i64 c.F, .int .i64 c.C, .int .i64 c.W, .int .i64 c.S, .int .i64 c.V, .int .i64 c.T, .int .u64 c.k.l1, .int .u64 c.k.llc, .int .u64 c.k.mi, .int .u64 c.k.fa, .int .u64 c.k.st, .int .u64 c.k.di, .int .u64 c.sl, .int .u64 c.pd, .int .u64 c.ft, .slice a.ta c.tn a.tc, .slice a.pa c.pn a.pc]] w (One (.int .i64 (un (tOk c) 112)) w) := by
  have HB0 := cb_new hc
  have htl := hc.tl
  have HT : Hid (tOk c = (inB c.tn 1 64 && allT c c.tn)) := rfl
  have IP : Hid (∀ p w', Calls Tryz.prog 95 #[.agg #[.int .i64 c.F, .int .i64 c.C, .int .i64 c.W, .int .i64 c.S, .int .i64 c.V, .int .i64 c.T, .int .u64 c.k.l1, .int .u64 c.k.llc, .int .u64 c.k.mi, .int .u64 c.k.fa, .int .u64 c.k.st, .int .u64 c.k.di, .int .u64 c.sl, .int .u64 c.pd, .int .u64 c.ft, .slice a.ta c.tn a.tc, .slice a.pa c.pn a.pc], .int .i64 p] w' (One (.bool (decide (0 ≤ p) && decide (p < (c.pn : Int)))) w')) := fun p w' => isPart_any p
  clear hc
  cases h1 : inB c.tn 1 64
  · have h0 : Hid (tOk c = false) := by unfold Hid; rw [HT.out, h1]; rfl
    go_enter Tryz.func137, Tryz.ntmps137
    go_wp2_with (go_at_call 157; refine (from_any _ _ _ _).mono ?_; rintro e w' ⟨rfl, rfl⟩)
    go_ret
    exact ⟨ret_int (by rw [h0.out]; rfl), HB0.be⟩
  have HT2 : Hid (tOk c = allT c c.tn) := by unfold Hid; rw [HT.out, h1]; rfl
  clear HT
  go_enter Tryz.func137, Tryz.ntmps137
  go_wp2_with (go_at_call 157; refine (from_any _ _ _ _).mono ?_; rintro e w' ⟨rfl, rfl⟩)
  obtain ⟨W, hW, HB⟩ : ∃ W, (w.alloc (.cells #[.int .i64 c.F, .int .i64 c.C, .int .i64 c.W, .int .i64 c.S, .int .i64 c.V, .int .i64 c.T, .int .u64 c.k.l1, .int .u64 c.k.llc, .int .u64 c.k.mi, .int .u64 c.k.fa, .int .u64 c.k.st, .int .u64 c.k.di, .int .u64 c.sl, .int .u64 c.pd, .int .u64 c.ft, .slice a.ta c.tn a.tc, .slice a.pa c.pn a.pc] 28)) = W ∧ Hid (Cb w W w.heap.size a c) := ⟨_, rfl, HB0⟩
  rw [hW]
  clear hW HB0
  go_loopw [13] (fun i wr => ∃ k : Nat, k ≤ c.tn ∧ i = .int .i64 k ∧ allT c k = true ∧ Cb w wr w.heap.size a c) (fun i _ => c.tn - (intOf i).toNat)
  case atStart => exact ⟨0, by omega, rfl, rfl, HB.out⟩
  case round =>
    clear HB
    obtain ⟨k, hk, rfl, hs, hB⟩ := hrel
    have HS : Hid (allT c k = true) := hs
    have HB : Hid (Cb w wr w.heap.size a c) := hB
    clear hs hB
    by_cases hlt : k < c.tn
    · obtain ⟨b, o, hq, d1⟩ := HB.out.ci.t.at' (Below.refl _ _) hlt
      have HN : Hid ((decide (0 ≤ c.tf k) && decide (c.tf k < (c.pn : Int))) = false → tOk c = false) := fun h => by
        rw [HT2.out]
        cases h2 : allT c c.tn
        · rfl
        · have := allT_iff.1 h2 k hlt
          simp [this.1, this.2] at h
      have HY : Hid ((decide (0 ≤ c.tf k) && decide (c.tf k < (c.pn : Int))) = true → allT c (k + 1) = true) := fun h => by
        simp only [allT, HS.out, h, Bool.and_self]
      have IPk : Hid (∀ w', Calls Tryz.prog 95 #[.agg #[.int .i64 c.F, .int .i64 c.C, .int .i64 c.W, .int .i64 c.S, .int .i64 c.V, .int .i64 c.T, .int .u64 c.k.l1, .int .u64 c.k.llc, .int .u64 c.k.mi, .int .u64 c.k.fa, .int .u64 c.k.st, .int .u64 c.k.di, .int .u64 c.sl, .int .u64 c.pd, .int .u64 c.ft, .slice a.ta c.tn a.tc, .slice a.pa c.pn a.pc], .int .i64 (c.tf k)] w' (One (.bool (decide (0 ≤ c.tf k) && decide (c.tf k < (c.pn : Int)))) w')) := IP.out (c.tf k)
      generalize hbv : (decide (0 ≤ c.tf k) && decide (c.tf k < (c.pn : Int))) = bv at *
      clear hbv IP
      generalize c.tf k = v at *
      obtain ⟨_, c0, c1, c2, c3, c4, c5, c6, c7, c8, c9, c10, c11, c12, c13, c14, c15, c16⟩ := HB.out.bx
      have HQ : Hid (a.ta = some ⟨b, o, none⟩) := hq
      go_wp2_with fail
      rw [← HQ.out]
      refine (IPk.out _).mono ?_
      rintro e w2 ⟨rfl, k2⟩
      have HB2 : Hid (Cb w w2 w.heap.size a c) := HB.out.below k2
      clear HB k2 IPk c0 c1 c2 c3 c4 c5 c6 c7 c8 c9 c10 c11 c12 c13 c14 c15 c16 hq
      cases bv
      · go_wp2
        go_ret
        exact ⟨ret_int (by rw [HN.out (by first | rfl | trivial)]; rfl), HB2.out.be⟩
      · go_wp2
        go_roundw
        case rel => exact ⟨k + 1, by omega, by go_num, HY.out (by first | rfl | trivial), HB2.out⟩
        case measure => simp [intOf]; omega
    · obtain rfl : k = c.tn := by omega
      go_wp2
      go_ret
      exact ⟨ret_int (by rw [HT2.out, HS.out]; rfl), HB.out.be⟩
theorem sv_range {c : Cf} (h : c.MOk) : (0 ≤ c.S * c.V ∧ c.S * c.V ≤ 65536) := by
  have := prod_le c.S c.V 4096 16 (by have := h.S1; omega) h.S2 (by have := h.V1; omega) h.V2
  omega
set_option maxRecDepth 20000 in
theorem padSuffices_ok {w : World} {a : Ad} {c : Cf} (hM : c.MOk) (hk : okC c.k = true) : Calls Tryz.prog 162 #[.agg #[.int .i64 c.F, .int .i64 c.C, .int .i64 c.W, .int .i64 c.S, .int .i64 c.V, .int .i64 c.T, .int .u64 c.k.l1, .int .u64 c.k.llc, .int .u64 c.k.mi, .int .u64 c.k.fa, .int .u64 c.k.st, .int .u64 c.k.di, .int .u64 c.sl, .int .u64 c.pd, .int .u64 c.ft, .slice a.ta c.tn a.tc, .slice a.pa c.pn a.pc]] w (One (.bool (decide (pdM c ≤ c.pd))) w) := by
  have HB0 : Below w.heap.size w (w.alloc (.cells #[.int .i64 c.F, .int .i64 c.C, .int .i64 c.W, .int .i64 c.S, .int .i64 c.V, .int .i64 c.T, .int .u64 c.k.l1, .int .u64 c.k.llc, .int .u64 c.k.mi, .int .u64 c.k.fa, .int .u64 c.k.st, .int .u64 c.k.di, .int .u64 c.sl, .int .u64 c.pd, .int .u64 c.ft, .slice a.ta c.tn a.tc, .slice a.pa c.pn a.pc] 28)) := below_new _ _
  have HS0 := sev_new w a c
  obtain ⟨r0, r1⟩ := sv_range hM
  have hT1 := hM.T1
  have hT2 := hM.T2
  have hL : okL (c.S * c.V) c.T = true := by
    generalize c.S * c.V = sv at *
    simp only [okL, Bool.and_eq_true, inB_iff]
    omega
  have SW : Hid (∀ w', Calls Tryz.prog 181 #[.agg #[.int .u64 c.k.l1, .int .u64 c.k.llc, .int .u64 c.k.mi, .int .u64 c.k.fa, .int .u64 c.k.st, .int .u64 c.k.di], .int .i64 (c.S * c.V), .int .i64 c.T] w' (Two (pdM c) 0 w')) := fun w' => by
    have hp : pdM c = (c.S * c.V + c.T) * c.k.st := rfl
    rw [hp]
    exact Switch_ok c.k hk (c.S * c.V) c.T hL w'
  clear hM hk hL
  generalize hsv : c.S * c.V = sv at *
  generalize pdM c = pm at *
  go_enter Tryz.func162, Tryz.ntmps162
  go_wp2_with fail
  refine (SW.out _).mono ?_
  rintro e w1 ⟨rfl, k1⟩
  obtain ⟨_, c0, c1, c2, c3, c4, c5, c6, c7, c8, c9, c10, c11, c12, c13, c14, c15, c16⟩ := HS0.below k1
  have FIN : Hid (Below w.heap.size w w1) := HB0.trans (k1.mono HB0.size)
  clear SW k1 HB0 HS0 c0 c1 c2 c3 c4 c5 c6 c7 c8 c9 c10 c11 c12 c14 c15 c16
  go_wp2
  go_ret
  exact ⟨ret_bool (by first | rfl | simp), FIN.out⟩
end Go.Proofs.YtdempgjhjcjklaaGreat
