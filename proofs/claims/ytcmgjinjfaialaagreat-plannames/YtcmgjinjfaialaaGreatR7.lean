/- What the document's answer tells of partitions and colours; no condition but that a configuration lies in memory. -/
import Derived.Test.YtcmgjinjfaialaaGreatR6
namespace Go.Proofs.YtcmgjinjfaialaaGreat
open Go.ChangeShapes Go.WideShapes Go.ChangeAt Go.RowKit
set_option linter.unusedVariables false

set_option maxRecDepth 20000 in
theorem rMay_all {w : World} {a : Ad} {c : Cf} (hc : Cin w a c) : Calls Tryz.prog 52 #[.agg #[.int .i64 c.F, .int .i64 c.C, .int .i64 c.W, .int .i64 c.S, .int .i64 c.V, .int .i64 c.T, .int .u64 c.k.l1, .int .u64 c.k.llc, .int .u64 c.k.mi, .int .u64 c.k.fa, .int .u64 c.k.st, .int .u64 c.k.di, .int .u64 c.sl, .int .u64 c.pd, .int .u64 c.ft, .slice a.ta c.tn a.tc, .slice a.pa c.pn a.pc]] w (One (.bool (may c)) w) := by
  have HB0 := cb_new hc
  have C1 : Hid (∀ w', Cin w' a c → Calls Tryz.prog 18 #[.agg #[.int .i64 c.F, .int .i64 c.C, .int .i64 c.W, .int .i64 c.S, .int .i64 c.V, .int .i64 c.T, .int .u64 c.k.l1, .int .u64 c.k.llc, .int .u64 c.k.mi, .int .u64 c.k.fa, .int .u64 c.k.st, .int .u64 c.k.di, .int .u64 c.sl, .int .u64 c.pd, .int .u64 c.ft, .slice a.ta c.tn a.tc, .slice a.pa c.pn a.pc]] w' (Chk c w')) := fun w' h => rCheck_all h
  have HM : Hid (may c = ((chk c).length == 0)) := may_len c
  have hL := chk_len c
  have hld := HB0.bx.ld
  clear hc
  go_enter Tryz.func52, Tryz.ntmps52
  go_upto_region 1 with fail
  obtain ⟨W, hW, HB⟩ : ∃ W, (w.alloc (.cells #[.int .i64 c.F, .int .i64 c.C, .int .i64 c.W, .int .i64 c.S, .int .i64 c.V, .int .i64 c.T, .int .u64 c.k.l1, .int .u64 c.k.llc, .int .u64 c.k.mi, .int .u64 c.k.fa, .int .u64 c.k.st, .int .u64 c.k.di, .int .u64 c.sl, .int .u64 c.pd, .int .u64 c.ft, .slice a.ta c.tn a.tc, .slice a.pa c.pn a.pc] 28)) = W ∧ Hid (Cb w W w.heap.size a c) := ⟨_, rfl, HB0⟩
  rw [hW] at hld
  rw [hW]
  clear hW HB0
  go_wp2_with (refine wpList_load_at rfl 28 (.tmp 1) rfl _ _ rfl hld ?_)
  refine (C1.out _ HB.out.ci).mono ?_
  rintro _ w1 ⟨v, rfl, hf, k1⟩
  obtain ⟨va, vc, rfl⟩ := hf.len
  have FIN : Hid (Below w.heap.size w w1) := HB.out.be.trans (k1.mono HB.out.be.size)
  clear hf k1 HB C1 hld
  generalize (chk c).length = n at *
  go_wp2
  go_ret
  exact ⟨ret_bool (by rw [HM.out]; first | rfl | (rw [Bool.eq_iff_iff]; simp)), FIN.out⟩
set_option maxRecDepth 20000 in
set_option maxHeartbeats 2000000 in
theorem rthere_any {w : World} {a : Ad} {c : Cf} (hc : Cin w a c) (p : Int) : Calls Tryz.prog 56 #[.agg #[.int .i64 c.F, .int .i64 c.C, .int .i64 c.W, .int .i64 c.S, .int .i64 c.V, .int .i64 c.T, .int .u64 c.k.l1, .int .u64 c.k.llc, .int .u64 c.k.mi, .int .u64 c.k.fa, .int .u64 c.k.st, .int .u64 c.k.di, .int .u64 c.sl, .int .u64 c.pd, .int .u64 c.ft, .slice a.ta c.tn a.tc, .slice a.pa c.pn a.pc], .int .i64 p] w (One (.int .i64 (fe c p)) w) := by
  have HB0 := cb_new hc
  have hpl := hc.pl
  have C1 : Hid (∀ w', Cin w' a c → Calls Tryz.prog 52 #[.agg #[.int .i64 c.F, .int .i64 c.C, .int .i64 c.W, .int .i64 c.S, .int .i64 c.V, .int .i64 c.T, .int .u64 c.k.l1, .int .u64 c.k.llc, .int .u64 c.k.mi, .int .u64 c.k.fa, .int .u64 c.k.st, .int .u64 c.k.di, .int .u64 c.sl, .int .u64 c.pd, .int .u64 c.ft, .slice a.ta c.tn a.tc, .slice a.pa c.pn a.pc]] w' (One (.bool (may c)) w')) := fun w' h => rMay_all h
  have HF : Hid (fe c p = bif may c then (bif decide (0 ≤ p) && decide (p < (c.pn : Int)) then 0 else 270) else 5) := rfl
  have hld := HB0.bx.ld
  clear hc
  generalize fe c p = fv at *
  generalize may c = bm at *
  go_enter Tryz.func56, Tryz.ntmps56
  go_upto_region 1 with fail
  obtain ⟨W, hW, HB⟩ : ∃ W, (w.alloc (.cells #[.int .i64 c.F, .int .i64 c.C, .int .i64 c.W, .int .i64 c.S, .int .i64 c.V, .int .i64 c.T, .int .u64 c.k.l1, .int .u64 c.k.llc, .int .u64 c.k.mi, .int .u64 c.k.fa, .int .u64 c.k.st, .int .u64 c.k.di, .int .u64 c.sl, .int .u64 c.pd, .int .u64 c.ft, .slice a.ta c.tn a.tc, .slice a.pa c.pn a.pc] 28)) = W ∧ Hid (Cb w W w.heap.size a c) := ⟨_, rfl, HB0⟩
  rw [hW] at hld
  rw [hW]
  clear hW HB0
  go_wp2_with (refine wpList_load_at rfl 28 (.tmp 2) rfl _ _ rfl hld ?_)
  refine (C1.out _ HB.out.ci).mono ?_
  rintro _ w1 ⟨rfl, k1⟩
  have H1 : Hid (Cb w w1 w.heap.size a c) := HB.out.below k1
  clear HB k1 hld C1
  cases bm
  · go_wp2
    go_ret
    exact ⟨ret_int (by rw [HF.out]; rfl), H1.out.be⟩
  have c16 := H1.out.bx.c16
  by_cases n1 : p < 0
  · have HV : Hid (fv = 270) := by unfold Hid; rw [HF.out, show (decide (0 ≤ p) && decide (p < (c.pn : Int))) = false by simp; omega]; rfl
    go_wp2
    go_ret
    exact ⟨ret_int HV.out.symm, H1.out.be⟩
  by_cases n2 : (c.pn : Int) ≤ p
  · have HV : Hid (fv = 270) := by unfold Hid; rw [HF.out, show (decide (0 ≤ p) && decide (p < (c.pn : Int))) = false by simp; omega]; rfl
    go_wp2
    go_ret
    exact ⟨ret_int HV.out.symm, H1.out.be⟩
  · have HV : Hid (fv = 0) := by unfold Hid; rw [HF.out, show (decide (0 ≤ p) && decide (p < (c.pn : Int))) = true by simp; omega]; rfl
    go_wp2
    go_ret
    exact ⟨ret_int HV.out.symm, H1.out.be⟩
set_option maxRecDepth 20000 in
set_option maxHeartbeats 2000000 in
theorem rOwner_any {w : World} {a : Ad} {c : Cf} (hc : Cin w a c) (x : Int) : Calls Tryz.prog 23 #[.agg #[.int .i64 c.F, .int .i64 c.C, .int .i64 c.W, .int .i64 c.S, .int .i64 c.V, .int .i64 c.T, .int .u64 c.k.l1, .int .u64 c.k.llc, .int .u64 c.k.mi, .int .u64 c.k.fa, .int .u64 c.k.st, .int .u64 c.k.di, .int .u64 c.sl, .int .u64 c.pd, .int .u64 c.ft, .slice a.ta c.tn a.tc, .slice a.pa c.pn a.pc], .int .i64 x] w (One (owV (owP c x) (owE c x)) w) := by
  have HB0 := cb_new hc
  have hpl := hc.pl
  have C1 : Hid (∀ w', Cin w' a c → Calls Tryz.prog 52 #[.agg #[.int .i64 c.F, .int .i64 c.C, .int .i64 c.W, .int .i64 c.S, .int .i64 c.V, .int .i64 c.T, .int .u64 c.k.l1, .int .u64 c.k.llc, .int .u64 c.k.mi, .int .u64 c.k.fa, .int .u64 c.k.st, .int .u64 c.k.di, .int .u64 c.sl, .int .u64 c.pd, .int .u64 c.ft, .slice a.ta c.tn a.tc, .slice a.pa c.pn a.pc]] w' (One (.bool (may c)) w')) := fun w' h => rMay_all h
  have HE : Hid (owE c x = bif may c then (bif decide (0 ≤ x) && decide (x < c.C) then 0 else 2) else 5) := rfl
  have HP : Hid (owP c x = if owE c x = 0 then ow c x c.pn else none) := rfl
  have hld := HB0.bx.ld
  have HCL : Hid (∀ i, i < c.pn → (c.pf i).n * 8 ≤ 140737488351232) := hc.cl
  have HMay : Hid (may c = true → 0 < c.pn) := fun h => (may_iff.1 h).m.p1
  clear hc
  generalize may c = bm at *
  generalize owE c x = E at *
  generalize owP c x = O at *
  go_enter Tryz.func23, Tryz.ntmps23
  go_upto_region 1 with fail
  obtain ⟨W, hW, HB⟩ : ∃ W, (w.alloc (.cells #[.int .i64 c.F, .int .i64 c.C, .int .i64 c.W, .int .i64 c.S, .int .i64 c.V, .int .i64 c.T, .int .u64 c.k.l1, .int .u64 c.k.llc, .int .u64 c.k.mi, .int .u64 c.k.fa, .int .u64 c.k.st, .int .u64 c.k.di, .int .u64 c.sl, .int .u64 c.pd, .int .u64 c.ft, .slice a.ta c.tn a.tc, .slice a.pa c.pn a.pc] 28)) = W ∧ Hid (Cb w W w.heap.size a c) := ⟨_, rfl, HB0⟩
  rw [hW] at hld
  rw [hW]
  clear hW HB0
  go_wp2_with (refine wpList_load_at rfl 28 (.tmp 2) rfl _ _ rfl hld ?_)
  refine (C1.out _ HB.out.ci).mono ?_
  rintro _ w1 ⟨rfl, k1⟩
  have H1 : Hid (Cb w w1 w.heap.size a c) := HB.out.below k1
  clear HB k1 hld C1
  cases bm
  · have hE : E = 5 := HE.out
    have hO : O = none := by rw [HP.out, hE]; rfl
    subst hE hO
    go_wp2
    go_ret3
    exact ⟨rfl, H1.out.be⟩
  have c1 := H1.out.bx.c1
  by_cases n1 : x < 0
  · have hE : E = 2 := by rw [HE.out, show (decide (0 ≤ x) && decide (x < c.C)) = false by simp; omega]; rfl
    have hO : O = none := by rw [HP.out, hE]; rfl
    subst hE hO
    go_wp2
    go_ret3
    exact ⟨rfl, H1.out.be⟩
  by_cases n2 : c.C ≤ x
  · have hE : E = 2 := by rw [HE.out, show (decide (0 ≤ x) && decide (x < c.C)) = false by simp; omega]; rfl
    have hO : O = none := by rw [HP.out, hE]; rfl
    subst hE hO
    go_wp2
    go_ret3
    exact ⟨rfl, H1.out.be⟩
  have hE : E = 0 := by
    rw [HE.out, show (decide (0 ≤ x) && decide (x < c.C)) = true by simp; omega]; rfl
  have HO : Hid (O = ow c x c.pn) := by unfold Hid; rw [HP.out, hE]; rfl
  subst hE
  clear HE HP
  have c16 := H1.out.bx.c16
  clear c16
  go_wp2
  go_loopw [7] (fun i wr => ∃ k : Nat, k ≤ c.pn ∧ i = .int .i64 k ∧ ow c x k = none ∧ Cb w wr w.heap.size a c) (fun i _ => c.pn - (intOf i).toNat)
  case atStart => exact ⟨0, by omega, rfl, rfl, H1.out⟩
  case round =>
    clear H1 c1
    obtain ⟨k, hk, rfl, hs, hB⟩ := hrel
    have HS : Hid (ow c x k = none) := hs
    have HB : Hid (Cb w wr w.heap.size a c) := hB
    clear hs hB
    have c16 := HB.out.bx.c16
    by_cases hlt : k < c.pn
    · obtain ⟨b, off, hq, ⟨_, e0, _, _, _, _, _, _, _⟩⟩ := HB.out.ci.p.at' hlt
      have hkn : (k : Int) < (c.pn : Int) := by omega
      have hcol : Arg wr (a.ca k) (c.pf k).n (c.pf k).f := HB.out.ci.p.col hlt
      have HX : Hid (ow c x (k + 1) = if has (c.pf k).n (c.pf k).f x then some k else none) := ow_succ_none HS.out
      have HY : Hid (ow c x (k + 1) = some k → O = some k) := fun h => by rw [HO.out]; exact ow_more h (by omega)
      have hl := HCL.out k hlt
      have CC : Hid (Calls Tryz.prog 53 #[.slice (a.ca k) (c.pf k).n (a.cc k), .int .i64 x] wr fun e w' => e = .returned (.bool (has (c.pf k).n (c.pf k).f x)) ∧ w' = wr) := rhas_any hl hcol x
      generalize hh : has (c.pf k).n (c.pf k).f x = bo at *
      clear hh hcol
      generalize c.pf k = y at *
      generalize a.ca k = qa at *
      generalize a.cc k = qm at *
      rw [hq] at c16
      clear hq
      go_wp2_with fail
      refine CC.out.mono ?_
      rintro _ w2 ⟨rfl, hw2⟩
      obtain rfl := hw2.symm
      clear CC e0
      cases bo
      · have HN : Hid (ow c x (k + 1) = none) := by unfold Hid; rw [HX.out]; rfl
        go_wp2
        go_roundw
        case rel => exact ⟨k + 1, by omega, by go_num, HN.out, HB.out⟩
        case measure => simp [intOf]; omega
      · have hO : O = some k := HY.out (by rw [HX.out]; rfl)
        subst hO
        go_wp2
        go_ret3
        exact ⟨rfl, HB.out.be⟩
    · obtain rfl : k = c.pn := by omega
      have hO : O = none := by rw [HO.out]; exact HS.out
      subst hO
      go_wp2
      go_ret3
      exact ⟨rfl, HB.out.be⟩
set_option maxRecDepth 20000 in
set_option maxHeartbeats 2000000 in
theorem rTotal_no {w : World} {a : Ad} {c : Cf} (hc : Cin w a c) (p : Int) (hf : fe c p ≠ 0) : Calls Tryz.prog 30 #[.agg #[.int .i64 c.F, .int .i64 c.C, .int .i64 c.W, .int .i64 c.S, .int .i64 c.V, .int .i64 c.T, .int .u64 c.k.l1, .int .u64 c.k.llc, .int .u64 c.k.mi, .int .u64 c.k.fa, .int .u64 c.k.st, .int .u64 c.k.di, .int .u64 c.sl, .int .u64 c.pd, .int .u64 c.ft, .slice a.ta c.tn a.tc, .slice a.pa c.pn a.pc], .int .i64 p] w (Ti 0 (fe c p) w) := by
  have HB0 := cb_new hc
  have C1 : Hid (∀ w', Cin w' a c → Calls Tryz.prog 56 #[.agg #[.int .i64 c.F, .int .i64 c.C, .int .i64 c.W, .int .i64 c.S, .int .i64 c.V, .int .i64 c.T, .int .u64 c.k.l1, .int .u64 c.k.llc, .int .u64 c.k.mi, .int .u64 c.k.fa, .int .u64 c.k.st, .int .u64 c.k.di, .int .u64 c.sl, .int .u64 c.pd, .int .u64 c.ft, .slice a.ta c.tn a.tc, .slice a.pa c.pn a.pc], .int .i64 p] w' (One (.int .i64 (fe c p)) w')) := fun w' h => rthere_any h p
  have hld := HB0.bx.ld
  have hf2 : (fe c p != 0) = true := by simp [hf]
  clear hc
  generalize fe c p = E at *
  go_enter Tryz.func30, Tryz.ntmps30
  go_upto_region 1 with fail
  obtain ⟨W, hW, HB⟩ : ∃ W, (w.alloc (.cells #[.int .i64 c.F, .int .i64 c.C, .int .i64 c.W, .int .i64 c.S, .int .i64 c.V, .int .i64 c.T, .int .u64 c.k.l1, .int .u64 c.k.llc, .int .u64 c.k.mi, .int .u64 c.k.fa, .int .u64 c.k.st, .int .u64 c.k.di, .int .u64 c.sl, .int .u64 c.pd, .int .u64 c.ft, .slice a.ta c.tn a.tc, .slice a.pa c.pn a.pc] 28)) = W ∧ Hid (Cb w W w.heap.size a c) := ⟨_, rfl, HB0⟩
  rw [hW] at hld
  rw [hW]
  clear hW HB0
  go_wp2_with (refine wpList_load_at rfl 28 (.tmp 2) rfl _ _ rfl hld ?_)
  refine (C1.out _ HB.out.ci).mono ?_
  rintro _ w1 ⟨rfl, k1⟩
  have H1 : Hid (Cb w w1 w.heap.size a c) := HB.out.below k1
  clear HB k1 hld C1
  go_wp2
  go_ret2
  exact ⟨rfl, H1.out.be⟩
set_option maxRecDepth 20000 in
set_option maxHeartbeats 2000000 in
theorem rLimit_no {w : World} {a : Ad} {c : Cf} (hc : Cin w a c) (p : Int) (hf : fe c p ≠ 0) : Calls Tryz.prog 31 #[.agg #[.int .i64 c.F, .int .i64 c.C, .int .i64 c.W, .int .i64 c.S, .int .i64 c.V, .int .i64 c.T, .int .u64 c.k.l1, .int .u64 c.k.llc, .int .u64 c.k.mi, .int .u64 c.k.fa, .int .u64 c.k.st, .int .u64 c.k.di, .int .u64 c.sl, .int .u64 c.pd, .int .u64 c.ft, .slice a.ta c.tn a.tc, .slice a.pa c.pn a.pc], .int .i64 p] w (Ti 0 (fe c p) w) := by
  have HB0 := cb_new hc
  have C1 : Hid (∀ w', Cin w' a c → Calls Tryz.prog 56 #[.agg #[.int .i64 c.F, .int .i64 c.C, .int .i64 c.W, .int .i64 c.S, .int .i64 c.V, .int .i64 c.T, .int .u64 c.k.l1, .int .u64 c.k.llc, .int .u64 c.k.mi, .int .u64 c.k.fa, .int .u64 c.k.st, .int .u64 c.k.di, .int .u64 c.sl, .int .u64 c.pd, .int .u64 c.ft, .slice a.ta c.tn a.tc, .slice a.pa c.pn a.pc], .int .i64 p] w' (One (.int .i64 (fe c p)) w')) := fun w' h => rthere_any h p
  have hld := HB0.bx.ld
  have hf2 : (fe c p != 0) = true := by simp [hf]
  clear hc
  generalize fe c p = E at *
  go_enter Tryz.func31, Tryz.ntmps31
  go_upto_region 1 with fail
  obtain ⟨W, hW, HB⟩ : ∃ W, (w.alloc (.cells #[.int .i64 c.F, .int .i64 c.C, .int .i64 c.W, .int .i64 c.S, .int .i64 c.V, .int .i64 c.T, .int .u64 c.k.l1, .int .u64 c.k.llc, .int .u64 c.k.mi, .int .u64 c.k.fa, .int .u64 c.k.st, .int .u64 c.k.di, .int .u64 c.sl, .int .u64 c.pd, .int .u64 c.ft, .slice a.ta c.tn a.tc, .slice a.pa c.pn a.pc] 28)) = W ∧ Hid (Cb w W w.heap.size a c) := ⟨_, rfl, HB0⟩
  rw [hW] at hld
  rw [hW]
  clear hW HB0
  go_wp2_with (refine wpList_load_at rfl 28 (.tmp 2) rfl _ _ rfl hld ?_)
  refine (C1.out _ HB.out.ci).mono ?_
  rintro _ w1 ⟨rfl, k1⟩
  have H1 : Hid (Cb w w1 w.heap.size a c) := HB.out.below k1
  clear HB k1 hld C1
  go_wp2
  go_ret2
  exact ⟨rfl, H1.out.be⟩
set_option maxRecDepth 20000 in
set_option maxHeartbeats 2000000 in
theorem rBase_no {w : World} {a : Ad} {c : Cf} (hc : Cin w a c) (p : Int) (hf : fe c p ≠ 0) : Calls Tryz.prog 32 #[.agg #[.int .i64 c.F, .int .i64 c.C, .int .i64 c.W, .int .i64 c.S, .int .i64 c.V, .int .i64 c.T, .int .u64 c.k.l1, .int .u64 c.k.llc, .int .u64 c.k.mi, .int .u64 c.k.fa, .int .u64 c.k.st, .int .u64 c.k.di, .int .u64 c.sl, .int .u64 c.pd, .int .u64 c.ft, .slice a.ta c.tn a.tc, .slice a.pa c.pn a.pc], .int .i64 p] w (Ti 0 (fe c p) w) := by
  have HB0 := cb_new hc
  have C1 : Hid (∀ w', Cin w' a c → Calls Tryz.prog 56 #[.agg #[.int .i64 c.F, .int .i64 c.C, .int .i64 c.W, .int .i64 c.S, .int .i64 c.V, .int .i64 c.T, .int .u64 c.k.l1, .int .u64 c.k.llc, .int .u64 c.k.mi, .int .u64 c.k.fa, .int .u64 c.k.st, .int .u64 c.k.di, .int .u64 c.sl, .int .u64 c.pd, .int .u64 c.ft, .slice a.ta c.tn a.tc, .slice a.pa c.pn a.pc], .int .i64 p] w' (One (.int .i64 (fe c p)) w')) := fun w' h => rthere_any h p
  have hld := HB0.bx.ld
  have hf2 : (fe c p != 0) = true := by simp [hf]
  clear hc
  generalize fe c p = E at *
  go_enter Tryz.func32, Tryz.ntmps32
  go_upto_region 1 with fail
  obtain ⟨W, hW, HB⟩ : ∃ W, (w.alloc (.cells #[.int .i64 c.F, .int .i64 c.C, .int .i64 c.W, .int .i64 c.S, .int .i64 c.V, .int .i64 c.T, .int .u64 c.k.l1, .int .u64 c.k.llc, .int .u64 c.k.mi, .int .u64 c.k.fa, .int .u64 c.k.st, .int .u64 c.k.di, .int .u64 c.sl, .int .u64 c.pd, .int .u64 c.ft, .slice a.ta c.tn a.tc, .slice a.pa c.pn a.pc] 28)) = W ∧ Hid (Cb w W w.heap.size a c) := ⟨_, rfl, HB0⟩
  rw [hW] at hld
  rw [hW]
  clear hW HB0
  go_wp2_with (refine wpList_load_at rfl 28 (.tmp 2) rfl _ _ rfl hld ?_)
  refine (C1.out _ HB.out.ci).mono ?_
  rintro _ w1 ⟨rfl, k1⟩
  have H1 : Hid (Cb w w1 w.heap.size a c) := HB.out.below k1
  clear HB k1 hld C1
  go_wp2
  go_ret2
  exact ⟨rfl, H1.out.be⟩
set_option maxRecDepth 20000 in
set_option maxHeartbeats 2000000 in
theorem rTotal_ok {w : World} {a : Ad} {c : Cf} (hc : Cin w a c) (p : Nat) (hm : may c = true) (hp : p < c.pn) : Calls Tryz.prog 30 #[.agg #[.int .i64 c.F, .int .i64 c.C, .int .i64 c.W, .int .i64 c.S, .int .i64 c.V, .int .i64 c.T, .int .u64 c.k.l1, .int .u64 c.k.llc, .int .u64 c.k.mi, .int .u64 c.k.fa, .int .u64 c.k.st, .int .u64 c.k.di, .int .u64 c.sl, .int .u64 c.pd, .int .u64 c.ft, .slice a.ta c.tn a.tc, .slice a.pa c.pn a.pc], .int .i64 p] w (Ti ((c.pf p).n * (c.F / c.C)) 0 w) := by
  have HB0 := cb_new hc
  have hpl := hc.pl
  have hp1 : (p : Int) < (c.pn : Int) := by omega
  have hp0 : (0 : Int) ≤ (p : Int) := by omega
  have hO := may_iff.1 hm
  have k := hO.part hp
  have C1 : Hid (∀ w', Cin w' a c → Calls Tryz.prog 56 #[.agg #[.int .i64 c.F, .int .i64 c.C, .int .i64 c.W, .int .i64 c.S, .int .i64 c.V, .int .i64 c.T, .int .u64 c.k.l1, .int .u64 c.k.llc, .int .u64 c.k.mi, .int .u64 c.k.fa, .int .u64 c.k.st, .int .u64 c.k.di, .int .u64 c.sl, .int .u64 c.pd, .int .u64 c.ft, .slice a.ta c.tn a.tc, .slice a.pa c.pn a.pc], .int .i64 p] w' (One (.int .i64 0) w')) := fun w' h => by
    have := rthere_any h (p : Int)
    rwa [fe_ok hm hp] at this
  have hld := HB0.bx.ld
  have hC0 : ¬ c.C = 0 := by have := hO.m.C; omega
  have hC1 : c.C ≤ 16 := by have := hO.m.C; omega
  obtain ⟨q0, q1⟩ := quo_range hO.m.C hO.m.F1 hO.m.F2
  have hq' : c.F.tdiv c.C = c.F / c.C := Int.tdiv_eq_ediv_of_nonneg (by have := hO.m.F1; omega)
  have hn16 : ((c.pf p).n : Int) ≤ 16 := by have := rise_len k.ri k.n0; omega
  obtain ⟨p0, p1⟩ := prod_le ((c.pf p).n : Int) (c.F / c.C) 16 4096 (by omega) hn16 q0 q1
  clear hc hO k hm
  go_enter Tryz.func30, Tryz.ntmps30
  go_upto_region 1 with fail
  obtain ⟨W, hW, HB⟩ : ∃ W, (w.alloc (.cells #[.int .i64 c.F, .int .i64 c.C, .int .i64 c.W, .int .i64 c.S, .int .i64 c.V, .int .i64 c.T, .int .u64 c.k.l1, .int .u64 c.k.llc, .int .u64 c.k.mi, .int .u64 c.k.fa, .int .u64 c.k.st, .int .u64 c.k.di, .int .u64 c.sl, .int .u64 c.pd, .int .u64 c.ft, .slice a.ta c.tn a.tc, .slice a.pa c.pn a.pc] 28)) = W ∧ Hid (Cb w W w.heap.size a c) := ⟨_, rfl, HB0⟩
  rw [hW] at hld
  rw [hW]
  clear hW HB0
  go_wp2_with (refine wpList_load_at rfl 28 (.tmp 2) rfl _ _ rfl hld ?_)
  refine (C1.out _ HB.out.ci).mono ?_
  rintro _ w1 ⟨rfl, k1⟩
  have H1 : Hid (Cb w w1 w.heap.size a c) := HB.out.below k1
  clear HB k1 hld C1
  obtain ⟨b, off, hq, ⟨_, e0, _, _, _, _, _, _, _⟩⟩ := H1.out.ci.p.at' hp
  have c16 := H1.out.bx.c16
  have c0 := H1.out.bx.c0
  have c1 := H1.out.bx.c1
  rw [hq] at c16
  clear hq
  generalize hQ : c.F / c.C = Q at *
  generalize hTT : ((c.pf p).n : Int) * Q = TT at *
  generalize (c.pf p) = y at *
  generalize a.ca p = qa at *
  generalize a.cc p = qm at *
  clear hQ
  go_wp2_with fail
  go_quiet (fail)
  go_wp2
  go_ret2
  exact ⟨rfl, below_drewN H1.out.be _⟩
theorem fieldLi (i j k l : Int) (w : World) : (Instr.field 53 (.agg #[.int .i64 i, .int .i64 j, .int .i64 k, .int .i64 l]) 2).run Tryz.prog w = .ok (.int .i64 k) w := by
  simp [Instr.field, run_underlying Tryz.underlying53, part, go_sem, asAgg]
set_option maxRecDepth 20000 in
set_option maxHeartbeats 2000000 in
theorem rLimit_ok {w : World} {a : Ad} {c : Cf} (hc : Cin w a c) (p : Nat) (hm : may c = true) (hp : p < c.pn) : Calls Tryz.prog 31 #[.agg #[.int .i64 c.F, .int .i64 c.C, .int .i64 c.W, .int .i64 c.S, .int .i64 c.V, .int .i64 c.T, .int .u64 c.k.l1, .int .u64 c.k.llc, .int .u64 c.k.mi, .int .u64 c.k.fa, .int .u64 c.k.st, .int .u64 c.k.di, .int .u64 c.sl, .int .u64 c.pd, .int .u64 c.ft, .slice a.ta c.tn a.tc, .slice a.pa c.pn a.pc], .int .i64 p] w (Ti (lim (c.pf p)) 0 w) := by
  have HB0 := cb_new hc
  have hpl := hc.pl
  have hp1 : (p : Int) < (c.pn : Int) := by omega
  have hp0 : (0 : Int) ≤ (p : Int) := by omega
  have hO := may_iff.1 hm
  have k := hO.part hp
  have C1 : Hid (∀ w', Cin w' a c → Calls Tryz.prog 56 #[.agg #[.int .i64 c.F, .int .i64 c.C, .int .i64 c.W, .int .i64 c.S, .int .i64 c.V, .int .i64 c.T, .int .u64 c.k.l1, .int .u64 c.k.llc, .int .u64 c.k.mi, .int .u64 c.k.fa, .int .u64 c.k.st, .int .u64 c.k.di, .int .u64 c.sl, .int .u64 c.pd, .int .u64 c.ft, .slice a.ta c.tn a.tc, .slice a.pa c.pn a.pc], .int .i64 p] w' (One (.int .i64 0) w')) := fun w' h => by
    have := rthere_any h (p : Int)
    rwa [fe_ok hm hp] at this
  have hld := HB0.bx.ld
  have C2 : Hid (∀ w', Cin w' a c → Calls Tryz.prog 57 #[.agg #[.int .i64 c.F, .int .i64 c.C, .int .i64 c.W, .int .i64 c.S, .int .i64 c.V, .int .i64 c.T, .int .u64 c.k.l1, .int .u64 c.k.llc, .int .u64 c.k.mi, .int .u64 c.k.fa, .int .u64 c.k.st, .int .u64 c.k.di, .int .u64 c.sl, .int .u64 c.pd, .int .u64 c.ft, .slice a.ta c.tn a.tc, .slice a.pa c.pn a.pc], .int .i64 p] w' (One (.agg #[.int .i64 (im (c.pf p)), .int .i64 (c.pf p).u, .int .i64 (lim (c.pf p)), .int .i64 (c.pf p).t]) w')) := fun w' h => rshape_ok h p hp k.o0 k.o1 (by have := k.u0; omega) k.u1 (by have := k.z0; omega) k.z1 (by have := k.d0; omega) k.d1
  clear hc hO k hm
  go_enter Tryz.func31, Tryz.ntmps31
  go_upto_region 1 with fail
  obtain ⟨W, hW, HB⟩ : ∃ W, (w.alloc (.cells #[.int .i64 c.F, .int .i64 c.C, .int .i64 c.W, .int .i64 c.S, .int .i64 c.V, .int .i64 c.T, .int .u64 c.k.l1, .int .u64 c.k.llc, .int .u64 c.k.mi, .int .u64 c.k.fa, .int .u64 c.k.st, .int .u64 c.k.di, .int .u64 c.sl, .int .u64 c.pd, .int .u64 c.ft, .slice a.ta c.tn a.tc, .slice a.pa c.pn a.pc] 28)) = W ∧ Hid (Cb w W w.heap.size a c) := ⟨_, rfl, HB0⟩
  rw [hW] at hld
  rw [hW]
  clear hW HB0
  go_wp2_with (refine wpList_load_at rfl 28 (.tmp 2) rfl _ _ rfl hld ?_)
  refine (C1.out _ HB.out.ci).mono ?_
  rintro _ w1 ⟨rfl, k1⟩
  have H1 : Hid (Cb w w1 w.heap.size a c) := HB.out.below k1
  clear HB k1 hld C1
  have hld := H1.out.bx.ld
  go_wp2_with (refine wpList_load_at rfl 28 (.tmp 2) rfl _ _ rfl hld ?_)
  refine (C2.out _ H1.out.ci).mono ?_
  rintro _ w2 ⟨rfl, k2⟩
  have H2 : Hid (Cb w w2 w.heap.size a c) := H1.out.below k2
  clear H1 k2 hld C2
  have hfd := fieldLi (im (c.pf p)) (c.pf p).u (lim (c.pf p)) (c.pf p).t w2
  go_wp2
  go_ret2
  exact ⟨rfl, H2.out.be⟩
set_option maxRecDepth 20000 in
set_option maxHeartbeats 2000000 in
theorem rBase_ok {w : World} {a : Ad} {c : Cf} (hc : Cin w a c) (p : Nat) (hm : may c = true) (hp : p < c.pn) : Calls Tryz.prog 32 #[.agg #[.int .i64 c.F, .int .i64 c.C, .int .i64 c.W, .int .i64 c.S, .int .i64 c.V, .int .i64 c.T, .int .u64 c.k.l1, .int .u64 c.k.llc, .int .u64 c.k.mi, .int .u64 c.k.fa, .int .u64 c.k.st, .int .u64 c.k.di, .int .u64 c.sl, .int .u64 c.pd, .int .u64 c.ft, .slice a.ta c.tn a.tc, .slice a.pa c.pn a.pc], .int .i64 p] w (Ti (zs c p) 0 w) := by
  have HB0 := cb_new hc
  have hpl := hc.pl
  have hp1 : (p : Int) < (c.pn : Int) := by omega
  have hp0 : (0 : Int) ≤ (p : Int) := by omega
  have hO := may_iff.1 hm
  have k := hO.part hp
  have C1 : Hid (∀ w', Cin w' a c → Calls Tryz.prog 56 #[.agg #[.int .i64 c.F, .int .i64 c.C, .int .i64 c.W, .int .i64 c.S, .int .i64 c.V, .int .i64 c.T, .int .u64 c.k.l1, .int .u64 c.k.llc, .int .u64 c.k.mi, .int .u64 c.k.fa, .int .u64 c.k.st, .int .u64 c.k.di, .int .u64 c.sl, .int .u64 c.pd, .int .u64 c.ft, .slice a.ta c.tn a.tc, .slice a.pa c.pn a.pc], .int .i64 p] w' (One (.int .i64 0) w')) := fun w' h => by
    have := rthere_any h (p : Int)
    rwa [fe_ok hm hp] at this
  have hld := HB0.bx.ld
  have HZ : Hid (∀ i, i < c.pn → 1 ≤ (c.pf i).z ∧ (c.pf i).z ≤ 1024) := fun i hi => ⟨(hO.part hi).z0, (hO.part hi).z1⟩
  have hp8 := hO.pn8
  have HR : Hid (∀ k, k ≤ c.pn → 0 ≤ zs c k ∧ zs c k ≤ 1024 * k) := fun k => by
    induction k with
    | zero => intro _; exact ⟨Int.le_refl _, Int.le_refl _⟩
    | succ k ih =>
      intro hk
      have h1 := ih (by omega)
      have h2 := HZ.out k (by omega)
      simp only [zs]
      omega
  clear hc hO k hm
  go_enter Tryz.func32, Tryz.ntmps32
  go_upto_region 1 with fail
  obtain ⟨W, hW, HB⟩ : ∃ W, (w.alloc (.cells #[.int .i64 c.F, .int .i64 c.C, .int .i64 c.W, .int .i64 c.S, .int .i64 c.V, .int .i64 c.T, .int .u64 c.k.l1, .int .u64 c.k.llc, .int .u64 c.k.mi, .int .u64 c.k.fa, .int .u64 c.k.st, .int .u64 c.k.di, .int .u64 c.sl, .int .u64 c.pd, .int .u64 c.ft, .slice a.ta c.tn a.tc, .slice a.pa c.pn a.pc] 28)) = W ∧ Hid (Cb w W w.heap.size a c) := ⟨_, rfl, HB0⟩
  rw [hW] at hld
  rw [hW]
  clear hW HB0
  go_wp2_with (refine wpList_load_at rfl 28 (.tmp 2) rfl _ _ rfl hld ?_)
  refine (C1.out _ HB.out.ci).mono ?_
  rintro _ w1 ⟨rfl, k1⟩
  have H1 : Hid (Cb w w1 w.heap.size a c) := HB.out.below k1
  clear HB k1 hld C1
  go_wp2
  go_loopw [7, 8] (fun s i wr => ∃ k : Nat, k ≤ p ∧ i = .int .i64 k ∧ s = .int .i64 (zs c k) ∧ wr = w1) (fun _ i _ => p - (intOf i).toNat)
  case atStart => exact ⟨0, by omega, rfl, rfl, rfl⟩
  case round =>
    obtain ⟨k, hk, rfl, rfl, rfl⟩ := hrel
    have c16 := H1.out.bx.c16
    by_cases hlt : k < p
    · obtain ⟨b, off, hq, ⟨_, _, _, _, _, _, _, _, e7⟩⟩ := H1.out.ci.p.at' (show k < c.pn by omega)
      obtain ⟨r0, r1⟩ := HR.out k (by omega)
      obtain ⟨z0, z1⟩ := HZ.out k (by omega)
      have HS : Hid (zs c (k + 1) = zs c k + (c.pf k).z) := rfl
      have hkn : (k : Int) < (c.pn : Int) := by omega
      have hkp : (k : Int) < (p : Int) := by omega
      rw [hq] at c16
      clear hq
      generalize zs c k = S at *
      generalize (c.pf k).z = z at *
      go_wp2
      go_roundw
      case rel => exact ⟨k + 1, by omega, by go_num, by rw [HS.out], by first | rfl | trivial⟩
      case measure => simp [intOf]; omega
    · obtain rfl : k = p := by omega
      go_wp2
      go_ret2
      exact ⟨rfl, H1.out.be⟩
set_option maxRecDepth 20000 in
set_option maxHeartbeats 2000000 in
theorem rSlots_no {w : World} {a : Ad} {c : Cf} (hc : Cin w a c) (hm : may c = false) : Calls Tryz.prog 33 #[.agg #[.int .i64 c.F, .int .i64 c.C, .int .i64 c.W, .int .i64 c.S, .int .i64 c.V, .int .i64 c.T, .int .u64 c.k.l1, .int .u64 c.k.llc, .int .u64 c.k.mi, .int .u64 c.k.fa, .int .u64 c.k.st, .int .u64 c.k.di, .int .u64 c.sl, .int .u64 c.pd, .int .u64 c.ft, .slice a.ta c.tn a.tc, .slice a.pa c.pn a.pc]] w (Ti 0 5 w) := by
  have HB0 := cb_new hc
  have C1 : Hid (∀ w', Cin w' a c → Calls Tryz.prog 52 #[.agg #[.int .i64 c.F, .int .i64 c.C, .int .i64 c.W, .int .i64 c.S, .int .i64 c.V, .int .i64 c.T, .int .u64 c.k.l1, .int .u64 c.k.llc, .int .u64 c.k.mi, .int .u64 c.k.fa, .int .u64 c.k.st, .int .u64 c.k.di, .int .u64 c.sl, .int .u64 c.pd, .int .u64 c.ft, .slice a.ta c.tn a.tc, .slice a.pa c.pn a.pc]] w' (One (.bool false) w')) := fun w' h => by rw [← hm]; exact rMay_all h
  have hld := HB0.bx.ld
  clear hc
  go_enter Tryz.func33, Tryz.ntmps33
  go_upto_region 1 with fail
  obtain ⟨W, hW, HB⟩ : ∃ W, (w.alloc (.cells #[.int .i64 c.F, .int .i64 c.C, .int .i64 c.W, .int .i64 c.S, .int .i64 c.V, .int .i64 c.T, .int .u64 c.k.l1, .int .u64 c.k.llc, .int .u64 c.k.mi, .int .u64 c.k.fa, .int .u64 c.k.st, .int .u64 c.k.di, .int .u64 c.sl, .int .u64 c.pd, .int .u64 c.ft, .slice a.ta c.tn a.tc, .slice a.pa c.pn a.pc] 28)) = W ∧ Hid (Cb w W w.heap.size a c) := ⟨_, rfl, HB0⟩
  rw [hW] at hld
  rw [hW]
  clear hW HB0
  go_wp2_with (refine wpList_load_at rfl 28 (.tmp 1) rfl _ _ rfl hld ?_)
  refine (C1.out _ HB.out.ci).mono ?_
  rintro _ w1 ⟨rfl, k1⟩
  have H1 : Hid (Cb w w1 w.heap.size a c) := HB.out.below k1
  clear HB k1 hld C1
  go_wp2
  go_ret2
  exact ⟨rfl, H1.out.be⟩
set_option maxRecDepth 20000 in
set_option maxHeartbeats 2000000 in
theorem rSlots_ok {w : World} {a : Ad} {c : Cf} (hc : Cin w a c) (hm : may c = true) : Calls Tryz.prog 33 #[.agg #[.int .i64 c.F, .int .i64 c.C, .int .i64 c.W, .int .i64 c.S, .int .i64 c.V, .int .i64 c.T, .int .u64 c.k.l1, .int .u64 c.k.llc, .int .u64 c.k.mi, .int .u64 c.k.fa, .int .u64 c.k.st, .int .u64 c.k.di, .int .u64 c.sl, .int .u64 c.pd, .int .u64 c.ft, .slice a.ta c.tn a.tc, .slice a.pa c.pn a.pc]] w (Ti (zs c c.pn) 0 w) := by
  have HB0 := cb_new hc
  have hpl := hc.pl
  have hO := may_iff.1 hm
  have C1 : Hid (∀ w', Cin w' a c → Calls Tryz.prog 52 #[.agg #[.int .i64 c.F, .int .i64 c.C, .int .i64 c.W, .int .i64 c.S, .int .i64 c.V, .int .i64 c.T, .int .u64 c.k.l1, .int .u64 c.k.llc, .int .u64 c.k.mi, .int .u64 c.k.fa, .int .u64 c.k.st, .int .u64 c.k.di, .int .u64 c.sl, .int .u64 c.pd, .int .u64 c.ft, .slice a.ta c.tn a.tc, .slice a.pa c.pn a.pc]] w' (One (.bool true) w')) := fun w' h => by rw [← hm]; exact rMay_all h
  have hld := HB0.bx.ld
  have HZ : Hid (∀ i, i < c.pn → 1 ≤ (c.pf i).z ∧ (c.pf i).z ≤ 1024) := fun i hi => ⟨(hO.part hi).z0, (hO.part hi).z1⟩
  have hp8 := hO.pn8
  have HR : Hid (∀ k, k ≤ c.pn → 0 ≤ zs c k ∧ zs c k ≤ 1024 * k) := fun k => by
    induction k with
    | zero => intro _; exact ⟨Int.le_refl _, Int.le_refl _⟩
    | succ k ih =>
      intro hk
      have h1 := ih (by omega)
      have h2 := HZ.out k (by omega)
      simp only [zs]
      omega
  clear hc hO
  go_enter Tryz.func33, Tryz.ntmps33
  go_upto_region 1 with fail
  obtain ⟨W, hW, HB⟩ : ∃ W, (w.alloc (.cells #[.int .i64 c.F, .int .i64 c.C, .int .i64 c.W, .int .i64 c.S, .int .i64 c.V, .int .i64 c.T, .int .u64 c.k.l1, .int .u64 c.k.llc, .int .u64 c.k.mi, .int .u64 c.k.fa, .int .u64 c.k.st, .int .u64 c.k.di, .int .u64 c.sl, .int .u64 c.pd, .int .u64 c.ft, .slice a.ta c.tn a.tc, .slice a.pa c.pn a.pc] 28)) = W ∧ Hid (Cb w W w.heap.size a c) := ⟨_, rfl, HB0⟩
  rw [hW] at hld
  rw [hW]
  clear hW HB0
  go_wp2_with (refine wpList_load_at rfl 28 (.tmp 1) rfl _ _ rfl hld ?_)
  refine (C1.out _ HB.out.ci).mono ?_
  rintro _ w1 ⟨rfl, k1⟩
  have H1 : Hid (Cb w w1 w.heap.size a c) := HB.out.below k1
  clear HB k1 hld C1
  go_wp2
  go_loopw [4, 5] (fun s i wr => ∃ k : Nat, k ≤ c.pn ∧ i = .int .i64 k ∧ s = .int .i64 (zs c k) ∧ wr = w1) (fun _ i _ => c.pn - (intOf i).toNat)
  case atStart => exact ⟨0, by omega, rfl, rfl, rfl⟩
  case round =>
    obtain ⟨k, hk, rfl, rfl, rfl⟩ := hrel
    have c16 := H1.out.bx.c16
    by_cases hlt : k < c.pn
    · obtain ⟨b, off, hq, ⟨_, _, _, _, _, _, _, _, e7⟩⟩ := H1.out.ci.p.at' (show k < c.pn by omega)
      obtain ⟨r0, r1⟩ := HR.out k (by omega)
      obtain ⟨z0, z1⟩ := HZ.out k (by omega)
      have HS : Hid (zs c (k + 1) = zs c k + (c.pf k).z) := rfl
      have hkn : (k : Int) < (c.pn : Int) := by omega
      have hkp : (k : Int) < (c.pn : Int) := by omega
      rw [hq] at c16
      clear hq
      generalize zs c k = S at *
      generalize (c.pf k).z = z at *
      go_wp2
      go_roundw
      case rel => exact ⟨k + 1, by omega, by go_num, by rw [HS.out], by first | rfl | trivial⟩
      case measure => simp [intOf]; omega
    · obtain rfl : k = c.pn := by omega
      go_wp2
      go_ret2
      exact ⟨rfl, H1.out.be⟩
set_option maxRecDepth 20000 in
set_option maxHeartbeats 2000000 in
theorem rShape_no {w : World} {a : Ad} {c : Cf} (hc : Cin w a c) (p : Int) (hf : fe c p ≠ 0) : Calls Tryz.prog 25 #[.agg #[.int .i64 c.F, .int .i64 c.C, .int .i64 c.W, .int .i64 c.S, .int .i64 c.V, .int .i64 c.T, .int .u64 c.k.l1, .int .u64 c.k.llc, .int .u64 c.k.mi, .int .u64 c.k.fa, .int .u64 c.k.st, .int .u64 c.k.di, .int .u64 c.sl, .int .u64 c.pd, .int .u64 c.ft, .slice a.ta c.tn a.tc, .slice a.pa c.pn a.pc], .int .i64 p] w (One (.tuple #[.agg #[.int .i64 0, .int .i64 0, .int .i64 0, .int .i64 0], .int .i64 (fe c p)]) w) := by
  have HB0 := fg_new hc
  have C1 : Hid (∀ w', Cin w' a c → Calls Tryz.prog 56 #[.agg #[.int .i64 c.F, .int .i64 c.C, .int .i64 c.W, .int .i64 c.S, .int .i64 c.V, .int .i64 c.T, .int .u64 c.k.l1, .int .u64 c.k.llc, .int .u64 c.k.mi, .int .u64 c.k.fa, .int .u64 c.k.st, .int .u64 c.k.di, .int .u64 c.sl, .int .u64 c.pd, .int .u64 c.ft, .slice a.ta c.tn a.tc, .slice a.pa c.pn a.pc], .int .i64 p] w' (One (.int .i64 (fe c p)) w')) := fun w' h => rthere_any h p
  have hld := HB0.bx.ld
  have hf2 : (fe c p != 0) = true := by simp [hf]
  clear hc
  generalize fe c p = E at *
  go_enter Tryz.func25, Tryz.ntmps25
  go_upto_region 1 with fail
  obtain ⟨W, hW, HB⟩ : ∃ W, ((w.alloc (.cells #[.int .i64 c.F, .int .i64 c.C, .int .i64 c.W, .int .i64 c.S, .int .i64 c.V, .int .i64 c.T, .int .u64 c.k.l1, .int .u64 c.k.llc, .int .u64 c.k.mi, .int .u64 c.k.fa, .int .u64 c.k.st, .int .u64 c.k.di, .int .u64 c.sl, .int .u64 c.pd, .int .u64 c.ft, .slice a.ta c.tn a.tc, .slice a.pa c.pn a.pc] 28)).alloc (.cells #[.int .i64 0, .int .i64 0, .int .i64 0, .int .i64 0] 53)) = W ∧ Hid (Fg w W a c zS) := ⟨_, rfl, HB0⟩
  rw [hW] at hld
  rw [hW]
  clear hW HB0
  go_wp2_with (refine wpList_load_at rfl 28 (.tmp 2) rfl _ _ rfl hld ?_)
  refine (C1.out _ HB.out.ci).mono ?_
  rintro _ w1 ⟨rfl, k1⟩
  have H2 : Hid (Fg w w1 a c zS) := HB.out.below k1
  clear HB k1 hld C1
  obtain ⟨⟨z0, z1, z2, z3⟩, y0, y1, y2, y3⟩ := H2.out.zs
  go_wp2
  refine bodyPost_ret (v := .tuple #[.agg #[.int .i64 0, .int .i64 0, .int .i64 0, .int .i64 0], .int .i64 E]) (by simp [results, Tryz.results25, go_sem, *]) rfl ⟨rfl, ?_⟩
  exact ((((H2.out.set 0 _).set 1 _).set 2 _).set 3 _).be
set_option maxRecDepth 20000 in
set_option maxHeartbeats 2000000 in
theorem rShape_ok {w : World} {a : Ad} {c : Cf} (hc : Cin w a c) (p : Nat) (hm : may c = true) (hp : p < c.pn) : Calls Tryz.prog 25 #[.agg #[.int .i64 c.F, .int .i64 c.C, .int .i64 c.W, .int .i64 c.S, .int .i64 c.V, .int .i64 c.T, .int .u64 c.k.l1, .int .u64 c.k.llc, .int .u64 c.k.mi, .int .u64 c.k.fa, .int .u64 c.k.st, .int .u64 c.k.di, .int .u64 c.sl, .int .u64 c.pd, .int .u64 c.ft, .slice a.ta c.tn a.tc, .slice a.pa c.pn a.pc], .int .i64 p] w (One (.tuple #[.agg #[.int .i64 (im (c.pf p)), .int .i64 (c.pf p).u, .int .i64 (lim (c.pf p)), .int .i64 (c.pf p).t], .int .i64 0]) w) := by
  have HB0 := fg_new hc
  have hO := may_iff.1 hm
  have k := hO.part hp
  have C1 : Hid (∀ w', Cin w' a c → Calls Tryz.prog 56 #[.agg #[.int .i64 c.F, .int .i64 c.C, .int .i64 c.W, .int .i64 c.S, .int .i64 c.V, .int .i64 c.T, .int .u64 c.k.l1, .int .u64 c.k.llc, .int .u64 c.k.mi, .int .u64 c.k.fa, .int .u64 c.k.st, .int .u64 c.k.di, .int .u64 c.sl, .int .u64 c.pd, .int .u64 c.ft, .slice a.ta c.tn a.tc, .slice a.pa c.pn a.pc], .int .i64 p] w' (One (.int .i64 0) w')) := fun w' h => by
    have := rthere_any h (p : Int)
    rwa [fe_ok hm hp] at this
  have C2 : Hid (∀ w', Cin w' a c → Calls Tryz.prog 57 #[.agg #[.int .i64 c.F, .int .i64 c.C, .int .i64 c.W, .int .i64 c.S, .int .i64 c.V, .int .i64 c.T, .int .u64 c.k.l1, .int .u64 c.k.llc, .int .u64 c.k.mi, .int .u64 c.k.fa, .int .u64 c.k.st, .int .u64 c.k.di, .int .u64 c.sl, .int .u64 c.pd, .int .u64 c.ft, .slice a.ta c.tn a.tc, .slice a.pa c.pn a.pc], .int .i64 p] w' (One (.agg #[.int .i64 (im (c.pf p)), .int .i64 (c.pf p).u, .int .i64 (lim (c.pf p)), .int .i64 (c.pf p).t]) w')) := fun w' h => rshape_ok h p hp k.o0 k.o1 (by have := k.u0; omega) k.u1 (by have := k.z0; omega) k.z1 (by have := k.d0; omega) k.d1
  have hld := HB0.bx.ld
  clear hc hO k hm
  generalize im (c.pf p) = I at *
  generalize lim (c.pf p) = J at *
  generalize c.pf p = x at *
  go_enter Tryz.func25, Tryz.ntmps25
  go_upto_region 1 with fail
  obtain ⟨W, hW, HB⟩ : ∃ W, ((w.alloc (.cells #[.int .i64 c.F, .int .i64 c.C, .int .i64 c.W, .int .i64 c.S, .int .i64 c.V, .int .i64 c.T, .int .u64 c.k.l1, .int .u64 c.k.llc, .int .u64 c.k.mi, .int .u64 c.k.fa, .int .u64 c.k.st, .int .u64 c.k.di, .int .u64 c.sl, .int .u64 c.pd, .int .u64 c.ft, .slice a.ta c.tn a.tc, .slice a.pa c.pn a.pc] 28)).alloc (.cells #[.int .i64 0, .int .i64 0, .int .i64 0, .int .i64 0] 53)) = W ∧ Hid (Fg w W a c zS) := ⟨_, rfl, HB0⟩
  rw [hW] at hld
  rw [hW]
  clear hW HB0
  go_wp2_with (refine wpList_load_at rfl 28 (.tmp 2) rfl _ _ rfl hld ?_)
  refine (C1.out _ HB.out.ci).mono ?_
  rintro _ w1 ⟨rfl, k1⟩
  have H1 : Hid (Fg w w1 a c zS) := HB.out.below k1
  clear HB k1 hld C1
  have hld := H1.out.bx.ld
  go_wp2_with (refine wpList_load_at rfl 28 (.tmp 2) rfl _ _ rfl hld ?_)
  refine (C2.out _ H1.out.ci).mono ?_
  rintro _ w3 ⟨rfl, k3⟩
  have H3 : Hid (Fg w w3 a c zS) := H1.out.below k3
  clear H1 hld k3 C2
  obtain ⟨⟨z0, z1, z2, z3⟩, y0, y1, y2, y3⟩ := H3.out.zs
  go_wp2
  refine bodyPost_ret (v := .tuple #[.agg #[.int .i64 I, .int .i64 x.u, .int .i64 J, .int .i64 x.t], .int .i64 0]) (by simp [results, Tryz.results25, go_sem, *]) rfl ⟨rfl, ?_⟩
  exact ((((H3.out.set 0 _).set 1 _).set 2 _).set 3 _).be
end Go.Proofs.YtcmgjinjfaialaaGreat
