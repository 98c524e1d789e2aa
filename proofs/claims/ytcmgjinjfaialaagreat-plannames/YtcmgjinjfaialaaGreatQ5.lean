/- What plan's Owner, Total, Limit, Shape, Base and Slots give back; no condition but that a configuration lies in memory. -/
import Derived.Test.YtcmgjinjfaialaaGreatQ4
namespace Go.Proofs.YtcmgjinjfaialaaGreat
open Go.ChangeShapes Go.WideShapes Go.ChangeAt Go.RowKit
set_option linter.unusedVariables false

theorem Cf.Ok.part {c : Cf} (h : c.Ok) {p : Nat} (hp : p < c.pn) : POk c p := pBad_iff.1 (h.p p hp)
theorem Cf.Ok.pn8 {c : Cf} (h : c.Ok) : c.pn ≤ 8 := h.m.p2
/-- Which of the first k partitions has a colour. -/
def ow (c : Cf) (x : Int) : Nat → Option Nat
  | 0 => none
  | k + 1 => (ow c x k).or (if has (c.pf k).n (c.pf k).f x then some k else none)
theorem ow_succ_none {c : Cf} {x : Int} {k : Nat} (h : ow c x k = none) : ow c x (k + 1) = if has (c.pf k).n (c.pf k).f x then some k else none := by simp [ow, h]
theorem ow_more {c : Cf} {x : Int} {k n q : Nat} (h : ow c x k = some q) (hk : k ≤ n) : ow c x n = some q := by
  induction n with
  | zero => obtain rfl : k = 0 := by omega
            exact h
  | succ n ih =>
    by_cases e : k = n + 1
    · rw [← e]; exact h
    · simp [ow, ih (by omega)]
def owE (c : Cf) (x : Int) : Int := bif may c then (bif decide (0 ≤ x) && decide (x < c.C) then 0 else 2) else 5
def owP (c : Cf) (x : Int) : Option Nat := if owE c x = 0 then ow c x c.pn else none
/-- What Owner gives back. -/
def owV (o : Option Nat) (e : Int) : Value := .tuple #[.int .i64 ((o.getD 0 : Nat) : Int), .bool o.isSome, .int .i64 e]
set_option maxRecDepth 20000 in
set_option maxHeartbeats 2000000 in
theorem Owner_any {w : World} {a : Ad} {c : Cf} (hc : Cin w a c) (x : Int) : Calls Tryz.prog 22 #[.agg #[.int .i64 c.F, .int .i64 c.C, .int .i64 c.W, .int .i64 c.S, .int .i64 c.V, .int .i64 c.T, .int .u64 c.k.l1, .int .u64 c.k.llc, .int .u64 c.k.mi, .int .u64 c.k.fa, .int .u64 c.k.st, .int .u64 c.k.di, .int .u64 c.sl, .int .u64 c.pd, .int .u64 c.ft, .slice a.ta c.tn a.tc, .slice a.pa c.pn a.pc], .int .i64 x] w (One (owV (owP c x) (owE c x)) w) := by
  have HB0 := cb_new hc
  have hpl := hc.pl
  have C1 : Hid (∀ w', Cin w' a c → Calls Tryz.prog 20 #[.agg #[.int .i64 c.F, .int .i64 c.C, .int .i64 c.W, .int .i64 c.S, .int .i64 c.V, .int .i64 c.T, .int .u64 c.k.l1, .int .u64 c.k.llc, .int .u64 c.k.mi, .int .u64 c.k.fa, .int .u64 c.k.st, .int .u64 c.k.di, .int .u64 c.sl, .int .u64 c.pd, .int .u64 c.ft, .slice a.ta c.tn a.tc, .slice a.pa c.pn a.pc]] w' (One (.bool (may c)) w')) := fun w' h => May_all h
  have HE : Hid (owE c x = bif may c then (bif decide (0 ≤ x) && decide (x < c.C) then 0 else 2) else 5) := rfl
  have HP : Hid (owP c x = if owE c x = 0 then ow c x c.pn else none) := rfl
  have hld := HB0.bx.ld
  have HCL : Hid (∀ i, i < c.pn → (c.pf i).n * 8 ≤ 140737488351232) := hc.cl
  have HMay : Hid (may c = true → 0 < c.pn) := fun h => (may_iff.1 h).m.p1
  clear hc
  generalize may c = bm at *
  generalize owE c x = E at *
  generalize owP c x = O at *
  go_enter Tryz.func22, Tryz.ntmps22
  go_upto_region 1 with fail
  obtain ⟨W, hW, HB⟩ : ∃ W, (w.alloc (.cells #[.int .i64 c.F, .int .i64 c.C, .int .i64 c.W, .int .i64 c.S, .int .i64 c.V, .int .i64 c.T, .int .u64 c.k.l1, .int .u64 c.k.llc, .int .u64 c.k.mi, .int .u64 c.k.fa, .int .u64 c.k.st, .int .u64 c.k.di, .int .u64 c.sl, .int .u64 c.pd, .int .u64 c.ft, .slice a.ta c.tn a.tc, .slice a.pa c.pn a.pc] 28)) = W ∧ Hid (Cb w W w.heap.size a c) := ⟨_, rfl, HB0⟩
  rw [hW] at hld
  rw [hW]
  clear hW HB0
  go_wp2_with (refine wpList_load_at rfl 28 (.tmp 2) rfl _ _ rfl hld ?_)
  refine (C1.out _ HB.out.ci).mono ?_
  rintro _ w1 ⟨rfl, k1⟩
  have H1 : Hid (Cb w w1 w.heap.size a c) := HB.out.below k1
  clear HB k1 hld C1
  cases bm
  · have hE : E = 5 := HE.out
    have hO : O = none := by rw [HP.out, hE]; rfl
    subst hE hO
    go_wp2
    go_ret3
    exact ⟨rfl, H1.out.be⟩
  have c1 := H1.out.bx.c1
  by_cases n1 : x < 0
  · have hE : E = 2 := by rw [HE.out, show (decide (0 ≤ x) && decide (x < c.C)) = false by simp; omega]; rfl
    have hO : O = none := by rw [HP.out, hE]; rfl
    subst hE hO
    go_wp2
    go_ret3
    exact ⟨rfl, H1.out.be⟩
  by_cases n2 : c.C ≤ x
  · have hE : E = 2 := by rw [HE.out, show (decide (0 ≤ x) && decide (x < c.C)) = false by simp; omega]; rfl
    have hO : O = none := by rw [HP.out, hE]; rfl
    subst hE hO
    go_wp2
    go_ret3
    exact ⟨rfl, H1.out.be⟩
  have hE : E = 0 := by
    rw [HE.out, show (decide (0 ≤ x) && decide (x < c.C)) = true by simp; omega]; rfl
  have HO : Hid (O = ow c x c.pn) := by unfold Hid; rw [HP.out, hE]; rfl
  subst hE
  clear HE HP
  have c16 := H1.out.bx.c16
  obtain ⟨b, off, hq, _⟩ := H1.out.ci.p.at' (HMay.out (by first | rfl | trivial))
  have HQ : Hid (a.pa = some ⟨b, off, none⟩) := hq
  rw [hq] at c16
  rw [hq]
  clear hq
  go_wp2
  have R : Hid (Below w.heap.size w w1) := H1.out.be
  go_loopw [23] (fun i wr => ∃ k : Nat, k ≤ c.pn ∧ i = .int .i64 k ∧ ow c x k = none ∧ Cb w wr w.heap.size a c) (fun i _ => c.pn - (intOf i).toNat)
  case atStart => exact ⟨0, by omega, rfl, rfl, H1.out⟩
  case round =>
    clear H1 c1 c16 R
    obtain ⟨k, hk, rfl, hs, hB⟩ := hrel
    have HS : Hid (ow c x k = none) := hs
    have HB : Hid (Cb w wr w.heap.size a c) := hB
    clear hs hB
    by_cases hlt : k < c.pn
    · obtain ⟨b', off', hq, ⟨_, e0, e1, e2, e3, e4, e5, e6, e7⟩⟩ := HB.out.ci.p.at' hlt
      rw [HQ.out] at hq
      cases hq
      have hcol : Arg wr (a.ca k) (c.pf k).n (c.pf k).f := HB.out.ci.p.col hlt
      have HX : Hid (ow c x (k + 1) = if has (c.pf k).n (c.pf k).f x then some k else none) := ow_succ_none HS.out
      have HY : Hid (ow c x (k + 1) = some k → O = some k) := fun h => by rw [HO.out]; exact ow_more h (by omega)
      have hl := HCL.out k hlt
      have CC : Hid (∀ o, Calls Tryz.prog 51 #[.slice (a.ca k) (c.pf k).n (a.cc k), .int .i64 x] (wr.alloc o) fun e w' => e = .returned (.bool (has (c.pf k).n (c.pf k).f x)) ∧ w' = wr.alloc o) := fun o => Contains_any hl (hcol.below (below_new _ _)) x
      have hb2 : Hid (∀ o, Cb w (wr.alloc o) w.heap.size a c) := fun o => HB.out.below (below_new _ _)
      generalize hh : has (c.pf k).n (c.pf k).f x = bo at *
      clear hh hcol
      generalize c.pf k = y at *
      generalize a.ca k = qa at *
      generalize a.cc k = qm at *
      go_wp2_with fail
      refine (CC.out _).mono ?_
      rintro _ w2 ⟨rfl, rfl⟩
      clear CC HB e0 e1 e2 e3 e4 e5 e6 e7
      cases bo
      · have HN : Hid (ow c x (k + 1) = none) := by unfold Hid; rw [HX.out]; rfl
        go_wp2
        go_roundw
        case rel => exact ⟨k + 1, by omega, by go_num, HN.out, hb2.out _⟩
        case measure => simp [intOf]; omega
      · have hO : O = some k := HY.out (by rw [HX.out]; rfl)
        subst hO
        go_wp2
        go_ret3
        exact ⟨rfl, (hb2.out _).be⟩
    · obtain rfl : k = c.pn := by omega
      have hO : O = none := by rw [HO.out]; exact HS.out
      subst hO
      go_wp2
      go_ret3
      exact ⟨rfl, HB.out.be⟩
/-- A number and an errno. -/
def Ti (v e : Int) (w : World) (x : Ending) (w' : World) : Prop := x = .returned (.tuple #[.int .i64 v, .int .i64 e]) ∧ Below w.heap.size w w'
/-- A configuration's box, a partition's behind a call, beside what was there. -/
theorem Cb.alloc {w0 w : World} {g : Nat} {a : Ad} {c : Cf} (h : Cb w0 w g a c) (o : Obj) : Cb w0 (w.alloc o) g a c := h.below (below_new _ _)
set_option maxRecDepth 20000 in
set_option maxHeartbeats 2000000 in
theorem Total_no {w : World} {a : Ad} {c : Cf} (hc : Cin w a c) (p : Int) (hf : fe c p ≠ 0) : Calls Tryz.prog 26 #[.agg #[.int .i64 c.F, .int .i64 c.C, .int .i64 c.W, .int .i64 c.S, .int .i64 c.V, .int .i64 c.T, .int .u64 c.k.l1, .int .u64 c.k.llc, .int .u64 c.k.mi, .int .u64 c.k.fa, .int .u64 c.k.st, .int .u64 c.k.di, .int .u64 c.sl, .int .u64 c.pd, .int .u64 c.ft, .slice a.ta c.tn a.tc, .slice a.pa c.pn a.pc], .int .i64 p] w (Ti 0 (fe c p) w) := by
  have HB0 := cb_new hc
  have C1 : Hid (∀ w', Cin w' a c → Calls Tryz.prog 54 #[.agg #[.int .i64 c.F, .int .i64 c.C, .int .i64 c.W, .int .i64 c.S, .int .i64 c.V, .int .i64 c.T, .int .u64 c.k.l1, .int .u64 c.k.llc, .int .u64 c.k.mi, .int .u64 c.k.fa, .int .u64 c.k.st, .int .u64 c.k.di, .int .u64 c.sl, .int .u64 c.pd, .int .u64 c.ft, .slice a.ta c.tn a.tc, .slice a.pa c.pn a.pc], .int .i64 p] w' (One (.tuple #[.agg #[.slice none 0 0, .int .i64 0, .int .i64 0, .int .i64 0, .int .i64 0, .int .i64 0, .int .i64 0, .int .i64 0], .int .i64 (fe c p)]) w')) := fun w' h => find_no h p hf
  have hld := HB0.bx.ld
  have hf2 : (fe c p != 0) = true := by simp [hf]
  clear hc
  generalize fe c p = E at *
  go_enter Tryz.func26, Tryz.ntmps26
  go_upto_region 1 with fail
  obtain ⟨W, hW, HB⟩ : ∃ W, (w.alloc (.cells #[.int .i64 c.F, .int .i64 c.C, .int .i64 c.W, .int .i64 c.S, .int .i64 c.V, .int .i64 c.T, .int .u64 c.k.l1, .int .u64 c.k.llc, .int .u64 c.k.mi, .int .u64 c.k.fa, .int .u64 c.k.st, .int .u64 c.k.di, .int .u64 c.sl, .int .u64 c.pd, .int .u64 c.ft, .slice a.ta c.tn a.tc, .slice a.pa c.pn a.pc] 28)) = W ∧ Hid (Cb w W w.heap.size a c) := ⟨_, rfl, HB0⟩
  rw [hW] at hld
  rw [hW]
  clear hW HB0
  go_wp2_with (refine wpList_load_at rfl 28 (.tmp 2) rfl _ _ rfl hld ?_)
  refine (C1.out _ HB.out.ci).mono ?_
  rintro _ w1 ⟨rfl, k1⟩
  have H1 : Hid (Cb w w1 w.heap.size a c) := HB.out.below k1
  clear HB k1 hld C1
  go_wp2
  go_ret2
  exact ⟨rfl, (H1.out.alloc _).be⟩
set_option maxRecDepth 20000 in
set_option maxHeartbeats 2000000 in
theorem Limit_no {w : World} {a : Ad} {c : Cf} (hc : Cin w a c) (p : Int) (hf : fe c p ≠ 0) : Calls Tryz.prog 27 #[.agg #[.int .i64 c.F, .int .i64 c.C, .int .i64 c.W, .int .i64 c.S, .int .i64 c.V, .int .i64 c.T, .int .u64 c.k.l1, .int .u64 c.k.llc, .int .u64 c.k.mi, .int .u64 c.k.fa, .int .u64 c.k.st, .int .u64 c.k.di, .int .u64 c.sl, .int .u64 c.pd, .int .u64 c.ft, .slice a.ta c.tn a.tc, .slice a.pa c.pn a.pc], .int .i64 p] w (Ti 0 (fe c p) w) := by
  have HB0 := cb_new hc
  have C1 : Hid (∀ w', Cin w' a c → Calls Tryz.prog 54 #[.agg #[.int .i64 c.F, .int .i64 c.C, .int .i64 c.W, .int .i64 c.S, .int .i64 c.V, .int .i64 c.T, .int .u64 c.k.l1, .int .u64 c.k.llc, .int .u64 c.k.mi, .int .u64 c.k.fa, .int .u64 c.k.st, .int .u64 c.k.di, .int .u64 c.sl, .int .u64 c.pd, .int .u64 c.ft, .slice a.ta c.tn a.tc, .slice a.pa c.pn a.pc], .int .i64 p] w' (One (.tuple #[.agg #[.slice none 0 0, .int .i64 0, .int .i64 0, .int .i64 0, .int .i64 0, .int .i64 0, .int .i64 0, .int .i64 0], .int .i64 (fe c p)]) w')) := fun w' h => find_no h p hf
  have hld := HB0.bx.ld
  have hf2 : (fe c p != 0) = true := by simp [hf]
  clear hc
  generalize fe c p = E at *
  go_enter Tryz.func27, Tryz.ntmps27
  go_upto_region 1 with fail
  obtain ⟨W, hW, HB⟩ : ∃ W, (w.alloc (.cells #[.int .i64 c.F, .int .i64 c.C, .int .i64 c.W, .int .i64 c.S, .int .i64 c.V, .int .i64 c.T, .int .u64 c.k.l1, .int .u64 c.k.llc, .int .u64 c.k.mi, .int .u64 c.k.fa, .int .u64 c.k.st, .int .u64 c.k.di, .int .u64 c.sl, .int .u64 c.pd, .int .u64 c.ft, .slice a.ta c.tn a.tc, .slice a.pa c.pn a.pc] 28)) = W ∧ Hid (Cb w W w.heap.size a c) := ⟨_, rfl, HB0⟩
  rw [hW] at hld
  rw [hW]
  clear hW HB0
  go_wp2_with (refine wpList_load_at rfl 28 (.tmp 2) rfl _ _ rfl hld ?_)
  refine (C1.out _ HB.out.ci).mono ?_
  rintro _ w1 ⟨rfl, k1⟩
  have H1 : Hid (Cb w w1 w.heap.size a c) := HB.out.below k1
  clear HB k1 hld C1
  go_wp2
  go_ret2
  exact ⟨rfl, (H1.out.alloc _).be⟩
set_option maxRecDepth 20000 in
set_option maxHeartbeats 2000000 in
theorem Base_no {w : World} {a : Ad} {c : Cf} (hc : Cin w a c) (p : Int) (hf : fe c p ≠ 0) : Calls Tryz.prog 28 #[.agg #[.int .i64 c.F, .int .i64 c.C, .int .i64 c.W, .int .i64 c.S, .int .i64 c.V, .int .i64 c.T, .int .u64 c.k.l1, .int .u64 c.k.llc, .int .u64 c.k.mi, .int .u64 c.k.fa, .int .u64 c.k.st, .int .u64 c.k.di, .int .u64 c.sl, .int .u64 c.pd, .int .u64 c.ft, .slice a.ta c.tn a.tc, .slice a.pa c.pn a.pc], .int .i64 p] w (Ti 0 (fe c p) w) := by
  have HB0 := cb_new hc
  have C1 : Hid (∀ w', Cin w' a c → Calls Tryz.prog 54 #[.agg #[.int .i64 c.F, .int .i64 c.C, .int .i64 c.W, .int .i64 c.S, .int .i64 c.V, .int .i64 c.T, .int .u64 c.k.l1, .int .u64 c.k.llc, .int .u64 c.k.mi, .int .u64 c.k.fa, .int .u64 c.k.st, .int .u64 c.k.di, .int .u64 c.sl, .int .u64 c.pd, .int .u64 c.ft, .slice a.ta c.tn a.tc, .slice a.pa c.pn a.pc], .int .i64 p] w' (One (.tuple #[.agg #[.slice none 0 0, .int .i64 0, .int .i64 0, .int .i64 0, .int .i64 0, .int .i64 0, .int .i64 0, .int .i64 0], .int .i64 (fe c p)]) w')) := fun w' h => find_no h p hf
  have hld := HB0.bx.ld
  have hf2 : (fe c p != 0) = true := by simp [hf]
  clear hc
  generalize fe c p = E at *
  go_enter Tryz.func28, Tryz.ntmps28
  go_upto_region 1 with fail
  obtain ⟨W, hW, HB⟩ : ∃ W, (w.alloc (.cells #[.int .i64 c.F, .int .i64 c.C, .int .i64 c.W, .int .i64 c.S, .int .i64 c.V, .int .i64 c.T, .int .u64 c.k.l1, .int .u64 c.k.llc, .int .u64 c.k.mi, .int .u64 c.k.fa, .int .u64 c.k.st, .int .u64 c.k.di, .int .u64 c.sl, .int .u64 c.pd, .int .u64 c.ft, .slice a.ta c.tn a.tc, .slice a.pa c.pn a.pc] 28)) = W ∧ Hid (Cb w W w.heap.size a c) := ⟨_, rfl, HB0⟩
  rw [hW] at hld
  rw [hW]
  clear hW HB0
  go_wp2_with (refine wpList_load_at rfl 28 (.tmp 2) rfl _ _ rfl hld ?_)
  refine (C1.out _ HB.out.ci).mono ?_
  rintro _ w1 ⟨rfl, k1⟩
  have H1 : Hid (Cb w w1 w.heap.size a c) := HB.out.below k1
  clear HB k1 hld C1
  go_wp2
  go_ret2
  exact ⟨rfl, (H1.out.alloc _).be⟩
set_option maxRecDepth 20000 in
set_option maxHeartbeats 2000000 in
theorem Total_ok {w : World} {a : Ad} {c : Cf} (hc : Cin w a c) (p : Nat) (hm : may c = true) (hp : p < c.pn) : Calls Tryz.prog 26 #[.agg #[.int .i64 c.F, .int .i64 c.C, .int .i64 c.W, .int .i64 c.S, .int .i64 c.V, .int .i64 c.T, .int .u64 c.k.l1, .int .u64 c.k.llc, .int .u64 c.k.mi, .int .u64 c.k.fa, .int .u64 c.k.st, .int .u64 c.k.di, .int .u64 c.sl, .int .u64 c.pd, .int .u64 c.ft, .slice a.ta c.tn a.tc, .slice a.pa c.pn a.pc], .int .i64 p] w (Ti ((c.pf p).n * (c.F / c.C)) 0 w) := by
  have HB0 := cb_new hc
  have hpl := hc.pl
  have hO := may_iff.1 hm
  have k := hO.part hp
  have C1 : Hid (∀ w', Cin w' a c → Calls Tryz.prog 54 #[.agg #[.int .i64 c.F, .int .i64 c.C, .int .i64 c.W, .int .i64 c.S, .int .i64 c.V, .int .i64 c.T, .int .u64 c.k.l1, .int .u64 c.k.llc, .int .u64 c.k.mi, .int .u64 c.k.fa, .int .u64 c.k.st, .int .u64 c.k.di, .int .u64 c.sl, .int .u64 c.pd, .int .u64 c.ft, .slice a.ta c.tn a.tc, .slice a.pa c.pn a.pc], .int .i64 p] w' (One (.tuple #[.agg #[.slice (a.ca p) (c.pf p).n (a.cc p), .int .i64 (c.pf p).o, .int .i64 (c.pf p).u, .int .i64 (c.pf p).t, .int .i64 (c.pf p).s, .int .i64 (c.pf p).r, .int .i64 (c.pf p).d, .int .i64 (c.pf p).z], .int .i64 0]) w')) := fun w' h => find_ok h p hm hp
  have C2 : Hid (∀ w', Cin w' a c → Calls Tryz.prog 58 #[.agg #[.int .i64 c.F, .int .i64 c.C, .int .i64 c.W, .int .i64 c.S, .int .i64 c.V, .int .i64 c.T, .int .u64 c.k.l1, .int .u64 c.k.llc, .int .u64 c.k.mi, .int .u64 c.k.fa, .int .u64 c.k.st, .int .u64 c.k.di, .int .u64 c.sl, .int .u64 c.pd, .int .u64 c.ft, .slice a.ta c.tn a.tc, .slice a.pa c.pn a.pc], .agg #[.slice (a.ca p) (c.pf p).n (a.cc p), .int .i64 (c.pf p).o, .int .i64 (c.pf p).u, .int .i64 (c.pf p).t, .int .i64 (c.pf p).s, .int .i64 (c.pf p).r, .int .i64 (c.pf p).d, .int .i64 (c.pf p).z]] w' (One (.int .i64 ((c.pf p).n * (c.F / c.C))) w')) := fun w' h => total_ok h hO.m (h.p.col hp) k.ri
  have hld := HB0.bx.ld
  clear hc hO k hm
  go_enter Tryz.func26, Tryz.ntmps26
  go_upto_region 1 with fail
  obtain ⟨W, hW, HB⟩ : ∃ W, (w.alloc (.cells #[.int .i64 c.F, .int .i64 c.C, .int .i64 c.W, .int .i64 c.S, .int .i64 c.V, .int .i64 c.T, .int .u64 c.k.l1, .int .u64 c.k.llc, .int .u64 c.k.mi, .int .u64 c.k.fa, .int .u64 c.k.st, .int .u64 c.k.di, .int .u64 c.sl, .int .u64 c.pd, .int .u64 c.ft, .slice a.ta c.tn a.tc, .slice a.pa c.pn a.pc] 28)) = W ∧ Hid (Cb w W w.heap.size a c) := ⟨_, rfl, HB0⟩
  rw [hW] at hld
  rw [hW]
  clear hW HB0
  go_wp2_with (refine wpList_load_at rfl 28 (.tmp 2) rfl _ _ rfl hld ?_)
  refine (C1.out _ HB.out.ci).mono ?_
  rintro _ w1 ⟨rfl, k1⟩
  have H1 : Hid (Cb w w1 w.heap.size a c) := HB.out.below k1
  clear HB k1 hld C1
  obtain ⟨W2, hW2, H2, hx⟩ : ∃ W2, (w1.alloc (.cells #[.slice (a.ca p) (c.pf p).n (a.cc p), .int .i64 (c.pf p).o, .int .i64 (c.pf p).u, .int .i64 (c.pf p).t, .int .i64 (c.pf p).s, .int .i64 (c.pf p).r, .int .i64 (c.pf p).d, .int .i64 (c.pf p).z] 40)) = W2 ∧ Hid (Cb w W2 w.heap.size a c) ∧ Hid (Ebx W2 w1.heap.size (a.ca p) (a.cc p) (c.pf p)) := ⟨_, rfl, H1.out.alloc _, ebx_new _ _ _ _⟩
  go_upto_region 4 with fail
  clear hW2
  have hld := H2.out.bx.ld
  have hlp := hx.out.ld
  go_wp2_with (first | refine wpList_load_at rfl 28 (.tmp 2) rfl _ _ rfl hld ?_ | refine wpList_load_at rfl 40 (.tmp 6) rfl _ _ rfl hlp ?_)
  refine (C2.out _ H2.out.ci).mono ?_
  rintro _ w3 ⟨rfl, k3⟩
  have FIN : Hid (Below w.heap.size w w3) := H2.out.be.trans (k3.mono H2.out.be.size)
  clear H1 H2 hx hld hlp k3 C2
  go_wp2
  go_ret2
  exact ⟨rfl, FIN.out⟩
set_option maxRecDepth 20000 in
set_option maxHeartbeats 2000000 in
theorem Limit_ok {w : World} {a : Ad} {c : Cf} (hc : Cin w a c) (p : Nat) (hm : may c = true) (hp : p < c.pn) : Calls Tryz.prog 27 #[.agg #[.int .i64 c.F, .int .i64 c.C, .int .i64 c.W, .int .i64 c.S, .int .i64 c.V, .int .i64 c.T, .int .u64 c.k.l1, .int .u64 c.k.llc, .int .u64 c.k.mi, .int .u64 c.k.fa, .int .u64 c.k.st, .int .u64 c.k.di, .int .u64 c.sl, .int .u64 c.pd, .int .u64 c.ft, .slice a.ta c.tn a.tc, .slice a.pa c.pn a.pc], .int .i64 p] w (Ti (lim (c.pf p)) 0 w) := by
  have HB0 := cb_new hc
  have hpl := hc.pl
  have hO := may_iff.1 hm
  have k := hO.part hp
  have C1 : Hid (∀ w', Cin w' a c → Calls Tryz.prog 54 #[.agg #[.int .i64 c.F, .int .i64 c.C, .int .i64 c.W, .int .i64 c.S, .int .i64 c.V, .int .i64 c.T, .int .u64 c.k.l1, .int .u64 c.k.llc, .int .u64 c.k.mi, .int .u64 c.k.fa, .int .u64 c.k.st, .int .u64 c.k.di, .int .u64 c.sl, .int .u64 c.pd, .int .u64 c.ft, .slice a.ta c.tn a.tc, .slice a.pa c.pn a.pc], .int .i64 p] w' (One (.tuple #[.agg #[.slice (a.ca p) (c.pf p).n (a.cc p), .int .i64 (c.pf p).o, .int .i64 (c.pf p).u, .int .i64 (c.pf p).t, .int .i64 (c.pf p).s, .int .i64 (c.pf p).r, .int .i64 (c.pf p).d, .int .i64 (c.pf p).z], .int .i64 0]) w')) := fun w' h => find_ok h p hm hp
  have C2 : Hid (∀ w', Calls Tryz.prog 59 #[.agg #[.slice (a.ca p) (c.pf p).n (a.cc p), .int .i64 (c.pf p).o, .int .i64 (c.pf p).u, .int .i64 (c.pf p).t, .int .i64 (c.pf p).s, .int .i64 (c.pf p).r, .int .i64 (c.pf p).d, .int .i64 (c.pf p).z]] w' (One (.int .i64 (lim (c.pf p))) w')) := fun w' => limit_ok (by have := k.u0; omega) k.u1 (by have := k.z0; omega) k.z1 (by have := k.d0; omega) k.d1
  have hld := HB0.bx.ld
  clear hc hO k hm
  go_enter Tryz.func27, Tryz.ntmps27
  go_upto_region 1 with fail
  obtain ⟨W, hW, HB⟩ : ∃ W, (w.alloc (.cells #[.int .i64 c.F, .int .i64 c.C, .int .i64 c.W, .int .i64 c.S, .int .i64 c.V, .int .i64 c.T, .int .u64 c.k.l1, .int .u64 c.k.llc, .int .u64 c.k.mi, .int .u64 c.k.fa, .int .u64 c.k.st, .int .u64 c.k.di, .int .u64 c.sl, .int .u64 c.pd, .int .u64 c.ft, .slice a.ta c.tn a.tc, .slice a.pa c.pn a.pc] 28)) = W ∧ Hid (Cb w W w.heap.size a c) := ⟨_, rfl, HB0⟩
  rw [hW] at hld
  rw [hW]
  clear hW HB0
  go_wp2_with (refine wpList_load_at rfl 28 (.tmp 2) rfl _ _ rfl hld ?_)
  refine (C1.out _ HB.out.ci).mono ?_
  rintro _ w1 ⟨rfl, k1⟩
  have H1 : Hid (Cb w w1 w.heap.size a c) := HB.out.below k1
  clear HB k1 hld C1
  obtain ⟨W2, hW2, H2, hx⟩ : ∃ W2, (w1.alloc (.cells #[.slice (a.ca p) (c.pf p).n (a.cc p), .int .i64 (c.pf p).o, .int .i64 (c.pf p).u, .int .i64 (c.pf p).t, .int .i64 (c.pf p).s, .int .i64 (c.pf p).r, .int .i64 (c.pf p).d, .int .i64 (c.pf p).z] 40)) = W2 ∧ Hid (Cb w W2 w.heap.size a c) ∧ Hid (Ebx W2 w1.heap.size (a.ca p) (a.cc p) (c.pf p)) := ⟨_, rfl, H1.out.alloc _, ebx_new _ _ _ _⟩
  go_upto_region 4 with fail
  clear hW2
  have hlp := hx.out.ld
  go_wp2_with (first | refine wpList_load_at rfl 40 (.tmp 6) rfl _ _ rfl hlp ?_)
  refine (C2.out _).mono ?_
  rintro _ w3 ⟨rfl, k3⟩
  have FIN : Hid (Below w.heap.size w w3) := H2.out.be.trans (k3.mono H2.out.be.size)
  clear H1 H2 hx hlp k3 C2
  go_wp2
  go_ret2
  exact ⟨rfl, FIN.out⟩
set_option maxRecDepth 20000 in
set_option maxHeartbeats 2000000 in
theorem Base_ok {w : World} {a : Ad} {c : Cf} (hc : Cin w a c) (p : Nat) (hm : may c = true) (hp : p < c.pn) : Calls Tryz.prog 28 #[.agg #[.int .i64 c.F, .int .i64 c.C, .int .i64 c.W, .int .i64 c.S, .int .i64 c.V, .int .i64 c.T, .int .u64 c.k.l1, .int .u64 c.k.llc, .int .u64 c.k.mi, .int .u64 c.k.fa, .int .u64 c.k.st, .int .u64 c.k.di, .int .u64 c.sl, .int .u64 c.pd, .int .u64 c.ft, .slice a.ta c.tn a.tc, .slice a.pa c.pn a.pc], .int .i64 p] w (Ti (zs c p) 0 w) := by
  have HB0 := cb_new hc
  have hpl := hc.pl
  have hO := may_iff.1 hm
  have k := hO.part hp
  have C1 : Hid (∀ w', Cin w' a c → Calls Tryz.prog 54 #[.agg #[.int .i64 c.F, .int .i64 c.C, .int .i64 c.W, .int .i64 c.S, .int .i64 c.V, .int .i64 c.T, .int .u64 c.k.l1, .int .u64 c.k.llc, .int .u64 c.k.mi, .int .u64 c.k.fa, .int .u64 c.k.st, .int .u64 c.k.di, .int .u64 c.sl, .int .u64 c.pd, .int .u64 c.ft, .slice a.ta c.tn a.tc, .slice a.pa c.pn a.pc], .int .i64 p] w' (One (.tuple #[.agg #[.slice (a.ca p) (c.pf p).n (a.cc p), .int .i64 (c.pf p).o, .int .i64 (c.pf p).u, .int .i64 (c.pf p).t, .int .i64 (c.pf p).s, .int .i64 (c.pf p).r, .int .i64 (c.pf p).d, .int .i64 (c.pf p).z], .int .i64 0]) w')) := fun w' h => find_ok h p hm hp
  have C2 : Hid (∀ w', Cin w' a c → Calls Tryz.prog 60 #[.slice a.pa p a.pc] w' (One (.int .i64 (zs c p)) w')) := fun w' h => slots_ok (h.p.less (by omega)) (by have := hO.pn8; omega) (fun i hi => ⟨(hO.part (show i < c.pn by omega)).z0, (hO.part (show i < c.pn by omega)).z1⟩)
  have hple := hc.ple
  have hpc : p ≤ a.pc := by omega
  have hpc1 : (p : Int) ≤ (a.pc : Int) := by omega
  have hld := HB0.bx.ld
  clear hc hO k hm
  go_enter Tryz.func28, Tryz.ntmps28
  go_upto_region 1 with fail
  obtain ⟨W, hW, HB⟩ : ∃ W, (w.alloc (.cells #[.int .i64 c.F, .int .i64 c.C, .int .i64 c.W, .int .i64 c.S, .int .i64 c.V, .int .i64 c.T, .int .u64 c.k.l1, .int .u64 c.k.llc, .int .u64 c.k.mi, .int .u64 c.k.fa, .int .u64 c.k.st, .int .u64 c.k.di, .int .u64 c.sl, .int .u64 c.pd, .int .u64 c.ft, .slice a.ta c.tn a.tc, .slice a.pa c.pn a.pc] 28)) = W ∧ Hid (Cb w W w.heap.size a c) := ⟨_, rfl, HB0⟩
  rw [hW] at hld
  rw [hW]
  clear hW HB0
  go_wp2_with (refine wpList_load_at rfl 28 (.tmp 2) rfl _ _ rfl hld ?_)
  refine (C1.out _ HB.out.ci).mono ?_
  rintro _ w1 ⟨rfl, k1⟩
  have H1 : Hid (Cb w w1 w.heap.size a c) := HB.out.below k1
  clear HB k1 hld C1
  have H2 : Hid (Cb w (w1.alloc (.cells #[.slice (a.ca p) (c.pf p).n (a.cc p), .int .i64 (c.pf p).o, .int .i64 (c.pf p).u, .int .i64 (c.pf p).t, .int .i64 (c.pf p).s, .int .i64 (c.pf p).r, .int .i64 (c.pf p).d, .int .i64 (c.pf p).z] 40)) w.heap.size a c) := H1.out.alloc _
  go_upto_region 4 with fail
  generalize w1.alloc (.cells #[.slice (a.ca p) (c.pf p).n (a.cc p), .int .i64 (c.pf p).o, .int .i64 (c.pf p).u, .int .i64 (c.pf p).t, .int .i64 (c.pf p).s, .int .i64 (c.pf p).r, .int .i64 (c.pf p).d, .int .i64 (c.pf p).z] 40) = W2 at *
  have c16 := H2.out.bx.c16
  go_wp2_with fail
  refine (C2.out _ H2.out.ci).mono ?_
  rintro _ w3 ⟨rfl, k3⟩
  have FIN : Hid (Below w.heap.size w w3) := H2.out.be.trans (k3.mono H2.out.be.size)
  clear H1 H2 c16 k3 C2
  go_wp2
  go_ret2
  exact ⟨rfl, FIN.out⟩
set_option maxRecDepth 20000 in
set_option maxHeartbeats 2000000 in
theorem Slots_no {w : World} {a : Ad} {c : Cf} (hc : Cin w a c) (hm : may c = false) : Calls Tryz.prog 29 #[.agg #[.int .i64 c.F, .int .i64 c.C, .int .i64 c.W, .int .i64 c.S, .int .i64 c.V, .int .i64 c.T, .int .u64 c.k.l1, .int .u64 c.k.llc, .int .u64 c.k.mi, .int .u64 c.k.fa, .int .u64 c.k.st, .int .u64 c.k.di, .int .u64 c.sl, .int .u64 c.pd, .int .u64 c.ft, .slice a.ta c.tn a.tc, .slice a.pa c.pn a.pc]] w (Ti 0 5 w) := by
  have HB0 := cb_new hc
  have C1 : Hid (∀ w', Cin w' a c → Calls Tryz.prog 20 #[.agg #[.int .i64 c.F, .int .i64 c.C, .int .i64 c.W, .int .i64 c.S, .int .i64 c.V, .int .i64 c.T, .int .u64 c.k.l1, .int .u64 c.k.llc, .int .u64 c.k.mi, .int .u64 c.k.fa, .int .u64 c.k.st, .int .u64 c.k.di, .int .u64 c.sl, .int .u64 c.pd, .int .u64 c.ft, .slice a.ta c.tn a.tc, .slice a.pa c.pn a.pc]] w' (One (.bool false) w')) := fun w' h => by rw [← hm]; exact May_all h
  have hld := HB0.bx.ld
  clear hc
  go_enter Tryz.func29, Tryz.ntmps29
  go_upto_region 1 with fail
  obtain ⟨W, hW, HB⟩ : ∃ W, (w.alloc (.cells #[.int .i64 c.F, .int .i64 c.C, .int .i64 c.W, .int .i64 c.S, .int .i64 c.V, .int .i64 c.T, .int .u64 c.k.l1, .int .u64 c.k.llc, .int .u64 c.k.mi, .int .u64 c.k.fa, .int .u64 c.k.st, .int .u64 c.k.di, .int .u64 c.sl, .int .u64 c.pd, .int .u64 c.ft, .slice a.ta c.tn a.tc, .slice a.pa c.pn a.pc] 28)) = W ∧ Hid (Cb w W w.heap.size a c) := ⟨_, rfl, HB0⟩
  rw [hW] at hld
  rw [hW]
  clear hW HB0
  go_wp2_with (refine wpList_load_at rfl 28 (.tmp 1) rfl _ _ rfl hld ?_)
  refine (C1.out _ HB.out.ci).mono ?_
  rintro _ w1 ⟨rfl, k1⟩
  have H1 : Hid (Cb w w1 w.heap.size a c) := HB.out.below k1
  clear HB k1 hld C1
  go_wp2
  go_ret2
  exact ⟨rfl, H1.out.be⟩
set_option maxRecDepth 20000 in
set_option maxHeartbeats 2000000 in
theorem Slots_ok {w : World} {a : Ad} {c : Cf} (hc : Cin w a c) (hm : may c = true) : Calls Tryz.prog 29 #[.agg #[.int .i64 c.F, .int .i64 c.C, .int .i64 c.W, .int .i64 c.S, .int .i64 c.V, .int .i64 c.T, .int .u64 c.k.l1, .int .u64 c.k.llc, .int .u64 c.k.mi, .int .u64 c.k.fa, .int .u64 c.k.st, .int .u64 c.k.di, .int .u64 c.sl, .int .u64 c.pd, .int .u64 c.ft, .slice a.ta c.tn a.tc, .slice a.pa c.pn a.pc]] w (Ti (zs c c.pn) 0 w) := by
  have HB0 := cb_new hc
  have hpl := hc.pl
  have hO := may_iff.1 hm
  have C1 : Hid (∀ w', Cin w' a c → Calls Tryz.prog 20 #[.agg #[.int .i64 c.F, .int .i64 c.C, .int .i64 c.W, .int .i64 c.S, .int .i64 c.V, .int .i64 c.T, .int .u64 c.k.l1, .int .u64 c.k.llc, .int .u64 c.k.mi, .int .u64 c.k.fa, .int .u64 c.k.st, .int .u64 c.k.di, .int .u64 c.sl, .int .u64 c.pd, .int .u64 c.ft, .slice a.ta c.tn a.tc, .slice a.pa c.pn a.pc]] w' (One (.bool true) w')) := fun w' h => by rw [← hm]; exact May_all h
  have C2 : Hid (∀ w', Cin w' a c → Calls Tryz.prog 60 #[.slice a.pa c.pn a.pc] w' (One (.int .i64 (zs c c.pn)) w')) := fun w' h => slots_ok h.p hO.pn8 (fun i hi => ⟨(hO.part hi).z0, (hO.part hi).z1⟩)
  have hld := HB0.bx.ld
  clear hc hO
  go_enter Tryz.func29, Tryz.ntmps29
  go_upto_region 1 with fail
  obtain ⟨W, hW, HB⟩ : ∃ W, (w.alloc (.cells #[.int .i64 c.F, .int .i64 c.C, .int .i64 c.W, .int .i64 c.S, .int .i64 c.V, .int .i64 c.T, .int .u64 c.k.l1, .int .u64 c.k.llc, .int .u64 c.k.mi, .int .u64 c.k.fa, .int .u64 c.k.st, .int .u64 c.k.di, .int .u64 c.sl, .int .u64 c.pd, .int .u64 c.ft, .slice a.ta c.tn a.tc, .slice a.pa c.pn a.pc] 28)) = W ∧ Hid (Cb w W w.heap.size a c) := ⟨_, rfl, HB0⟩
  rw [hW] at hld
  rw [hW]
  clear hW HB0
  go_wp2_with (refine wpList_load_at rfl 28 (.tmp 1) rfl _ _ rfl hld ?_)
  refine (C1.out _ HB.out.ci).mono ?_
  rintro _ w1 ⟨rfl, k1⟩
  have H1 : Hid (Cb w w1 w.heap.size a c) := HB.out.below k1
  clear HB k1 hld C1
  have c16 := H1.out.bx.c16
  go_wp2_with fail
  refine (C2.out _ H1.out.ci).mono ?_
  rintro _ w3 ⟨rfl, k3⟩
  have FIN : Hid (Below w.heap.size w w3) := H1.out.be.trans (k3.mono H1.out.be.size)
  clear H1 c16 k3 C2
  go_wp2
  go_ret2
  exact ⟨rfl, FIN.out⟩
end Go.Proofs.YtcmgjinjfaialaaGreat
