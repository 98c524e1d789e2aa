/- PlanLess' walk; no condition but that the configuration and the list lie in memory, and the ranges. -/
import Derived.Test.YtcmgjinjfaialaaPc
import Derived.Test.YtcmgjinjfaialaaLe
import Derived.Test.YtcmgjinjfaialaaLc
namespace Go.Proofs.Ytcmgjinjfaialaa
open Go.ChangeShapes Go.WideShapes Go.ChangeAt Go.RowKit
set_option linter.unusedVariables false

/-- A number's remainder. -/
theorem rest_any (k n : Int) (h0 : 0 < n) (h1 : n < 4611686018427387904) (hk0 : -9223372036854775808 ≤ k) (hk1 : k < 9223372036854775808) (w : World) :
    Calls Try.prog 27 #[.int .i64 k, .int .i64 n] w fun e w' => e = .returned (.int .i64 (k % n)) ∧ w' = w := by
  have h2 : -n < k.tmod n := Int.lt_tmod_of_pos k h0
  have h3 : k.tmod n < n := Int.tmod_lt_of_pos k h0
  have HE : Hid (k % n = if k.tmod n < 0 then k.tmod n + n else k.tmod n) := by
    unfold Hid
    have e : k % n = (k.tmod n) % n := by
      rw [Int.tmod_eq_emod]
      split
      · simp
      · rw [Int.natAbs_of_nonneg (by omega), Int.sub_emod_right, Int.emod_emod]
    rw [e]
    split
    · rw [← Int.add_emod_right]
      exact Int.emod_eq_of_lt (by omega) (by omega)
    · exact Int.emod_eq_of_lt (by omega) (by omega)
  rw [HE.out]
  clear HE
  by_cases hn : k.tmod n < 0
  · rw [if_pos hn]
    go_enter Try.func27, Try.ntmps27
    go_wp2
    go_ret
    exact ⟨rfl, rfl⟩
  · rw [if_neg hn]
    go_enter Try.func27, Try.ntmps27
    go_wp2
    go_ret
    exact ⟨rfl, rfl⟩
/-- A partition in a box, its quotas not above another's. -/
structure Lq (wy wr : World) (g : Nat) (q : Option Addr) (m : Nat) (y x : Pa) : Prop where
  be : Below wy.heap.size wy wr
  lo : wy.heap.size ≤ g
  bl : Blk wr g 52 (pC q m y)
  l : Lo y x
theorem Lq.set2 {wy wr : World} {g : Nat} {q : Option Addr} {m : Nat} {y x : Pa} (h : Lq wy wr g q m y x) (v : Int) (h0 : 2 ≤ v) (h1 : v ≤ y.u) : Lq wy (wr.setCell ⟨g, 2, none⟩ (.int .i64 v)) g q m { y with u := v } x :=
  ⟨h.be.trans (below_setCell h.lo h.be.size 2 _), h.lo, h.bl.set 2 _, ⟨h.l.n, h.l.f, h.l.o, h0, Int.le_trans h1 h.l.u1, h.l.t0, h.l.t1, h.l.s0, h.l.s1, h.l.r0, h.l.r1, h.l.d0, h.l.d1, h.l.z0, h.l.z1⟩⟩
theorem Lq.set3 {wy wr : World} {g : Nat} {q : Option Addr} {m : Nat} {y x : Pa} (h : Lq wy wr g q m y x) (v : Int) (h0 : 4 ≤ v) (h1 : v ≤ y.t) : Lq wy (wr.setCell ⟨g, 3, none⟩ (.int .i64 v)) g q m { y with t := v } x :=
  ⟨h.be.trans (below_setCell h.lo h.be.size 3 _), h.lo, h.bl.set 3 _, ⟨h.l.n, h.l.f, h.l.o, h.l.u0, h.l.u1, h0, Int.le_trans h1 h.l.t1, h.l.s0, h.l.s1, h.l.r0, h.l.r1, h.l.d0, h.l.d1, h.l.z0, h.l.z1⟩⟩
theorem Lq.set4 {wy wr : World} {g : Nat} {q : Option Addr} {m : Nat} {y x : Pa} (h : Lq wy wr g q m y x) (v : Int) (h0 : 1 ≤ v) (h1 : v ≤ y.s) : Lq wy (wr.setCell ⟨g, 4, none⟩ (.int .i64 v)) g q m { y with s := v } x :=
  ⟨h.be.trans (below_setCell h.lo h.be.size 4 _), h.lo, h.bl.set 4 _, ⟨h.l.n, h.l.f, h.l.o, h.l.u0, h.l.u1, h.l.t0, h.l.t1, h0, Int.le_trans h1 h.l.s1, h.l.r0, h.l.r1, h.l.d0, h.l.d1, h.l.z0, h.l.z1⟩⟩
theorem Lq.set5 {wy wr : World} {g : Nat} {q : Option Addr} {m : Nat} {y x : Pa} (h : Lq wy wr g q m y x) (v : Int) (h0 : 1 ≤ v) (h1 : v ≤ y.r) : Lq wy (wr.setCell ⟨g, 5, none⟩ (.int .i64 v)) g q m { y with r := v } x :=
  ⟨h.be.trans (below_setCell h.lo h.be.size 5 _), h.lo, h.bl.set 5 _, ⟨h.l.n, h.l.f, h.l.o, h.l.u0, h.l.u1, h.l.t0, h.l.t1, h.l.s0, h.l.s1, h0, Int.le_trans h1 h.l.r1, h.l.d0, h.l.d1, h.l.z0, h.l.z1⟩⟩
theorem Lq.set6 {wy wr : World} {g : Nat} {q : Option Addr} {m : Nat} {y x : Pa} (h : Lq wy wr g q m y x) (v : Int) (h0 : 1 ≤ v) (h1 : v ≤ y.d) : Lq wy (wr.setCell ⟨g, 6, none⟩ (.int .i64 v)) g q m { y with d := v } x :=
  ⟨h.be.trans (below_setCell h.lo h.be.size 6 _), h.lo, h.bl.set 6 _, ⟨h.l.n, h.l.f, h.l.o, h.l.u0, h.l.u1, h.l.t0, h.l.t1, h.l.s0, h.l.s1, h.l.r0, h.l.r1, h0, Int.le_trans h1 h.l.d1, h.l.z0, h.l.z1⟩⟩
theorem Lq.set7 {wy wr : World} {g : Nat} {q : Option Addr} {m : Nat} {y x : Pa} (h : Lq wy wr g q m y x) (v : Int) (h0 : 1 ≤ v) (h1 : v ≤ y.z) : Lq wy (wr.setCell ⟨g, 7, none⟩ (.int .i64 v)) g q m { y with z := v } x :=
  ⟨h.be.trans (below_setCell h.lo h.be.size 7 _), h.lo, h.bl.set 7 _, ⟨h.l.n, h.l.f, h.l.o, h.l.u0, h.l.u1, h.l.t0, h.l.t1, h.l.s0, h.l.s1, h.l.r0, h.l.r1, h.l.d0, h.l.d1, h0, Int.le_trans h1 h.l.z1⟩⟩
set_option maxRecDepth 100000 in
set_option maxHeartbeats 8000000 in
theorem PlanLess_any {w : World} {a : Ad} {c : Cf} (hc : Cin w a c) (p : Int) (hp0 : -9223372036854775808 ≤ p) (hp1 : p ≤ 9223372036854775807) {q : Option Addr} {l cap : Nat} {f : Nat → Int} (hq : Arg w q l f) (hl : l * 8 ≤ 140737488351232)
    (hf : ∀ i, i < l → -9223372036854775808 ≤ f i ∧ f i ≤ 9223372036854775807) : Calls Try.prog 6 #[.agg #[.int .i64 c.F, .int .i64 c.C, .int .i64 c.W, .int .i64 c.S, .int .i64 c.V, .int .i64 c.T, .int .u64 c.k.l1, .int .u64 c.k.llc, .int .u64 c.k.mi, .int .u64 c.k.fa, .int .u64 c.k.st, .int .u64 c.k.di, .int .u64 c.sl, .int .u64 c.pd, .int .u64 c.ft, .slice a.ta c.tn a.tc, .slice a.pa c.pn a.pc], .int .i64 p, .slice q l cap] w (One (.bool true) w) := by
  have HB0 := cb_new hc
  have HQ : Hid (Arg w q l f) := hq
  have HF : Hid (∀ i, i < l → -9223372036854775808 ≤ f i ∧ f i ≤ 9223372036854775807) := hf
  have CP : Hid (∀ w', Cin w' a c → Calls Try.prog 7 #[.agg #[.int .i64 c.F, .int .i64 c.C, .int .i64 c.W, .int .i64 c.S, .int .i64 c.V, .int .i64 c.T, .int .u64 c.k.l1, .int .u64 c.k.llc, .int .u64 c.k.mi, .int .u64 c.k.fa, .int .u64 c.k.st, .int .u64 c.k.di, .int .u64 c.sl, .int .u64 c.pd, .int .u64 c.ft, .slice a.ta c.tn a.tc, .slice a.pa c.pn a.pc]] w' fun e w'' => ∃ a', e = .returned (.agg #[.int .i64 c.F, .int .i64 c.C, .int .i64 c.W, .int .i64 c.S, .int .i64 c.V, .int .i64 c.T, .int .u64 c.k.l1, .int .u64 c.k.llc, .int .u64 c.k.mi, .int .u64 c.k.fa, .int .u64 c.k.st, .int .u64 c.k.di, .int .u64 c.sl, .int .u64 c.pd, .int .u64 c.ft, .slice a'.ta c.tn a'.tc, .slice a'.pa c.pn a'.pc]) ∧ Cpd w' c w'' a') := fun w' h => Copy_any h
  have C3 : Hid (∀ w', Cin w' a c → Calls Try.prog 11 #[.agg #[.int .i64 c.F, .int .i64 c.C, .int .i64 c.W, .int .i64 c.S, .int .i64 c.V, .int .i64 c.T, .int .u64 c.k.l1, .int .u64 c.k.llc, .int .u64 c.k.mi, .int .u64 c.k.fa, .int .u64 c.k.st, .int .u64 c.k.di, .int .u64 c.sl, .int .u64 c.pd, .int .u64 c.ft, .slice a.ta c.tn a.tc, .slice a.pa c.pn a.pc]] w' (One (.bool (may c)) w')) := fun w' h => May_all h
  clear hc hq hf
  go_enter Try.func6, Try.ntmps6
  go_upto_region 1 with fail
  obtain ⟨W, hW, HB⟩ : ∃ W, (w.alloc (.cells #[.int .i64 c.F, .int .i64 c.C, .int .i64 c.W, .int .i64 c.S, .int .i64 c.V, .int .i64 c.T, .int .u64 c.k.l1, .int .u64 c.k.llc, .int .u64 c.k.mi, .int .u64 c.k.fa, .int .u64 c.k.st, .int .u64 c.k.di, .int .u64 c.sl, .int .u64 c.pd, .int .u64 c.ft, .slice a.ta c.tn a.tc, .slice a.pa c.pn a.pc] 28)) = W ∧ Hid (Cb w W w.heap.size a c) := ⟨_, rfl, HB0⟩
  rw [hW]
  clear hW HB0
  generalize hg1 : w.heap.size = g1 at *
  go_wp2_with fail
  refine (awake_any _).mono ?_
  rintro _ w1 ⟨rfl, k1⟩
  have HB1 : Hid (Cb w w1 g1 a c) := HB.out.below k1
  clear HB k1
  have hld := HB1.out.bx.ld
  go_wp2_with (refine wpList_load_at rfl 28 (.tmp 3) rfl _ _ rfl hld ?_)
  refine (C3.out _ HB1.out.ci).mono ?_
  rintro _ w2 ⟨rfl, k2⟩
  have HB2 : Hid (Cb w w2 g1 a c) := HB1.out.below k2
  clear HB1 k2 hld C3
  cases hm : may c
  · go_wp2
    go_ret
    exact ⟨rfl, HB2.out.be⟩
  have hld := HB2.out.bx.ld
  go_wp2_with (refine wpList_load_at rfl 28 (.tmp 3) rfl _ _ rfl hld ?_)
  refine (CP.out _ HB2.out.ci).mono ?_
  rintro _ w3 ⟨b, rfl, hb⟩
  have st := stK w3 b c
  go_upto_region 6 with (refine wpList_store_at rfl 28 (.tmp 7) (.tmp 21) rfl _ _ rfl rfl st ?_)
  go_frame
  have HP0 : Hid (Pk w (w3.alloc (.cells #[.int .i64 c.F, .int .i64 c.C, .int .i64 c.W, .int .i64 c.S, .int .i64 c.V, .int .i64 c.T, .int .u64 c.k.l1, .int .u64 c.k.llc, .int .u64 c.k.mi, .int .u64 c.k.fa, .int .u64 c.k.st, .int .u64 c.k.di, .int .u64 c.sl, .int .u64 c.pd, .int .u64 c.ft, .slice b.ta c.tn b.tc, .slice b.pa c.pn b.pc] 28)) g1 w3.heap.size a b c) := by
    have k1 := hb.be.trans ((below_new w3 (.cells #[.int .i64 c.F, .int .i64 c.C, .int .i64 c.W, .int .i64 c.S, .int .i64 c.V, .int .i64 c.T, .int .u64 c.k.l1, .int .u64 c.k.llc, .int .u64 c.k.mi, .int .u64 c.k.fa, .int .u64 c.k.st, .int .u64 c.k.di, .int .u64 c.sl, .int .u64 c.pd, .int .u64 c.ft, .slice b.ta c.tn b.tc, .slice b.pa c.pn b.pc] 28)).mono hb.be.size)
    have q := HB2.out.below k1
    exact ⟨q.be, q.bx, sev_new w3 b c, q.ci, hb.ci.below (below_new _ _)⟩
  have HC0 : Hid (Cpd w2 c w3 b) := hb
  have HX : Hid (Below w3.heap.size w3 (w3.alloc (.cells #[.int .i64 c.F, .int .i64 c.C, .int .i64 c.W, .int .i64 c.S, .int .i64 c.V, .int .i64 c.T, .int .u64 c.k.l1, .int .u64 c.k.llc, .int .u64 c.k.mi, .int .u64 c.k.fa, .int .u64 c.k.st, .int .u64 c.k.di, .int .u64 c.sl, .int .u64 c.pd, .int .u64 c.ft, .slice b.ta c.tn b.tc, .slice b.pa c.pn b.pc] 28))) := below_new _ _
  clear hb st hld CP
  generalize w3.alloc (.cells #[.int .i64 c.F, .int .i64 c.C, .int .i64 c.W, .int .i64 c.S, .int .i64 c.V, .int .i64 c.T, .int .u64 c.k.l1, .int .u64 c.k.llc, .int .u64 c.k.mi, .int .u64 c.k.fa, .int .u64 c.k.st, .int .u64 c.k.di, .int .u64 c.sl, .int .u64 c.pd, .int .u64 c.ft, .slice b.ta c.tn b.tc, .slice b.pa c.pn b.pc] 28) = wb at *
  generalize hg3 : w3.heap.size = g3 at *
  have hO := may_iff.1 hm
  have hn1 := hO.m.p1
  have hn2 := hO.m.p2
  have HM : Hid (may c = true) := hm
  clear hO hm
  have c16 := HP0.out.x1.c16
  have d16 := HP0.out.x3.c16
  go_wp2_with fail
  refine (rest_any p c.pn (by omega) (by omega) hp0 (by omega) _).mono ?_
  rintro _ wy ⟨rfl, rfl⟩
  obtain ⟨k, hk, hkn⟩ : ∃ k : Nat, p % (c.pn : Int) = k ∧ k < c.pn := ⟨(p % (c.pn : Int)).toNat, by have := Int.emod_nonneg p (show (c.pn : Int) ≠ 0 by omega); omega, by have := Int.emod_lt_of_pos p (show (0 : Int) < (c.pn : Int) by omega); have := Int.emod_nonneg p (show (c.pn : Int) ≠ 0 by omega); omega⟩
  rw [hk]
  obtain ⟨bb, ob, hpa, he⟩ := HP0.out.ib.p.at' hkn
  rw [hpa] at d16
  obtain ⟨_, e0, e1, e2, e3, e4, e5, e6, e7⟩ := he
  have hkI : (k : Int) < (c.pn : Int) := by omega
  have hk0 : (0 : Int) ≤ (k : Int) := by omega
  go_upto_region 9 with fail
  have PK := pBad_iff.1 ((may_iff.1 HM.out).p k hkn)
  have b1 := PK.u1
  have b2 := PK.t1
  have b3 := PK.s1
  have b4 := PK.r1
  have b5 := PK.d1
  have b6 := PK.z1
  have HL0 : Hid (Lq wy (wy.alloc (.cells #[.slice (b.ca k) (c.pf k).n (b.cc k), .int .i64 (c.pf k).o, .int .i64 (c.pf k).u, .int .i64 (c.pf k).t, .int .i64 (c.pf k).s, .int .i64 (c.pf k).r, .int .i64 (c.pf k).d, .int .i64 (c.pf k).z] 52)) wy.heap.size (b.ca k) (b.cc k) (c.pf k) (c.pf k)) :=
    ⟨below_new _ _, Nat.le_refl _, blk_new wy _ _, ⟨rfl, rfl, rfl, PK.u0, Int.le_refl _, PK.t0, Int.le_refl _, PK.s0, Int.le_refl _, PK.r0, Int.le_refl _, PK.d0, Int.le_refl _, PK.z0, Int.le_refl _⟩⟩
  clear PK e0 e1 e2 e3 e4 e5 e6 e7
  generalize wy.alloc (.cells #[.slice (b.ca k) (c.pf k).n (b.cc k), .int .i64 (c.pf k).o, .int .i64 (c.pf k).u, .int .i64 (c.pf k).t, .int .i64 (c.pf k).s, .int .i64 (c.pf k).r, .int .i64 (c.pf k).d, .int .i64 (c.pf k).z] 52) = wz at *
  generalize hg8 : wy.heap.size = g8 at *
  have HA : Hid (∀ w', Below g8 wy w' → Arg w' q l f) := fun w' h => HQ.out.below (HP0.out.be.trans (h.mono (by have := HP0.out.be.size; omega)))
  go_loopw [9] (fun i wr => ∃ j : Nat, j ≤ 6 ∧ j ≤ l ∧ i = .int .i64 j ∧ ∃ y, Lq wy wr g8 (b.ca k) (b.cc k) y (c.pf k)) (fun i _ => 6 - (intOf i).toNat)
  case atStart => exact ⟨0, by omega, by omega, rfl, _, HL0.out⟩
  case round =>
    clear HL0
    obtain ⟨j, hj6, hjl, rfl, y, hy⟩ := hrel
    have HY : Hid (Lq wy wr g8 (b.ca k) (b.cc k) y (c.pf k)) := hy
    clear hy
    by_cases hlt : j < 6 ∧ j < l
    · obtain ⟨h6, hll⟩ := hlt
      have hA := HA.out wr (by have := HY.out.be; rwa [hg8] at this)
      rcases hA with h0 | ⟨bq, oq, rfl, _, hcell⟩
      · omega
      have cj := hcell j hll
      obtain ⟨v0, v1⟩ := HF.out j hll
      have hjI : (j : Int) < (l : Int) := by omega
      have hj6' : (j : Int) < 6 := by omega
      have hj0 : (0 : Int) ≤ (j : Int) := by omega
      clear hcell
      go_wp2_with fail
      refine (rest_any (f j) 5 (by omega) (by omega) v0 (by omega) _).mono ?_
      rintro _ wv ⟨rfl, rfl⟩
      have n0 : 0 ≤ f j % 5 := Int.emod_nonneg _ (by decide)
      have n1 : f j % 5 < 5 := Int.emod_lt_of_pos _ (by decide)
      generalize f j % 5 = n at *
      have LL := HY.out.l
      rcases (by omega : j = 0 ∨ j = 1 ∨ j = 2 ∨ j = 3 ∨ j = 4 ∨ j = 5) with rfl | rfl | rfl | rfl | rfl | rfl
      · have d0 : wv.cell? ⟨g8, 2, none⟩ = some (.int .i64 y.u) := HY.out.bl.cell 2
        have f0 := HY.out.bl.frozen 2
        have u0 := LL.u0
        have u1 := LL.u1
        clear LL
        go_wp2
        all_goals
          go_roundw
          case rel => first | exact ⟨1, by omega, by omega, by first | rfl | go_num, _, HY.out.set2 _ (by omega) (by omega)⟩ | ((repeat apply Exists.intro); exact ⟨⟨1, by omega, by omega, by first | rfl | go_num, _, HY.out.set2 _ (by omega) (by omega)⟩, rfl⟩)
          case measure => simp [intOf]
      · have d0 : wv.cell? ⟨g8, 3, none⟩ = some (.int .i64 y.t) := HY.out.bl.cell 3
        have f0 := HY.out.bl.frozen 3
        have u0 := LL.t0
        have u1 := LL.t1
        clear LL
        go_wp2
        all_goals
          go_roundw
          case rel => first | exact ⟨2, by omega, by omega, by first | rfl | go_num, _, HY.out.set3 _ (by omega) (by omega)⟩ | ((repeat apply Exists.intro); exact ⟨⟨2, by omega, by omega, by first | rfl | go_num, _, HY.out.set3 _ (by omega) (by omega)⟩, rfl⟩)
          case measure => simp [intOf]
      · have d0 : wv.cell? ⟨g8, 4, none⟩ = some (.int .i64 y.s) := HY.out.bl.cell 4
        have f0 := HY.out.bl.frozen 4
        have u0 := LL.s0
        have u1 := LL.s1
        clear LL
        go_wp2
        all_goals
          go_roundw
          case rel => first | exact ⟨3, by omega, by omega, by first | rfl | go_num, _, HY.out.set4 _ (by omega) (by omega)⟩ | ((repeat apply Exists.intro); exact ⟨⟨3, by omega, by omega, by first | rfl | go_num, _, HY.out.set4 _ (by omega) (by omega)⟩, rfl⟩)
          case measure => simp [intOf]
      · have d0 : wv.cell? ⟨g8, 5, none⟩ = some (.int .i64 y.r) := HY.out.bl.cell 5
        have f0 := HY.out.bl.frozen 5
        have u0 := LL.r0
        have u1 := LL.r1
        clear LL
        go_wp2
        all_goals
          go_roundw
          case rel => first | exact ⟨4, by omega, by omega, by first | rfl | go_num, _, HY.out.set5 _ (by omega) (by omega)⟩ | ((repeat apply Exists.intro); exact ⟨⟨4, by omega, by omega, by first | rfl | go_num, _, HY.out.set5 _ (by omega) (by omega)⟩, rfl⟩)
          case measure => simp [intOf]
      · have d0 : wv.cell? ⟨g8, 6, none⟩ = some (.int .i64 y.d) := HY.out.bl.cell 6
        have f0 := HY.out.bl.frozen 6
        have u0 := LL.d0
        have u1 := LL.d1
        clear LL
        go_wp2
        all_goals
          go_roundw
          case rel => first | exact ⟨5, by omega, by omega, by first | rfl | go_num, _, HY.out.set6 _ (by omega) (by omega)⟩ | ((repeat apply Exists.intro); exact ⟨⟨5, by omega, by omega, by first | rfl | go_num, _, HY.out.set6 _ (by omega) (by omega)⟩, rfl⟩)
          case measure => simp [intOf]
      · have d0 : wv.cell? ⟨g8, 7, none⟩ = some (.int .i64 y.z) := HY.out.bl.cell 7
        have f0 := HY.out.bl.frozen 7
        have u0 := LL.z0
        have u1 := LL.z1
        clear LL
        go_wp2
        all_goals
          go_roundw
          case rel => first | exact ⟨6, by omega, by omega, by first | rfl | go_num, _, HY.out.set7 _ (by omega) (by omega)⟩ | ((repeat apply Exists.intro); exact ⟨⟨6, by omega, by omega, by first | rfl | go_num, _, HY.out.set7 _ (by omega) (by omega)⟩, rfl⟩)
          case measure => simp [intOf]
    · have hn : ¬ ((j : Int) < 6 ∧ (j : Int) < (l : Int)) := by omega
      have KW : Hid (Below wy.heap.size wy wr) := HY.out.be
      have kw : Below w3.heap.size w3 wr := by
        have h1 : Below w3.heap.size w3 wy := by rw [hg3]; exact HX.out
        exact h1.trans (KW.out.mono h1.size)
      obtain ⟨g, L, epa, hg2, hglt, hBl, hci⟩ := less_cin HC0.out kw hkn HY.out.l
      have d16 := (HP0.out.below KW.out).x3.c16
      obtain ⟨bb, ob, hpa2, he⟩ := (HP0.out.below KW.out).ib.p.at' hkn
      rw [epa] at hpa2 d16
      cases hpa2
      obtain ⟨_, e0, e1, e2, e3, e4, e5, e6, e7⟩ := he
      have y0 := HY.out.bl.cell 0
      have y1 := HY.out.bl.cell 1
      have y2 := HY.out.bl.cell 2
      have y3 := HY.out.bl.cell 3
      have y4 := HY.out.bl.cell 4
      have y5 := HY.out.bl.cell 5
      have y6 := HY.out.bl.cell 6
      have y7 := HY.out.bl.cell 7
      simp [pC] at y0 y1 y2 y3 y4 y5 y6 y7
      simp only [Nat.zero_add] at e0 e1 e2 e3 e4 e5 e6 e7
      have fz := hBl.frozen
      have bw : Below w2.heap.size w2 wr := HC0.out.be.trans (kw.mono HC0.out.be.size)
      have S3 := (HP0.out.below KW.out).x3
      have hne : g3 ≠ g := by omega
      have w8 : Below w2.heap.size w2 (wr8 wr g (k * 8) (b.ca k) (b.cc k) y) := wr8_below bw hg2 bw.size
      have S8 : Sev (wr8 wr g (k * 8) (b.ca k) (b.cc k) y) g3 b c := S3.of_eq (wr8_ne hne) (by have := S3.lt; have := (wr8_below (o := k * 8) (q := b.ca k) (m := b.cc k) (y := y) (g := g) (Below.refl 0 wr) (by omega) (by omega)).size; omega)
      obtain ⟨W8, hW8, F1, F2, F3⟩ : ∃ W8, wr8 wr g (k * 8) (b.ca k) (b.cc k) y = W8 ∧ Hid (Cb w W8 g1 a c) ∧ Hid (Sev W8 g3 b (put c k y)) ∧ Hid (Cin W8 b (put c k y)) :=
        ⟨_, rfl, HB2.out.below w8, ⟨S8.lt, S8.c0, S8.c1, S8.c2, S8.c3, S8.c4, S8.c5, S8.c6, S8.c7, S8.c8, S8.c9, S8.c10, S8.c11, S8.c12, S8.c13, S8.c14, S8.c15, S8.c16⟩, hci⟩
      unfold wr8 at hW8
      have hmd : Hid (may (put c k y) = true) := less_may HM.out hkn HY.out.l
      have hpn : k < (put c k y).pn := hkn
      have q1 : lim ((put c k y).pf k) ≤ lim (c.pf k) := by rw [put_same]; exact (lo_lim HY.out.l).2
      have q2 : ((put c k y).pf k).u ≤ (c.pf k).u := by rw [put_same]; exact HY.out.l.u1
      have q3 : ((put c k y).pf k).t ≤ (c.pf k).t := by rw [put_same]; exact HY.out.l.t1
      have q4 : im ((put c k y).pf k) = im (c.pf k) := by rw [put_same]; unfold im; rw [HY.out.l.o]
      clear hci w8 S8 S3 bw kw hBl HC0 HX HB2 HA HQ HF KW epa hpa
      by_cases hl' : (j : Int) < (l : Int)
      · have h6' : ¬ (j : Int) < 6 := by omega
        go_upto_region 25 with fail
        (try rw [hW8])
        clear hW8 HY y0 y1 y2 y3 y4 y5 y6 y7 e0 e1 e2 e3 e4 e5 e6 e7 fz d16
        generalize put c k y = d at *
        have hld := F1.out.bx.ld
        go_wp2_with (refine wpList_load_at rfl 28 (.tmp 3) rfl _ _ rfl hld ?_)
        refine (Shape_ok F1.out.ci k HM.out hkn).mono ?_
        rintro _ x1 ⟨rfl, k1⟩
        have G2 : Hid (Sev x1 g3 b d ∧ Cin x1 b d ∧ Below w.heap.size w x1) := ⟨F2.out.below k1, F3.out.below k1, F1.out.be.trans (k1.mono F1.out.be.size)⟩
        clear F1 F2 F3 k1 hld
        go_upto_region 26 with fail
        have B1 : Hid (Blk (x1.alloc (.cells #[.int .i64 (im (c.pf k)), .int .i64 (c.pf k).u, .int .i64 (lim (c.pf k)), .int .i64 (c.pf k).t] 42)) x1.heap.size 42 [.int .i64 (im (c.pf k)), .int .i64 (c.pf k).u, .int .i64 (lim (c.pf k)), .int .i64 (c.pf k).t]) := blk_new x1 _ _
        have G3 : Hid (Sev (x1.alloc (.cells #[.int .i64 (im (c.pf k)), .int .i64 (c.pf k).u, .int .i64 (lim (c.pf k)), .int .i64 (c.pf k).t] 42)) g3 b d ∧ Cin (x1.alloc (.cells #[.int .i64 (im (c.pf k)), .int .i64 (c.pf k).u, .int .i64 (lim (c.pf k)), .int .i64 (c.pf k).t] 42)) b d ∧ Below w.heap.size w (x1.alloc (.cells #[.int .i64 (im (c.pf k)), .int .i64 (c.pf k).u, .int .i64 (lim (c.pf k)), .int .i64 (c.pf k).t] 42))) := ⟨G2.out.1.below (below_new _ _), G2.out.2.1.below (below_new _ _), G2.out.2.2.alloc G2.out.2.2.size _⟩
        generalize x1.alloc (.cells #[.int .i64 (im (c.pf k)), .int .i64 (c.pf k).u, .int .i64 (lim (c.pf k)), .int .i64 (c.pf k).t] 42) = x2 at *
        generalize x1.heap.size = ga at *
        clear G2
        have hld := G3.out.1.ld
        go_wp2_with (refine wpList_load_at rfl 28 (.tmp 7) rfl _ _ rfl hld ?_)
        refine (Shape_ok G3.out.2.1 k hmd.out hpn).mono ?_
        rintro _ x3 ⟨rfl, k3⟩
        have B3 : Hid (Blk x3 ga 42 [.int .i64 (im (c.pf k)), .int .i64 (c.pf k).u, .int .i64 (lim (c.pf k)), .int .i64 (c.pf k).t]) := B1.out.below k3
        have G4 : Hid (Sev x3 g3 b d ∧ Cin x3 b d ∧ Below w.heap.size w x3) := ⟨G3.out.1.below k3, G3.out.2.1.below k3, G3.out.2.2.trans (k3.mono G3.out.2.2.size)⟩
        clear B1 G3 k3 hld
        go_upto_region 27 with fail
        have B4 : Hid (Blk (x3.alloc (.cells #[.int .i64 (im (c.pf k)), .int .i64 (d.pf k).u, .int .i64 (lim (d.pf k)), .int .i64 (d.pf k).t] 42)) x3.heap.size 42 [.int .i64 (im (c.pf k)), .int .i64 (d.pf k).u, .int .i64 (lim (d.pf k)), .int .i64 (d.pf k).t]) := blk_new x3 _ _
        have B5 : Hid (Blk (x3.alloc (.cells #[.int .i64 (im (c.pf k)), .int .i64 (d.pf k).u, .int .i64 (lim (d.pf k)), .int .i64 (d.pf k).t] 42)) ga 42 [.int .i64 (im (c.pf k)), .int .i64 (c.pf k).u, .int .i64 (lim (c.pf k)), .int .i64 (c.pf k).t]) := B3.out.alloc _
        have G5 : Hid (Sev (x3.alloc (.cells #[.int .i64 (im (c.pf k)), .int .i64 (d.pf k).u, .int .i64 (lim (d.pf k)), .int .i64 (d.pf k).t] 42)) g3 b d ∧ Cin (x3.alloc (.cells #[.int .i64 (im (c.pf k)), .int .i64 (d.pf k).u, .int .i64 (lim (d.pf k)), .int .i64 (d.pf k).t] 42)) b d ∧ Below w.heap.size w (x3.alloc (.cells #[.int .i64 (im (c.pf k)), .int .i64 (d.pf k).u, .int .i64 (lim (d.pf k)), .int .i64 (d.pf k).t] 42))) := ⟨G4.out.1.below (below_new _ _), G4.out.2.1.below (below_new _ _), G4.out.2.2.alloc G4.out.2.2.size _⟩
        generalize x3.alloc (.cells #[.int .i64 (im (c.pf k)), .int .i64 (d.pf k).u, .int .i64 (lim (d.pf k)), .int .i64 (d.pf k).t] 42) = x4 at *
        generalize x3.heap.size = gb at *
        clear B3 G4
        have hld := G5.out.1.ld
        go_wp2_with (refine wpList_load_at rfl 28 (.tmp 7) rfl _ _ rfl hld ?_)
        refine (May_all G5.out.2.1).mono ?_
        rintro _ x5 ⟨rfl, k5⟩
        have FIN : Hid (Below w.heap.size w x5) := G5.out.2.2.trans (k5.mono G5.out.2.2.size)
        have z4 := B4.out.below k5
        have z5 := B5.out.below k5
        have m0 := z4.cell 0
        have m1 := z4.cell 1
        have m2 := z4.cell 2
        have m3 := z4.cell 3
        have l0 := z5.cell 0
        have l1 := z5.cell 1
        have l2 := z5.cell 2
        have l3 := z5.cell 3
        simp at m0 m1 m2 m3 l0 l1 l2 l3
        rw [hmd.out]
        clear z4 z5 B4 B5 G5 k5 hld hmd
        go_wp2
        go_ret
        exact ⟨rfl, FIN.out⟩
      · skip
        go_upto_region 25 with fail
        (try rw [hW8])
        clear hW8 HY y0 y1 y2 y3 y4 y5 y6 y7 e0 e1 e2 e3 e4 e5 e6 e7 fz d16
        generalize put c k y = d at *
        have hld := F1.out.bx.ld
        go_wp2_with (refine wpList_load_at rfl 28 (.tmp 3) rfl _ _ rfl hld ?_)
        refine (Shape_ok F1.out.ci k HM.out hkn).mono ?_
        rintro _ x1 ⟨rfl, k1⟩
        have G2 : Hid (Sev x1 g3 b d ∧ Cin x1 b d ∧ Below w.heap.size w x1) := ⟨F2.out.below k1, F3.out.below k1, F1.out.be.trans (k1.mono F1.out.be.size)⟩
        clear F1 F2 F3 k1 hld
        go_upto_region 26 with fail
        have B1 : Hid (Blk (x1.alloc (.cells #[.int .i64 (im (c.pf k)), .int .i64 (c.pf k).u, .int .i64 (lim (c.pf k)), .int .i64 (c.pf k).t] 42)) x1.heap.size 42 [.int .i64 (im (c.pf k)), .int .i64 (c.pf k).u, .int .i64 (lim (c.pf k)), .int .i64 (c.pf k).t]) := blk_new x1 _ _
        have G3 : Hid (Sev (x1.alloc (.cells #[.int .i64 (im (c.pf k)), .int .i64 (c.pf k).u, .int .i64 (lim (c.pf k)), .int .i64 (c.pf k).t] 42)) g3 b d ∧ Cin (x1.alloc (.cells #[.int .i64 (im (c.pf k)), .int .i64 (c.pf k).u, .int .i64 (lim (c.pf k)), .int .i64 (c.pf k).t] 42)) b d ∧ Below w.heap.size w (x1.alloc (.cells #[.int .i64 (im (c.pf k)), .int .i64 (c.pf k).u, .int .i64 (lim (c.pf k)), .int .i64 (c.pf k).t] 42))) := ⟨G2.out.1.below (below_new _ _), G2.out.2.1.below (below_new _ _), G2.out.2.2.alloc G2.out.2.2.size _⟩
        generalize x1.alloc (.cells #[.int .i64 (im (c.pf k)), .int .i64 (c.pf k).u, .int .i64 (lim (c.pf k)), .int .i64 (c.pf k).t] 42) = x2 at *
        generalize x1.heap.size = ga at *
        clear G2
        have hld := G3.out.1.ld
        go_wp2_with (refine wpList_load_at rfl 28 (.tmp 7) rfl _ _ rfl hld ?_)
        refine (Shape_ok G3.out.2.1 k hmd.out hpn).mono ?_
        rintro _ x3 ⟨rfl, k3⟩
        have B3 : Hid (Blk x3 ga 42 [.int .i64 (im (c.pf k)), .int .i64 (c.pf k).u, .int .i64 (lim (c.pf k)), .int .i64 (c.pf k).t]) := B1.out.below k3
        have G4 : Hid (Sev x3 g3 b d ∧ Cin x3 b d ∧ Below w.heap.size w x3) := ⟨G3.out.1.below k3, G3.out.2.1.below k3, G3.out.2.2.trans (k3.mono G3.out.2.2.size)⟩
        clear B1 G3 k3 hld
        go_upto_region 27 with fail
        have B4 : Hid (Blk (x3.alloc (.cells #[.int .i64 (im (c.pf k)), .int .i64 (d.pf k).u, .int .i64 (lim (d.pf k)), .int .i64 (d.pf k).t] 42)) x3.heap.size 42 [.int .i64 (im (c.pf k)), .int .i64 (d.pf k).u, .int .i64 (lim (d.pf k)), .int .i64 (d.pf k).t]) := blk_new x3 _ _
        have B5 : Hid (Blk (x3.alloc (.cells #[.int .i64 (im (c.pf k)), .int .i64 (d.pf k).u, .int .i64 (lim (d.pf k)), .int .i64 (d.pf k).t] 42)) ga 42 [.int .i64 (im (c.pf k)), .int .i64 (c.pf k).u, .int .i64 (lim (c.pf k)), .int .i64 (c.pf k).t]) := B3.out.alloc _
        have G5 : Hid (Sev (x3.alloc (.cells #[.int .i64 (im (c.pf k)), .int .i64 (d.pf k).u, .int .i64 (lim (d.pf k)), .int .i64 (d.pf k).t] 42)) g3 b d ∧ Cin (x3.alloc (.cells #[.int .i64 (im (c.pf k)), .int .i64 (d.pf k).u, .int .i64 (lim (d.pf k)), .int .i64 (d.pf k).t] 42)) b d ∧ Below w.heap.size w (x3.alloc (.cells #[.int .i64 (im (c.pf k)), .int .i64 (d.pf k).u, .int .i64 (lim (d.pf k)), .int .i64 (d.pf k).t] 42))) := ⟨G4.out.1.below (below_new _ _), G4.out.2.1.below (below_new _ _), G4.out.2.2.alloc G4.out.2.2.size _⟩
        generalize x3.alloc (.cells #[.int .i64 (im (c.pf k)), .int .i64 (d.pf k).u, .int .i64 (lim (d.pf k)), .int .i64 (d.pf k).t] 42) = x4 at *
        generalize x3.heap.size = gb at *
        clear B3 G4
        have hld := G5.out.1.ld
        go_wp2_with (refine wpList_load_at rfl 28 (.tmp 7) rfl _ _ rfl hld ?_)
        refine (May_all G5.out.2.1).mono ?_
        rintro _ x5 ⟨rfl, k5⟩
        have FIN : Hid (Below w.heap.size w x5) := G5.out.2.2.trans (k5.mono G5.out.2.2.size)
        have z4 := B4.out.below k5
        have z5 := B5.out.below k5
        have m0 := z4.cell 0
        have m1 := z4.cell 1
        have m2 := z4.cell 2
        have m3 := z4.cell 3
        have l0 := z5.cell 0
        have l1 := z5.cell 1
        have l2 := z5.cell 2
        have l3 := z5.cell 3
        simp at m0 m1 m2 m3 l0 l1 l2 l3
        rw [hmd.out]
        clear z4 z5 B4 B5 G5 k5 hld hmd
        go_wp2
        go_ret
        exact ⟨rfl, FIN.out⟩
end Go.Proofs.Ytcmgjinjfaialaa
