/- TableApart walked: two roots share nothing. -/
import Derived.Test.YtiegcncpgjnpbaaGreatVtj
import Derived.Deep.RegionHeld
import Derived.Deep.MidRow
namespace Go.Proofs.YtiegcncpgjnpbaaGreat.Pg
open P E Go.ChangeShapes Go.WideShapes Go.ChangeAt Go.RowKit
set_option linter.unusedVariables false
set_option maxRecDepth 8192

theorem step_load_at {P : Program} {w : World} {ops : Array Oper} {o : Oper} {a : Act} {K : Act → World → Prop} {Q : Exit → Act → World → Prop} {E : Prop} (hgd : o.guard = none) (t : TypeId) (x : Operand)
    (ho : o.op = .load t x) (u v : Value) (hx : a.eval x = u) (hrun : (Instr.loadAt t u).run P w = .ok v w) (h : K (a.put o.dst v) w) : if Region.wanted o (yielded ops a.tmps) = true then Oper.wp P o a w K Q else E := by
  have hw : Region.wanted o (yielded ops a.tmps) = true := by simp [Region.wanted, hgd]
  rw [if_pos hw]
  unfold Oper.wp
  simp [execOp, ho, hx, hrun, Result.andThen]
  exact h
theorem step_store_at {P : Program} {w w' : World} {ops : Array Oper} {o : Oper} {a : Act} {K : Act → World → Prop} {Q : Exit → Act → World → Prop} {E : Prop} (hgd : o.guard = none) (t : TypeId) (x y : Operand)
    (ho : o.op = .store t x y) (u v : Value) (hx : a.eval x = u) (hy : a.eval y = v) (hrun : (Instr.storeAt t u v).run P w = .ok () w') (h : K (a.put o.dst undef) w') : if Region.wanted o (yielded ops a.tmps) = true then Oper.wp P o a w K Q else E := by
  have hw : Region.wanted o (yielded ops a.tmps) = true := by simp [Region.wanted, hgd]
  rw [if_pos hw]
  unfold Oper.wp
  simp [execOp, ho, hx, hy, hrun, Result.andThen]
  exact h
theorem drew_sets (g : Nat) : ∀ (vs : List Value) (o : Nat) (w : World), w.drew.setCells g o vs = (w.setCells g o vs).drew
  | [], _, _ => rfl
  | v :: r, o, w => drew_sets g r (o + 1) (w.setCell ⟨g, o, none⟩ v)
theorem tdiv2 {x : Int} (h0 : -9223372036854775808 ≤ x) (h1 : x ≤ 9223372036854775807) : -9223372036854775808 ≤ x.tdiv 2 ∧ x.tdiv 2 < 9223372036854775808 := by
  by_cases h : 0 ≤ x
  · rw [Int.tdiv_eq_ediv_of_nonneg h]
    omega
  · obtain ⟨y, rfl⟩ : ∃ y, x = -y := ⟨-x, by omega⟩
    rw [Int.neg_tdiv, Int.tdiv_eq_ediv_of_nonneg (by omega)]
    omega
theorem nums (x y z : Int) : ∃ k q0 q v : Nat, x % 2 = k ∧ y % 3 = q0 ∧ z % 4096 = v ∧ (1 : Int) + (q0 : Int) = (q : Int) ∧ IntKind.i64.wrap (q : Int) = (q : Int) ∧ IntKind.i64.wrap ((1 : Int) + (q0 : Int)) = (q : Int) ∧ k < 2 ∧ 1 ≤ q ∧ q < 4 ∧ v < 4096 := by
  obtain ⟨k, hk⟩ : ∃ k : Nat, x % 2 = k := ⟨(x % 2).toNat, by omega⟩
  obtain ⟨q0, hq⟩ : ∃ q0 : Nat, y % 3 = q0 := ⟨(y % 3).toNat, by omega⟩
  obtain ⟨v, hv⟩ : ∃ v : Nat, z % 4096 = v := ⟨(z % 4096).toNat, by omega⟩
  have h1 : k < 2 := by omega
  have h2 : q0 < 3 := by omega
  have h3 : v < 4096 := by omega
  have e : (1 : Int) + (q0 : Int) = ((1 + q0 : Nat) : Int) := by omega
  have w1 : IntKind.i64.wrap ((1 + q0 : Nat) : Int) = ((1 + q0 : Nat) : Int) := IntWalk.i64_in _ ⟨by omega, by omega⟩
  exact ⟨k, q0, 1 + q0, v, hk, hq, hv, e, w1, by rw [e]; exact w1, h1, by omega, by omega, h3⟩
set_option maxHeartbeats 1000000 in
theorem apart_any {w : World} {ao bo : Option Addr} {l cl n cn : Nat} {f g : Nat → Int} (hl : l ≤ maxLen) (ha : Arg w ao l f) (hf : ∀ i, i < l → -9223372036854775808 ≤ f i ∧ f i ≤ 9223372036854775807) (hln : n ≤ maxLen) (hb : Arg w bo n g) (hg : ∀ i, i < n → -9223372036854775808 ≤ g i ∧ g i ≤ 9223372036854775807) :
    Calls Tryz.prog 6 #[.slice ao l cl, .slice bo n cn] w fun e w' => e = .returned (.bool true) ∧ Below w.heap.size w w' := by
  have CN : Hid (∀ w1 a, Below w.heap.size w w1 → Cin w1 a us → Calls Tryz.prog 22 #[.agg #[.int .i64 us.F, .int .i64 us.C, .int .i64 us.W, .int .i64 us.S, .int .i64 us.V, .int .i64 us.T, .int .u64 us.k.l1, .int .u64 us.k.llc, .int .u64 us.k.mi, .int .u64 us.k.fa, .int .u64 us.k.st, .int .u64 us.k.di, .int .u64 us.sl, .int .u64 us.pd, .int .u64 us.ft, .slice a.ta us.tn a.tc, .slice a.pa us.pn a.pc], .int .i64 0] w1 fun e w' => ∃ t p, e = .returned (.tuple #[.pointer (some ⟨t, 0, none⟩), .pointer (some ⟨p, 0, none⟩), .bool true]) ∧ ∃ cc, Ts w (fun _ => False) t cc p (hwOf us) (par us 0) (s0, fun _ => none) (fun _ => none) w') := fun w1 a hb hc => (over_ts hb hc us_may 0 (by decide)).mono (by rintro e w' ⟨t, p, rfl, cc, T, _⟩; exact ⟨t, p, rfl, cc, T⟩)
  have HA : Hid (Arg w ao l f) := ha
  have HBo : Hid (Arg w bo n g) := hb
  have HF : Hid (∀ i, i < l → -9223372036854775808 ≤ f i ∧ f i ≤ 9223372036854775807) := hf
  have HG : Hid (∀ i, i < n → -9223372036854775808 ≤ g i ∧ g i ≤ 9223372036854775807) := hg
  clear ha hb hf hg
  have E1 := N.eq_run
  have E2 := ne_self
  have I3 := index3
  unfold maxLen at hl hln
  go_enter Tryz.func6, Tryz.ntmps6
  go_wp2_with fail
  refine (usual_any w).mono ?_
  rintro e w1 ⟨n1, n2, n3, n4, a, c, rfl, rfl, rfl, hU, _, hb⟩
  have HC := CN.out w1 _ hb hU.cin
  clear hU CN hb
  generalize Ud n1 n2 n3 n4 = a at *
  have HC' : Hid (Calls _ _ _ _ _) := HC
  clear HC
  go_wp2_with fail
  refine HC'.out.mono ?_
  rintro e w2 ⟨t, p, rfl, cc, K⟩
  have K2 : Hid (Ts w (fun _ => False) t cc p (hwOf us) (par us 0) (s0, fun _ => none) (fun _ => none) w2) := K
  clear K HC'
  go_wp2_with fail
  refine (awake_any w2).mono ?_
  rintro e w3 ⟨rfl, b3⟩
  have K3 := K2.out.below b3
  have CR : Hid (Calls Tryz.prog 23 #[.pointer (some ⟨t, 0, none⟩)] w3 _) := K3.root (by rw [q0, cU_none]; decide)
  have u0 : cU ((s0, fun _ => none) : E.Sc × Us).2 3 4096 = 0 := cU_none _ _
  generalize ((s0, fun _ => none) : E.Sc × Us) = S0 at *
  clear K2 K3 b3
  go_wp2_with fail
  refine CR.out.mono ?_
  rintro e w4 ⟨r, rfl, S1, D1, K1, _⟩
  have CF : Hid (Calls _ _ _ _ _) := K1.fit1 (pt_same _ r) 1 3 (by decide) (by unfold A.fits; decide) (by rw [total13, q0, D1.all, D1.cu, u0]; decide)
  clear CR K1
  go_wp2_with fail
  refine CF.out.mono ?_
  rintro e w5 ⟨ni, no, rfl, _, _, S2, F2, K2, _⟩
  have hc2 : cU S2.2 3 4096 = 4 := by have := F2.cu; rw [D1.all, total13, D1.cu, u0] at this; omega
  have CR : Hid (Calls Tryz.prog 23 #[.pointer (some ⟨t, 0, none⟩)] w5 _) := K2.root (by rw [q0, hc2]; decide)
  clear CF K2
  go_wp2_with fail
  refine CR.out.mono ?_
  rintro e w6 ⟨s, rfl, S3, D3, K3, _⟩
  have CF : Hid (Calls _ _ _ _ _) := K3.fit1 (pt_same _ s) 1 3 (by decide) (by unfold A.fits; decide) (by rw [total13, q0, D3.all, D3.cu, hc2]; decide)
  clear CR K3
  go_wp2_with fail
  refine CF.out.mono ?_
  rintro e w7 ⟨ni', no', rfl, _, _, S4, F4, K4, _⟩
  have A4 : Hid (Aq w w7 t cc p r s S4 _) := aq_of D1 F2 D3 F4 u0 K4
  clear D1 F2 D3 F4 u0 K4 hc2 CF
  generalize B.pt (B.pt (fun _ => none) r (some 0)) s (some 0) = m at *
  have hne : ¬ ((r : Int) = (s : Int)) := by have := A4.out.ne; omega
  have hbq : ((r : Int) == (s : Int)) = false := by simpa using hne
  have CC : Hid (Calls Tryz.prog 14 #[.pointer (some ⟨p, 0, none⟩)] w7 fun e w' => ∃ x0 x1 x2 x4 x5 x6 : Nat, e = .returned (.agg #[.int .i64 (x0 : Nat), .int .i64 (x1 : Nat), .int .i64 (x2 : Nat), .int .i64 8, .int .i64 (x4 : Nat), .int .i64 (x5 : Nat), .int .i64 (x6 : Nat)]) ∧ Aq w w' t cc p r s S4 m) := by
    refine A4.out.ts.counts.mono ?_
    rintro e w' ⟨x0, x1, x2, x4, x5, x6, rfl, K', _⟩
    rw [A4.out.cu]
    exact ⟨x0, x1, x2, x4, x5, x6, rfl, K', A4.out.ne, A4.out.cu, A4.out.r, A4.out.al, A4.out.f, A4.out.v⟩
  clear A4
  have hz := (zero_of_info Tryz.info24).1
  generalize hY : (es (fun _ _ => 0) 0 8).toArray = Y at *
  have HY : Hid ((es (fun _ _ => 0) 0 8).toArray = Y) := hY
  clear hY
  go_wp2_with (go_at_call 14; refine CC.out.mono ?_; rintro e w8 ⟨x0, x1, x2, x4, x5, x6, rfl, A8⟩; have HA8 : Hid (Aq w w8 t cc p r s S4 m) := A8; clear A8)
  have AP : Hid (Ap w ((w8.alloc (.cells #[.int .i64 (r : Nat), .int .i64 (s : Nat)] 3)).alloc (.cells Y 104)) t cc p r s w8.heap.size (w8.heap.size + 1) S4 m (fun _ => 0)) := HA8.out.ap _ rfl _ (by rw [HY.out])
  generalize (w8.alloc (.cells #[.int .i64 (r : Nat), .int .i64 (s : Nat)] 3)).alloc (.cells Y 104) = W0 at *
  clear HA8 HY hz CC
  generalize w8.heap.size = gr at *
  go_loopw [20] (fun i wr => ∃ (j : Nat) (S : E.Sc × Us) (V : Nat → Int), j ≤ 60 ∧ j ≤ l ∧ j ≤ n ∧ i = .int .i64 j ∧ Ap w wr t cc p r s gr (gr + 1) S m V) (fun i _ => 60 - (D.iv i).toNat)
  case atStart => exact ⟨0, S4, _, by omega, by omega, by omega, rfl, AP.out⟩
  case round =>
    obtain ⟨j, S, V, hj60, hjl, hjn, rfl, hA⟩ := hrel
    have A0 : Hid (Ap w wr t cc p r s gr (gr + 1) S m V) := hA
    clear hA AP
    by_cases hlt : j < 60 ∧ j < l ∧ j < n
    case' pos =>
      obtain ⟨k60, kl, kn⟩ := hlt
      obtain ⟨pb, po, rfl, hp0⟩ := HA.out.at' A0.out.ts.zt.be kl
      obtain ⟨qb, qo, rfl, hq0⟩ := HBo.out.at' A0.out.ts.zt.be kn
      have r1 := HF.out j kl
      have r2 := HG.out j kn
      have r3 := tdiv2 r1.1 r1.2
      obtain ⟨x, hx⟩ : ∃ x, f j = x := ⟨_, rfl⟩
      obtain ⟨z, hz⟩ : ∃ z, g j = z := ⟨_, rfl⟩
      rw [hx] at hp0 r1 r3
      rw [hz] at hq0 r2
      obtain ⟨y, hy⟩ : ∃ y, x.tdiv 2 = y := ⟨_, rfl⟩
      rw [hy] at r3
      have hyw : wrap64 y = y := IntWalk.wrap64_in y ⟨r3.1, Int.le_of_lt_add_one r3.2⟩
      obtain ⟨k, q0, q, v, hk, hq, hv, hq2, hq3, hq7, hk2, hq5, hq4, hv2⟩ := nums x y z
      have hFc : ∀ n : Idx (fun V => Below wr.heap.size wr V), n.W.cell? ⟨pb, po + j, none⟩ = some (.int .i64 x) := fun n => (n.h.cell (p := ⟨pb, po + j, none⟩) (World.block_lt_of_cell? wr _ hp0)).trans hp0
      have W1i : Hid (∀ n : Idx (fun V => Below wr.heap.size wr V), Calls Tryz.prog 10 #[.int .i64 x, .int .i64 2] n.W (One (.int .i64 (k : Nat)) n.W)) := fun n => (Within_any x 2 (by decide) (by decide) r1.1 (Int.lt_add_one_of_le r1.2) n.W).mono fun e w' ⟨he, hw⟩ => by
        subst hw
        rw [he, hk]
        exact ⟨rfl, Below.refl _ _⟩
      have W2i : Hid (∀ n : Idx (fun V => Below wr.heap.size wr V), Calls Tryz.prog 10 #[.int .i64 y, .int .i64 3] n.W (One (.int .i64 (q0 : Nat)) n.W)) := fun n => (Within_any y 3 (by decide) (by decide) r3.1 r3.2 n.W).mono fun e w' ⟨he, hw⟩ => by
        subst hw
        rw [he, hq]
        exact ⟨rfl, Below.refl _ _⟩
      have W3 : Hid (∀ W, Calls Tryz.prog 10 #[.int .i64 z, .int .i64 4096] W fun e w' => e = .returned (.int .i64 (v : Nat)) ∧ w' = W) := fun W => (Within_any z 4096 (by decide) (by decide) r2.1 (Int.lt_add_one_of_le r2.2) W).mono fun e w' ⟨he, hw⟩ => by
        rw [he, hv]
        exact ⟨rfl, hw⟩
      have hne : Nonempty (Idx (fun V => Below wr.heap.size wr V)) := ⟨⟨wr, Below.refl _ _⟩⟩
      have HQ0 : Hid (wr.cell? ⟨qb, qo + j, none⟩ = some (.int .i64 z)) := hq0
      have ix1 : (0 : Int) ≤ (j : Int) := Int.natCast_nonneg j
      have ix2 : (j : Int) < (l : Int) := Int.ofNat_lt.2 kl
      have ix3 : (j : Int) < (n : Int) := Int.ofNat_lt.2 kn
      clear hp0 hq0 r1 r2 r3 hx hz hk hq hv
      go_wp2_with fail
      refine wp_region_cls (fun V => Below wr.heap.size wr V) (by kernel_rfl) (by kernel_rfl) ((Below.refl _ _).drew) ?_
      iterate 5 (go_big_quiet_step (first | (go_at_call 10; exact Calls.cls (W1i.out _) (fun _ _ h k => h.trans (k.mono h.size)))))
      iterate 5 (go_big_quiet_step (first | fail))
      go_big_quiet_step (first | (go_at_call 10; exact Calls.cls (W2i.out _) (fun _ _ h k => h.trans (k.mono h.size))))
      repeat (go_big_quiet_step (first | fail))
      refine wpQuiet_nil ?_
      rintro w5 ⟨⟨_, hS5⟩, rfl⟩
      have A5 : Hid (Ap w w5 t cc p r s gr (gr + 1) S m V) := A0.out.below hS5
      have hq6 : w5.cell? ⟨qb, qo + j, none⟩ = some (.int .i64 z) := (hS5.cell (p := ⟨qb, qo + j, none⟩) (World.block_lt_of_cell? wr _ HQ0.out)).trans HQ0.out
      clear hS5 hFc W1i W2i hne HQ0 A0
      go_wp2_with (go_at_call 10; refine (W3.out _).mono ?_; rintro e w' ⟨rfl, rfl⟩)
      have BB := C.blk_new w' [.bool true, .bool false, .bool true, .bool false, .bool false, .bool false, .int .i64 (v : Nat)] 38
      have B6 : Below w'.heap.size w' (w'.alloc (.cells #[.bool true, .bool false, .bool true, .bool false, .bool false, .bool false, .int .i64 (v : Nat)] 38)) := (Below.refl _ _).alloc (Nat.le_refl _) _
      have A6 : Hid (Ap w (w'.alloc (.cells #[.bool true, .bool false, .bool true, .bool false, .bool false, .bool false, .int .i64 (v : Nat)] 38)) t cc p r s gr (gr + 1) S m V) := A5.out.below B6
      have CS : Hid (Calls Tryz.prog 29 #[.pointer (some ⟨t, 0, none⟩), .int .i64 (rt r s k : Nat), .int .i64 (q : Nat), .agg #[.bool true, .bool false, .bool true, .bool false, .bool false, .bool false, .int .i64 (v : Nat)]] (w'.alloc (.cells #[.bool true, .bool false, .bool true, .bool false, .bool false, .bool false, .int .i64 (v : Nat)] 38)).drew fun e w6 => e = .returned (.int .i64 0) ∧ (w6.cell? ⟨gr, k, none⟩ = some (.int .i64 (rt r s k : Nat)) ∧ w6.cell? ⟨w'.heap.size, 0, none⟩ = some (.bool true) ∧ w6.cell? ⟨w'.heap.size, 1, none⟩ = some (.bool false) ∧ w6.cell? ⟨w'.heap.size, 2, none⟩ = some (.bool true) ∧ w6.cell? ⟨w'.heap.size, 3, none⟩ = some (.bool false) ∧ w6.cell? ⟨w'.heap.size, 4, none⟩ = some (.bool false) ∧ w6.cell? ⟨w'.heap.size, 5, none⟩ = some (.bool false) ∧ w6.cell? ⟨w'.heap.size, 6, none⟩ = some (.int .i64 (v : Nat))) ∧ w6.there (gr + 1) (k * 28 + q * 7) 7 ∧ ∃ S' V', Ap w (w6.setCells (gr + 1) (k * 28 + q * 7) [.bool true, .bool false, .bool true, .bool false, .bool false, .bool false, .int .i64 (v : Nat)]) t cc p r s gr (gr + 1) S' m V') := by
        refine (A5.out.set hk2 hq5 hq4 (x := (v : Nat)) (Int.natCast_nonneg v) (Int.ofNat_le.2 (Nat.le_of_lt_succ hv2)) ((Below.refl _ _).drew)).mono ?_
        rintro e w6 ⟨rfl, b6, th, S', V', A7⟩
        refine ⟨rfl, ⟨?_, b6.cell 0, b6.cell 1, b6.cell 2, b6.cell 3, b6.cell 4, b6.cell 5, b6.cell 6⟩, th, S', V', A7⟩
        rw [← World.cell?_of_block (w := w6) (a := ⟨gr, k, none⟩) (sets_other (gr + 1) gr (by omega) [.bool true, .bool false, .bool true, .bool false, .bool false, .bool false, .int .i64 (v : Nat)] (k * 28 + q * 7) w6)]
        exact A7.cell hk2
      have HS0 : Hid ((w'.alloc (.cells #[.bool true, .bool false, .bool true, .bool false, .bool false, .bool false, .int .i64 (v : Nat)] 38)).cell? ⟨gr, k, none⟩ = some (.int .i64 (rt r s k : Nat)) ∧ (w'.alloc (.cells #[.bool true, .bool false, .bool true, .bool false, .bool false, .bool false, .int .i64 (v : Nat)] 38)).cell? ⟨w'.heap.size, 0, none⟩ = some (.bool true) ∧ (w'.alloc (.cells #[.bool true, .bool false, .bool true, .bool false, .bool false, .bool false, .int .i64 (v : Nat)] 38)).cell? ⟨w'.heap.size, 1, none⟩ = some (.bool false) ∧ (w'.alloc (.cells #[.bool true, .bool false, .bool true, .bool false, .bool false, .bool false, .int .i64 (v : Nat)] 38)).cell? ⟨w'.heap.size, 2, none⟩ = some (.bool true) ∧ (w'.alloc (.cells #[.bool true, .bool false, .bool true, .bool false, .bool false, .bool false, .int .i64 (v : Nat)] 38)).cell? ⟨w'.heap.size, 3, none⟩ = some (.bool false) ∧ (w'.alloc (.cells #[.bool true, .bool false, .bool true, .bool false, .bool false, .bool false, .int .i64 (v : Nat)] 38)).cell? ⟨w'.heap.size, 4, none⟩ = some (.bool false) ∧ (w'.alloc (.cells #[.bool true, .bool false, .bool true, .bool false, .bool false, .bool false, .int .i64 (v : Nat)] 38)).cell? ⟨w'.heap.size, 5, none⟩ = some (.bool false) ∧ (w'.alloc (.cells #[.bool true, .bool false, .bool true, .bool false, .bool false, .bool false, .int .i64 (v : Nat)] 38)).cell? ⟨w'.heap.size, 6, none⟩ = some (.int .i64 (v : Nat))) := ⟨A6.out.cell hk2, BB.cell 0, BB.cell 1, BB.cell 2, BB.cell 3, BB.cell 4, BB.cell 5, BB.cell 6⟩
      have hk3 : (0 : Int) ≤ (k : Int) := Int.natCast_nonneg k
      have hk4 : (k : Int) < 2 := Int.ofNat_lt.2 hk2
      have hgx : w'.heap.size ≠ gr + 1 := Nat.ne_of_gt A5.out.bs.lt
      clear BB B6 A5 A6
      generalize hWA : w'.alloc (.cells #[.bool true, .bool false, .bool true, .bool false, .bool false, .bool false, .int .i64 (v : Nat)] 38) = WA at *
      clear hWA
      generalize w'.heap.size = gx at *
      go_region_held3 (fun W => W.cell? ⟨gr, k, none⟩ = some (.int .i64 (rt r s k : Nat)) ∧ W.cell? ⟨gx, 0, none⟩ = some (.bool true) ∧ W.cell? ⟨gx, 1, none⟩ = some (.bool false) ∧ W.cell? ⟨gx, 2, none⟩ = some (.bool true) ∧ W.cell? ⟨gx, 3, none⟩ = some (.bool false) ∧ W.cell? ⟨gx, 4, none⟩ = some (.bool false) ∧ W.cell? ⟨gx, 5, none⟩ = some (.bool false) ∧ W.cell? ⟨gx, 6, none⟩ = some (.int .i64 (v : Nat)))
        (first | exact HS0.out | exact HS6.out)
        (first | (go_at_call 29; refine CS.out.mono ?_; rintro e w6 ⟨rfl, s6, th6, a6⟩; have HS6 : Hid (_ ∧ _) := s6; have HT6 : Hid (w6.there (gr + 1) (k * 28 + q * 7) 7) := th6; have HA6 : Hid (∃ S' V', Ap w (w6.setCells (gr + 1) (k * 28 + q * 7) [.bool true, .bool false, .bool true, .bool false, .bool false, .bool false, .int .i64 (v : Nat)]) t cc p r s gr (gr + 1) S' m V') := a6; clear s6 th6 a6))
      have HRG : Hid (w6.rangeAt gx 0 [.bool true, .bool false, .bool true, .bool false, .bool false, .bool false, .int .i64 (v : Nat)]) := fun i u hu => by
        obtain ⟨g0, g1, g2, g3, g4, g5, g6, g7⟩ := HS6.out
        have hi : i < 7 := (List.getElem?_eq_some_iff.1 hu).1
        rw [Nat.zero_add]
        match i, hi with
        | 0, _ => exact g1.trans hu
        | 1, _ => exact g2.trans hu
        | 2, _ => exact g3.trans hu
        | 3, _ => exact g4.trans hu
        | 4, _ => exact g5.trans hu
        | 5, _ => exact g6.trans hu
        | 6, _ => exact g7.trans hu
      have h1c : ∀ u ∈ ([.bool true, .bool false, .bool true, .bool false, .bool false, .bool false, .int .i64 (v : Nat)] : List Value), u.oneCell' = true := by simp [Value.oneCell']
      have h7c : ([.bool true, .bool false, .bool true, .bool false, .bool false, .bool false, .int .i64 (v : Nat)] : List Value).length = 7 := rfl
      have hi7 : (Tryz.prog.info? 38).map (·.size) = some ([.bool true, .bool false, .bool true, .bool false, .bool false, .bool false, .int .i64 (v : Nat)] : List Value).length := (zero_of_info Tryz.infoN).2
      have hun := Tryz.underlying38
      have hq8 : (0 : Int) ≤ (q : Int) := Int.natCast_nonneg q
      have hq9 : (q : Int) < 4 := Int.ofNat_lt.2 hq4
      have HLD : Hid ((Instr.loadAt 38 (.pointer (some ⟨gx, 0, none⟩))).run Tryz.prog w6.drew = .ok (.agg #[.bool true, .bool false, .bool true, .bool false, .bool false, .bool false, .int .i64 (v : Nat)]) w6.drew) := run_loadAt_mid w6.drew gx 0 38 [.bool true, .bool false, .bool true, .bool false, .bool false, .bool false, .int .i64 (v : Nat)] _ HRG.out hun rfl hi7
      have HST : Hid ((Instr.storeAt 38 (.pointer (some ⟨gr + 1, k * 28 + q * 7, none⟩)) (.agg #[.bool true, .bool false, .bool true, .bool false, .bool false, .bool false, .int .i64 (v : Nat)])).run Tryz.prog w6.drew = .ok () (w6.drew.setCells (gr + 1) (k * 28 + q * 7) [.bool true, .bool false, .bool true, .bool false, .bool false, .bool false, .int .i64 (v : Nat)])) := run_storeAt_mid w6.drew (gr + 1) (k * 28 + q * 7) 38 #[.bool true, .bool false, .bool true, .bool false, .bool false, .bool false, .int .i64 (v : Nat)] HT6.out hi7 (by simp [Value.oneCell'])
      have HA7 : Hid (∃ S' V', Ap w (w6.drew.setCells (gr + 1) (k * 28 + q * 7) [.bool true, .bool false, .bool true, .bool false, .bool false, .bool false, .int .i64 (v : Nat)]) t cc p r s gr (gr + 1) S' m V') := by
        obtain ⟨S', V', A7⟩ := HA6.out
        rw [drew_sets]
        exact ⟨S', V', A7.below ((Below.refl _ _).drew)⟩
      clear HS0 HS6 CS HRG HT6 HA6 hun hi7 h1c h7c
      go_wp2_with fail
      refine wp_region_any (by kernel_rfl) ?_
      change wpAny _ _ _ _ _ _ _ (World.drew _)
      refine wpAny_take (i := 0) (v := .int .i64 (k : Nat)) rfl (by kernel_rfl) (by kernel_rfl) (by kernel_rfl) (fun _ _ _ h => h) (Or.inl ⟨by rfl, ?_⟩) ?_
      · intro w
        go_simp
      refine wpAny_take (i := 1) (v := .int .i64 (q : Nat)) rfl (by kernel_rfl) (by kernel_rfl) (by kernel_rfl) (fun _ _ _ h => h) (Or.inl ⟨by rfl, ?_⟩) ?_
      · intro w
        go_simp
      refine wpAny_take (i := 3) (v := .pointer (some ⟨gr + 1, k * 28, none⟩)) rfl (by kernel_rfl) (by kernel_rfl) (by kernel_rfl) (fun _ _ _ h => h) (Or.inl ⟨by rfl, ?_⟩) ?_
      · intro w
        go_simp
      refine wpAny_ready (rs := [2]) (by kernel_rfl) (by simp) ?_
      refine AllReady.cons rfl (fun KK hK => ?_) AllReady.nil
      refine step_load_at rfl 38 (.tmp 23) rfl _ _ rfl HLD.out (hK _ _ ?_)
      clear hK KK
      refine wpAny_ready (rs := [4]) (by kernel_rfl) (by simp) ?_
      refine AllReady.cons rfl (fun KK hK => ?_) AllReady.nil
      go_simp
      refine hK _ _ ?_
      clear hK KK
      refine wpAny_ready (rs := [5]) (by kernel_rfl) (by simp) ?_
      refine AllReady.cons rfl (fun KK hK => ?_) AllReady.nil
      refine step_store_at rfl 38 (.tmp 145) (.tmp 143) rfl _ _ rfl rfl HST.out (hK _ _ ?_)
      clear hK KK
      refine wpAny_done (by kernel_rfl) ?_ _
      obtain ⟨S', V', A7⟩ := HA7.out
      have A7' : Hid (Ap w (w6.drew.setCells (gr + 1) (k * 28 + q * 7) [.bool true, .bool false, .bool true, .bool false, .bool false, .bool false, .int .i64 (v : Nat)]) t cc p r s gr (gr + 1) S' m V') := A7
      clear A7 HA7 HLD HST
      generalize w6.drew.setCells (gr + 1) (k * 28 + q * 7) [.bool true, .bool false, .bool true, .bool false, .bool false, .bool false, .int .i64 (v : Nat)] = W7 at *
      go_wp2_with fail
      go_loopw [24] (fun z wr => ∃ k2 : Nat, k2 ≤ 2 ∧ z = .int .i64 k2 ∧ Ap w wr t cc p r s gr (gr + 1) S' m V') (fun z _ => 2 - (D.iv z).toNat)
      case atStart => exact ⟨0, by omega, rfl, A7'.out⟩
      case round =>
        obtain ⟨k2, hk2', rfl, hA⟩ := hrel
        have AK : Hid (Ap w wr t cc p r s gr (gr + 1) S' m V') := hA
        clear hA A7'
        by_cases hlt2 : k2 < 2
        case' pos =>
          have hi1 : (k2 : Int) < 2 := Int.ofNat_lt.2 hlt2
          have hi3 : (0 : Int) ≤ (k2 : Int) := Int.natCast_nonneg k2
          go_wp2_with fail
          go_loopw [25] (fun z wr => ∃ q2 : Nat, 1 ≤ q2 ∧ q2 ≤ 4 ∧ z = .int .i64 q2 ∧ Ap w wr t cc p r s gr (gr + 1) S' m V') (fun z _ => 4 - (D.iv z).toNat)
          case atStart => exact ⟨1, by omega, by omega, rfl, AK.out⟩
          case round =>
            obtain ⟨q2, h21, h24, rfl, hA⟩ := hrel
            have AQ : Hid (Ap w wr t cc p r s gr (gr + 1) S' m V') := hA
            clear hA AK
            by_cases hlt3 : q2 < 4
            case' pos =>
              have c0 := AQ.out.cell hlt2
              have hi2 : (q2 : Int) < 4 := Int.ofNat_lt.2 hlt3
              have hi4 : (0 : Int) ≤ (q2 : Int) := Int.natCast_nonneg q2
              have cg := AQ.out.get hlt2 h21 hlt3
              have HRG : Hid (∀ W, Ap w W t cc p r s gr (gr + 1) S' m V' → W.rangeAt (gr + 1) (k2 * 28 + q2 * 7) (ec (V' (k2 * 4 + q2)))) := fun W hW => hW.range hlt2 hlt3
              obtain ⟨b1, b2, b3, b4, b5, b6, xa, hec, hev⟩ : ∃ b1 b2 b3 b4 b5 b6 xa, ec (V' (k2 * 4 + q2)) = [.bool b1, .bool b2, .bool b3, .bool b4, .bool b5, .bool b6, .int .i64 xa] ∧ (.agg #[.bool (N.fb (V' (k2 * 4 + q2)) 1), .bool (N.fb (V' (k2 * 4 + q2)) 2), .bool (N.fb (V' (k2 * 4 + q2)) 4), .bool (N.fb (V' (k2 * 4 + q2)) 8), .bool (N.fb (V' (k2 * 4 + q2)) 16), .bool (N.fb (V' (k2 * 4 + q2)) 32), .int .i64 ((V' (k2 * 4 + q2)) / 256)] : Value) = .agg #[.bool b1, .bool b2, .bool b3, .bool b4, .bool b5, .bool b6, .int .i64 xa] := ⟨_, _, _, _, _, _, _, rfl, rfl⟩
              rw [hev] at cg
              rw [hec] at HRG
              have CG : Hid (Calls Tryz.prog 32 _ wr _) := cg
              generalize rt r s k2 = rk at *
              clear hec hev cg
              go_wp2_with fail
              refine CG.out.mono ?_
              rintro e w9 ⟨rfl, hA9⟩
              have A9 : Hid (Ap w w9 t cc p r s gr (gr + 1) S' m V') := hA9
              obtain ⟨d0, d1, d2, d3, d4, d5, d6⟩ := range7 (HRG.out _ hA9)
              have hgs : gr + 1 < w9.heap.size := hA9.bs.lt
              have BX : Hid (∀ o : Obj, Below w9.heap.size w9 (w9.alloc o)) := fun o => (Below.refl _ _).alloc (Nat.le_refl _) _
              clear hA9 CG c0 HRG
              go_wp2
              go_quiet (fail)
              go_wp2
              go_roundw
              case rel => exact ⟨q2 + 1, by omega, by omega, by go_num, A9.out.below (N.below_drewN (BX.out _) _)⟩
              case measure => simp [D.iv]; omega
            case' neg =>
              obtain rfl : q2 = 4 := by omega
              go_wp2
              go_roundw
              case rel => exact ⟨k2 + 1, by omega, by go_num, AQ.out⟩
              case measure => simp [D.iv]; omega
        case' neg =>
          obtain rfl : k2 = 2 := by omega
          go_wp2
          go_roundw
          case rel => exact ⟨j + 1, S', V', by omega, by omega, by omega, by go_num, AK.out⟩
          case measure => simp [D.iv]; omega
    case' neg =>
      have h3 : (¬ j < l) ∨ (j < l ∧ ¬ j < n) ∨ (j < l ∧ j < n ∧ ¬ j < 60) := by omega
      have cd := A0.out.drop
      have CD : Hid (Calls Tryz.prog 33 #[.pointer (some ⟨t, 0, none⟩), .int .i64 (r : Nat)] wr fun e w' => e = .returned (.tuple #[.int .i64 4, .int .i64 0]) ∧ ∃ S' m', Az w w' t cc p r s (gr + 1) S' m' (V 5)) := cd
      have ha4 := A0.out.a_lt
      obtain ⟨b1, b2, b3, b4, b5, b6, xa, hec, hev⟩ : ∃ b1 b2 b3 b4 b5 b6 xa, ec (V 5) = [.bool b1, .bool b2, .bool b3, .bool b4, .bool b5, .bool b6, .int .i64 xa] ∧ (.agg #[.bool (N.fb (V 5) 1), .bool (N.fb (V 5) 2), .bool (N.fb (V 5) 4), .bool (N.fb (V 5) 8), .bool (N.fb (V 5) 16), .bool (N.fb (V 5) 32), .int .i64 ((V 5) / 256)] : Value) = .agg #[.bool b1, .bool b2, .bool b3, .bool b4, .bool b5, .bool b6, .int .i64 xa] := ⟨_, _, _, _, _, _, _, rfl, rfl⟩
      have HEC : Hid (ec (V 5) = [.bool b1, .bool b2, .bool b3, .bool b4, .bool b5, .bool b6, .int .i64 xa]) := hec
      have HEV : Hid ((.agg #[.bool (N.fb (V 5) 1), .bool (N.fb (V 5) 2), .bool (N.fb (V 5) 4), .bool (N.fb (V 5) 8), .bool (N.fb (V 5) 16), .bool (N.fb (V 5) 32), .int .i64 ((V 5) / 256)] : Value) = .agg #[.bool b1, .bool b2, .bool b3, .bool b4, .bool b5, .bool b6, .int .i64 xa]) := hev
      have ees := N.eqE_self b1 b2 b3 b4 b5 b6 xa
      clear hec hev cd A0 hlt
      rcases h3 with h3 | ⟨h3, h3'⟩ | ⟨h3, h3', h3''⟩
      all_goals
        go_wp2_with fail
        refine CD.out.mono ?_
        rintro e w5 ⟨rfl, S', m', hz5⟩
        have Z5 : Hid (Az w w5 t cc p r s (gr + 1) S' m' (V 5)) := hz5
        have cg := hz5.get
        rw [HEV.out] at cg
        have CG : Hid (Calls Tryz.prog 32 #[.pointer (some ⟨t, 0, none⟩), .int .i64 (s : Nat), .int .i64 1] w5 _) := cg
        clear cg hz5 CD
        go_wp2_with fail
        refine CG.out.mono ?_
        rintro e w6 ⟨rfl, hz6⟩
        have Z6 : Hid (Az w (w6.alloc (.cells #[.bool b1, .bool b2, .bool b3, .bool b4, .bool b5, .bool b6, .int .i64 xa] 38)) t cc p r s (gr + 1) S' m' (V 5)) := hz6.below ((Below.refl _ _).alloc (Nat.le_refl _) _)
        have BB : Hid (C.Blk (w6.alloc (.cells #[.bool b1, .bool b2, .bool b3, .bool b4, .bool b5, .bool b6, .int .i64 xa] 38)) w6.heap.size 38 [.bool b1, .bool b2, .bool b3, .bool b4, .bool b5, .bool b6, .int .i64 xa]) := C.blk_new _ _ _
        have CN : Hid (Calls _ _ _ _ _) := Z6.out.get_no ha4
        clear hz6 CG Z5
        go_wp2_with fail
        refine CN.out.mono ?_
        rintro e w7 ⟨rfl, hb7⟩
        have Z7 : Hid (Az w w7 t cc p r s (gr + 1) S' m' (V 5)) := Z6.out.below hb7
        have B7 := BB.out.of_eq (hb7.block _ BB.out.lt)
        have rg := Z7.out.rg
        rw [HEC.out] at rg
        obtain ⟨d0, d1, d2, d3, d4, d5, d6⟩ := range7 rg
        have x0 := B7.cell 0
        have x1 := B7.cell 1
        have x2 := B7.cell 2
        have x3 := B7.cell 3
        have x4 := B7.cell 4
        have x5 := B7.cell 5
        have x6 := B7.cell 6
        simp only [List.getElem?_cons_zero, List.getElem?_cons_succ] at x0 x1 x2 x3 x4 x5 x6
        have CC : Hid (Calls _ _ _ _ _) := Z7.out.counts
        clear hb7 B7 rg CN Z6 BB
        go_wp2_with (go_at_call 14; refine CC.out.mono ?_; rintro e wz ⟨y0, y1, y2, y4, y5, y6, rfl, be⟩; have HB : Hid (Below w.heap.size w wz) := be; clear be)
        go_ret
        exact ⟨rfl, HB.out⟩
end Go.Proofs.YtiegcncpgjnpbaaGreat.Pg
