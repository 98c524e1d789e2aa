/- PoolQuotas walked; no condition but those that each theorem names. -/
import Derived.Test.YtifchflbhdnfaaaGreatVAd
namespace Go.Proofs.YtifchflbhdnfaaaGreat.P
open Go.ChangeShapes Go.WideShapes Go.ChangeAt Go.RowKit
set_option linter.unusedVariables false
set_option maxRecDepth 8192

/-- A pool beside the configuration's box. -/
structure Tc (w0 w : World) (a : Ad) (c : Cf) (n p : Nat) (F : Nat → Prop) (us : Us) : Prop where
  cb : Cb w0 w w0.heap.size a c
  po : Po w F p (par c n) us
  fo : ∀ x, F x → w0.heap.size < x
theorem Tc.below {w0 w w' : World} {a : Ad} {c : Cf} {n p : Nat} {F : Nat → Prop} {us : Us} (h : Tc w0 w a c n p F us) (k : Below w.heap.size w w') : Tc w0 w' a c n p F us := ⟨h.cb.below k, h.po.below k, h.fo⟩
theorem Tc.turn {w0 w w' : World} {a : Ad} {c : Cf} {n p : Nat} {F F' : Nat → Prop} {us us' : Us} (hc : Cin w0 a c) (h : Tc w0 w a c n p F us) (k : B.Kp F F' w w') (hp : Po w' F' p (par c n) us') : Tc w0 w' a c n p F' us' := by
  have hb : Below w0.heap.size w0 w' := h.cb.be.trans (k.below _ h.cb.be.size (fun x hx => by have := h.fo x hx; omega))
  refine ⟨⟨hb, Sev.keep h.cb.bx k.size (k.block _ h.cb.bx.lt (fun z => by have := h.fo _ z; omega)), hc.below hb⟩, hp, fun x hx => ?_⟩
  rcases k.new x hx with z | z
  · exact h.fo x z
  · have := h.cb.bx.lt
    omega
theorem tc_new {w0 w w' : World} {a : Ad} {c : Cf} {n p : Nat} {F : Nat → Prop} {us : Us} (h : Cb w0 w w0.heap.size a c) (k : B.Kp (fun _ => False) F w w') (hp : Po w' F p (par c n) us) : Tc w0 w' a c n p F us :=
  ⟨h.below (kp_false k), hp, fun x hx => by
    rcases k.new x hx with z | z
    · exact z.elim
    · have := h.bx.lt
      omega⟩
/-- The uses that have not been asked for have no frame. -/
def Nd (f k : Nat) (us : Us) : Prop := ∀ v, 2 ≤ v → v ≤ 6 → (∀ i, i < k → v ≠ 2 + (f + i) % 5) → cU us v 4096 = 0
theorem nd_next {f k : Nat} {us : Us} (h : Nd f k us) : Nd f (k + 1) us := fun v h2 h6 hv => h v h2 h6 (fun i hi => hv i (by omega))
theorem nd_this {f k : Nat} {us : Us} (hk : k < 5) (h : Nd f k us) : cU us (2 + (f + k) % 5) 4096 = 0 := h _ (by omega) (by omega) (fun i hi => by omega)
theorem cU_tkn {P : Par} (hP : P.Ok) {us : Us} {u g : Nat} {us' : Us} (h : Tkn P us u g us') (v : Nat) : cU us' v 4096 = cU us v 4096 + if v = u then 1 else 0 := by
  obtain ⟨a, h1, rfl, rfl⟩ := h
  have ho := opn_iff.1 h1.open
  exact cU_take ho.2 u v (fm_lt hP (best_lt hP us) ho.1)
theorem nd_take {P : Par} (hP : P.Ok) {f k : Nat} {us : Us} {g : Nat} {us' : Us} (h : Nd f (k + 1) us) (hT : Tkn P us (2 + (f + k) % 5) g us') : Nd f (k + 1) us' := fun v h2 h6 hv => by
  rw [cU_tkn hP hT v, h v h2 h6 hv, if_neg (hv k (by omega))]
set_option maxHeartbeats 8000000 in
theorem PoolQuotas_ok {w : World} {a : Ad} {c : Cf} (hc : Cin w a c) (n : Nat) (hm : may c = true) (hn : n < c.pn) (f : Nat) (hf : f ≤ 255) :
    Calls Tryz.prog 5 #[.agg #[.int .i64 c.F, .int .i64 c.C, .int .i64 c.W, .int .i64 c.S, .int .i64 c.V, .int .i64 c.T, .int .u64 c.k.l1, .int .u64 c.k.llc, .int .u64 c.k.mi, .int .u64 c.k.fa, .int .u64 c.k.st, .int .u64 c.k.di, .int .u64 c.sl, .int .u64 c.pd, .int .u64 c.ft, .slice a.ta c.tn a.tc, .slice a.pa c.pn a.pc], .int .i64 n, .int .u8 f] w (One (.bool true) w) := by
  have HB0 := cb_new hc
  have HCin : Hid (Cin w a c) := hc
  have C0 : Hid (∀ W, Calls Tryz.prog 18 #[] W (One (.bool true) W)) := works_any
  have CN : Hid (∀ W, Cin W a c → Calls Tryz.prog 7 #[.agg #[.int .i64 c.F, .int .i64 c.C, .int .i64 c.W, .int .i64 c.S, .int .i64 c.V, .int .i64 c.T, .int .u64 c.k.l1, .int .u64 c.k.llc, .int .u64 c.k.mi, .int .u64 c.k.fa, .int .u64 c.k.st, .int .u64 c.k.di, .int .u64 c.sl, .int .u64 c.pd, .int .u64 c.ft, .slice a.ta c.tn a.tc, .slice a.pa c.pn a.pc], .int .i64 n] W fun e w' => ∃ p F, e = .returned (.tuple #[.pointer (some ⟨p, 0, none⟩), .int .i64 0]) ∧ Po w' F p (par c n) (fun _ => none) ∧ B.Kp (fun _ => False) F W w') := fun W hW => New_p hW n hm hn
  have CA : Hid (∀ W p F us, Cin W a c → Po W F p (par c n) us → Calls Tryz.prog 22 #[.agg #[.int .i64 c.F, .int .i64 c.C, .int .i64 c.W, .int .i64 c.S, .int .i64 c.V, .int .i64 c.T, .int .u64 c.k.l1, .int .u64 c.k.llc, .int .u64 c.k.mi, .int .u64 c.k.fa, .int .u64 c.k.st, .int .u64 c.k.di, .int .u64 c.sl, .int .u64 c.pd, .int .u64 c.ft, .slice a.ta c.tn a.tc, .slice a.pa c.pn a.pc], .int .i64 n, .pointer (some ⟨p, 0, none⟩)] W (One (.bool true) W)) := fun W p F us h1 h2 => adds_ok h1 n hm hn h2
  have HO : Hid c.Ok := may_iff.1 hm
  have HP : Hid (par c n).Ok := par_ok (may_iff.1 hm) hn
  obtain ⟨ai, hai⟩ := (show ∃ a, Nx (opn (par c n) (fun _ => none) 0) (par c n).o a from by
    have h3 := HP.out.o3
    refine nx_of_wh (q := 0) (by rw [opn_new]; exact B.St.new _) (by omega) ?_
    rw [opn_new, B.wh_op0]
    have := HP.out.im
    omega)
  have HA : Hid (Nx (opn (par c n) (fun _ => none) 0) (par c n).o ai) := hai
  have hpl := hc.pl
  have hp1 : (n : Int) < (c.pn : Int) := by omega
  have hp0 : (0 : Int) ≤ (n : Int) := by omega
  have HNd0 : Hid (Nd f 0 (mkI (par c n) (fun _ => none) ai (2 ^ (par c n).o))) := fun v h2 h6 _ => by
    rw [cU_mk HP.out (room_of hai.wh.1 hai.wh.2) v (Nat.le_refl _), cU_none, if_neg (by omega)]
  clear hc hm hai
  go_enter Tryz.func5, Tryz.ntmps5
  go_upto_region 1 with fail
  obtain ⟨W, hW, HB⟩ : ∃ W, (w.alloc (.cells #[.int .i64 c.F, .int .i64 c.C, .int .i64 c.W, .int .i64 c.S, .int .i64 c.V, .int .i64 c.T, .int .u64 c.k.l1, .int .u64 c.k.llc, .int .u64 c.k.mi, .int .u64 c.k.fa, .int .u64 c.k.st, .int .u64 c.k.di, .int .u64 c.sl, .int .u64 c.pd, .int .u64 c.ft, .slice a.ta c.tn a.tc, .slice a.pa c.pn a.pc] 28)) = W ∧ Hid (Cb w W w.heap.size a c) := ⟨_, rfl, HB0⟩
  rw [hW]
  clear hW HB0
  go_wp2_with fail
  refine (C0.out _).mono ?_
  rintro e w1 ⟨rfl, k1⟩
  have H1 : Hid (Cb w w1 w.heap.size a c) := HB.out.below k1
  have hld := H1.out.bx.ld
  clear HB k1 C0
  go_wp2_with (refine wpList_load_at rfl 28 (.tmp 3) rfl _ _ rfl hld ?_)
  refine (CN.out _ H1.out.ci).mono ?_
  rintro e w2 ⟨p, F2, rfl, hP2, hK2⟩
  have T2 : Hid (Tc w w2 a c n p F2 (fun _ => none)) := tc_new H1.out hK2 hP2
  have CI : Hid (Calls _ _ _ _ _) := Image_p hP2 (cU_none _ _) ai HA.out
  clear hld CN H1 hP2 hK2
  go_wp2_with fail
  refine CI.out.mono ?_
  rintro e w3 ⟨vi, F3, rfl, _, _, hP3, hK3⟩
  have T3 : Hid (Tc w w3 a c n p F3 (mkI (par c n) (fun _ => none) ai (2 ^ (par c n).o))) := T2.out.turn HCin.out hK3 hP3
  clear CI hP3 hK3 T2 HA
  generalize mkI (par c n) (fun _ => none) ai (2 ^ (par c n).o) = us3 at *
  go_wp2
  go_loopw [9] (fun z wr => ∃ k : Nat, k ≤ 5 ∧ z = .int .u8 k ∧ ∃ F us, Tc w wr a c n p F us ∧ Nd f k us) (fun z _ => 5 - (B.iv z).toNat)
  case atStart => exact ⟨0, by omega, rfl, _, _, T3.out, HNd0.out⟩
  case round =>
    obtain ⟨k, hk, rfl, F, us, hT, hN⟩ := hrel
    have T4 : Hid (Tc w wr a c n p F us) := hT
    clear hT T3
    by_cases hk5 : k < 5
    · obtain ⟨u, hu⟩ : ∃ u, 2 + (f + k) % 5 = u := ⟨_, rfl⟩
      have hu2 : 2 ≤ u ∧ u ≤ 6 := by omega
      have HU : Hid (2 + (f + k) % 5 = u) := hu
      have HUS : Hid ((2 : Int) + ((f : Int) + (k : Int)) % 5 = (u : Int)) := by show (2 : Int) + ((f : Int) + (k : Int)) % 5 = (u : Int); omega
      have HZ : Hid (cU us u 4096 = 0) := by have := nd_this hk5 hN; rw [hu] at this; exact this
      have HN1 : Hid (Nd f (k + 1) us) := nd_next hN
      have hqe := q_of HO.out hn hu2.1 hu2.2
      obtain ⟨Q, hQ⟩ : ∃ Q, (par c n).q u = Q := ⟨_, rfl⟩
      have HQ : Hid ((par c n).q u = Q) := hQ
      rw [hQ] at hqe
      have hQ4 : Q ≤ 4096 := by rw [← hQ]; exact HP.out.qm u
      have CQ : Hid (∀ W, Calls Tryz.prog 24 #[.agg #[.slice (a.ca n) (c.pf n).n (a.cc n), .int .i64 (c.pf n).o, .int .i64 (c.pf n).u, .int .i64 (c.pf n).t, .int .i64 (c.pf n).s, .int .i64 (c.pf n).r, .int .i64 (c.pf n).d, .int .i64 (c.pf n).z], .int .u8 u] W (One (.int .i64 (Q : Nat)) W)) := fun W => by rw [hqe]; exact quota_any _ _ _ u (by omega)
      have hkI : (k : Int) < 5 := by omega
      clear hN hu hQ hqe
      go_wp2
      rw [HUS.out, show ((f : Int) % 5 + (k : Int)) % 5 = ((f : Int) + (k : Int)) % 5 by omega]
      go_loopw [11] (fun z wr => ∃ i : Nat, i ≤ Q ∧ z = .int .i64 i ∧ ∃ F us, Tc w wr a c n p F us ∧ Nd f (k + 1) us ∧ cU us u 4096 = i) (fun z _ => Q - (B.iv z).toNat)
      case atStart => exact ⟨0, by omega, rfl, _, _, T4.out, HN1.out, HZ.out⟩
      case round =>
        obtain ⟨i, hi, rfl, F, us, hT, hN, hcu⟩ := hrel
        have T5 : Hid (Tc w wr a c n p F us) := hT
        have HN5 : Hid (Nd f (k + 1) us) := hN
        have HC5 : Hid (cU us u 4096 = i) := hcu
        obtain ⟨b, off, hq, ⟨_, e0, e1, e2, e3, e4, e5, e6, e7⟩⟩ := hT.cb.ci.p.at' hn
        have c16 := hT.cb.bx.c16
        rw [hq] at c16
        clear hT hN hcu hq T4 HZ HN1
        by_cases hiQ : i < Q
        · have hiI : (i : Int) < (Q : Int) := by omega
          have hi5 : (i : Int) < 5000 := by omega
          go_wp2_with fail
          refine (CQ.out _).mono ?_
          rintro e w5 ⟨rfl, k5⟩
          have T6 : Hid (Tc w w5 a c n p F us) := T5.out.below k5
          have CT : Hid (Calls _ _ _ _ _) := Take_p T6.out.po u hu2.1 hu2.2 (by rw [HC5.out, HQ.out]; exact hiQ)
          clear e0 e1 e2 e3 e4 e5 e6 e7 c16 k5 T5
          go_wp2_with fail
          refine CT.out.mono ?_
          rintro e w6 ⟨g6, us6, F6, rfl, hT6, hP6, hK6⟩
          have T7 : Hid (Tc w w6 a c n p F6 us6) := T6.out.turn HCin.out hK6 hP6
          have HN7 : Hid (Nd f (k + 1) us6) := nd_take HP.out HN5.out (by rw [HU.out]; exact hT6)
          have HC7 : Hid (cU us6 u 4096 = i + 1) := by show cU us6 u 4096 = i + 1; rw [cU_tkn HP.out hT6 u, HC5.out, if_pos rfl]
          clear CT hT6 hP6 hK6 T6 HN5 HC5
          go_wp2
          go_roundw
          case rel => exact ⟨i + 1, by omega, by go_num, _, _, T7.out, HN7.out, HC7.out⟩
          case measure => simp [B.iv]; omega
        · have hiI : ¬ ((i : Int) < (Q : Int)) := by omega
          go_wp2_with fail
          refine (CQ.out _).mono ?_
          rintro e w5 ⟨rfl, k5⟩
          have T6 : Hid (Tc w w5 a c n p F us) := T5.out.below k5
          have CT : Hid (Calls _ _ _ _ _) := Take_mem T6.out.po u hu2.1 hu2.2 (by rw [HC5.out, HQ.out]; omega)
          clear e0 e1 e2 e3 e4 e5 e6 e7 c16 k5 T5
          go_wp2_with fail
          refine CT.out.mono ?_
          rintro e w6 ⟨rfl, k6⟩
          have T7 : Hid (Tc w w6 a c n p F us) := T6.out.below k6
          clear CT k6 T6 HC5
          go_wp2
          go_roundw
          case rel => exact ⟨k + 1, by omega, by go_num, _, _, T7.out, HN5.out⟩
          case measure => simp [B.iv]; omega
    · obtain rfl : k = 5 := by omega
      have hld := T4.out.cb.bx.ld
      go_wp2_with (refine wpList_load_wanted rfl 28 (.tmp 3) rfl _ _ rfl hld ?_)
      refine (CA.out _ _ _ _ T4.out.cb.ci T4.out.po).mono ?_
      rintro e w5 ⟨rfl, k5⟩
      have H5 : Hid (Below w.heap.size w w5) := (T4.out.below k5).cb.be
      clear hld k5 CA T4
      go_wp2
      go_ret
      exact ⟨rfl, H5.out⟩
theorem PoolQuotas_no {w : World} {a : Ad} {c : Cf} (hc : Cin w a c) (n : Int) (f : Int) (hf : fe c n ≠ 0) :
    Calls Tryz.prog 5 #[.agg #[.int .i64 c.F, .int .i64 c.C, .int .i64 c.W, .int .i64 c.S, .int .i64 c.V, .int .i64 c.T, .int .u64 c.k.l1, .int .u64 c.k.llc, .int .u64 c.k.mi, .int .u64 c.k.fa, .int .u64 c.k.st, .int .u64 c.k.di, .int .u64 c.sl, .int .u64 c.pd, .int .u64 c.ft, .slice a.ta c.tn a.tc, .slice a.pa c.pn a.pc], .int .i64 n, .int .u8 f] w (One (.bool true) w) := by
  have HB0 := cb_new hc
  have C0 : Hid (∀ W, Calls Tryz.prog 18 #[] W (One (.bool true) W)) := works_any
  have CN : Hid (∀ W, Cin W a c → Calls Tryz.prog 7 #[.agg #[.int .i64 c.F, .int .i64 c.C, .int .i64 c.W, .int .i64 c.S, .int .i64 c.V, .int .i64 c.T, .int .u64 c.k.l1, .int .u64 c.k.llc, .int .u64 c.k.mi, .int .u64 c.k.fa, .int .u64 c.k.st, .int .u64 c.k.di, .int .u64 c.sl, .int .u64 c.pd, .int .u64 c.ft, .slice a.ta c.tn a.tc, .slice a.pa c.pn a.pc], .int .i64 n] W fun e w' => e = .returned (.tuple #[.pointer none, .int .i64 (fe c n)]) ∧ Below W.heap.size W w') := fun W hW => New_no hW n hf
  generalize hfe : fe c n = e0 at *
  clear hc hfe
  go_enter Tryz.func5, Tryz.ntmps5
  go_upto_region 1 with fail
  obtain ⟨W, hW, HB⟩ : ∃ W, (w.alloc (.cells #[.int .i64 c.F, .int .i64 c.C, .int .i64 c.W, .int .i64 c.S, .int .i64 c.V, .int .i64 c.T, .int .u64 c.k.l1, .int .u64 c.k.llc, .int .u64 c.k.mi, .int .u64 c.k.fa, .int .u64 c.k.st, .int .u64 c.k.di, .int .u64 c.sl, .int .u64 c.pd, .int .u64 c.ft, .slice a.ta c.tn a.tc, .slice a.pa c.pn a.pc] 28)) = W ∧ Hid (Cb w W w.heap.size a c) := ⟨_, rfl, HB0⟩
  rw [hW]
  clear hW HB0
  go_wp2_with fail
  refine (C0.out _).mono ?_
  rintro e w1 ⟨rfl, k1⟩
  have H1 : Hid (Cb w w1 w.heap.size a c) := HB.out.below k1
  have hld := H1.out.bx.ld
  clear HB k1 C0
  go_wp2_with (refine wpList_load_at rfl 28 (.tmp 3) rfl _ _ rfl hld ?_)
  refine (CN.out _ H1.out.ci).mono ?_
  rintro e w2 ⟨rfl, k2⟩
  have H2 : Hid (Below w.heap.size w w2) := (H1.out.below k2).be
  clear hld k2 H1 CN
  go_wp2
  go_ret
  exact ⟨rfl, H2.out⟩
theorem PoolQuotas_walk {w : World} {a : Ad} {c : Cf} (hc : Cin w a c) (n : Int) (f : Int) (hf0 : 0 ≤ f) (hf : f ≤ 255) :
    Calls Tryz.prog 5 #[.agg #[.int .i64 c.F, .int .i64 c.C, .int .i64 c.W, .int .i64 c.S, .int .i64 c.V, .int .i64 c.T, .int .u64 c.k.l1, .int .u64 c.k.llc, .int .u64 c.k.mi, .int .u64 c.k.fa, .int .u64 c.k.st, .int .u64 c.k.di, .int .u64 c.sl, .int .u64 c.pd, .int .u64 c.ft, .slice a.ta c.tn a.tc, .slice a.pa c.pn a.pc], .int .i64 n, .int .u8 f] w (One (.bool true) w) := by
  by_cases he : fe c n = 0
  · obtain ⟨hm, m, rfl, hmn⟩ := fe_zero he
    obtain ⟨x, rfl⟩ : ∃ x : Nat, f = x := ⟨f.toNat, by omega⟩
    exact PoolQuotas_ok hc m hm hmn x (by omega)
  · exact PoolQuotas_no hc n f he
end Go.Proofs.YtifchflbhdnfaaaGreat.P
