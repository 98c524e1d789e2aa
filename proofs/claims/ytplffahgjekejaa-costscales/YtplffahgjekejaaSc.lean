/- CostScales: where all costs are so many times as great, so are the bounds, a touch and a switch; which kind costs at most what another one does. -/
import Derived.Test.YtplffahgjekejaaSm
import Derived.Deep.Cut
namespace Go.Proofs.Ytplffahgjekejaa
open Go.ChangeShapes Go.WideShapes Go.ChangeAt Go.RowKit
set_option linter.unusedVariables false

theorem times_in (a : Int) (h : 0 ≤ a) : 1 ≤ 1 + a % 8 ∧ 1 + a % 8 ≤ 8 := by omega
set_option maxRecDepth 20000 in
theorem scales_cost (c : Co) (s : Sh) (a : Int) (h0 : 0 ≤ a) (h : okC c = false) (w : World) : Calls Try.prog 7 #[.agg #[.int .u64 c.l1, .int .u64 c.llc, .int .u64 c.mi, .int .u64 c.fa, .int .u64 c.st, .int .u64 c.di], .agg #[.int .i64 s.im, .int .i64 s.us, .int .i64 s.li, .int .i64 s.no], .int .u64 a] w fun e w' => e = .returned (.bool true) ∧ Below w.heap.size w w' := by
  have C : Hid (∀ w, Calls Try.prog 8 #[.agg #[.int .u64 c.l1, .int .u64 c.llc, .int .u64 c.mi, .int .u64 c.fa, .int .u64 c.st, .int .u64 c.di]] w (One (.int .i64 100) w)) := fun w => by have := Check_any c w; rwa [er_f h] at this
  have B0 : Hid (Bx w ((w.alloc (.cells #[.int .u64 c.l1, .int .u64 c.llc, .int .u64 c.mi, .int .u64 c.fa, .int .u64 c.st, .int .u64 c.di] 24)).alloc (.cells #[.int .i64 s.im, .int .i64 s.us, .int .i64 s.li, .int .i64 s.no] 35)) w.heap.size (w.heap.size + 1) c s) := bx_new w c s
  clear h
  go_enter Try.func7, Try.ntmps7
  go_wp2_with fail
  generalize ((w.alloc (.cells #[.int .u64 c.l1, .int .u64 c.llc, .int .u64 c.mi, .int .u64 c.fa, .int .u64 c.st, .int .u64 c.di] 24)).alloc (.cells #[.int .i64 s.im, .int .i64 s.us, .int .i64 s.li, .int .i64 s.no] 35)) = w0 at *
  refine (works_any _).mono ?_
  rintro e w1 ⟨rfl, k1⟩
  have B1 : Hid (Bx w w1 w.heap.size (w.heap.size + 1) c s) := B0.out.below k1
  clear k1 B0
  obtain ⟨_, c0, c1, c2, c3, c4, c5⟩ := B1.out.cs
  go_wp2_with fail
  refine (C.out _).mono ?_
  rintro e w2 ⟨rfl, k2⟩
  have FIN : Hid (Below w.heap.size w w2) := B1.out.be.trans (k2.mono B1.out.be.size)
  clear k2 B1 C c0 c1 c2 c3 c4 c5
  go_wp2
  go_ret
  exact ⟨rfl, FIN.out⟩
set_option maxRecDepth 20000 in
set_option maxHeartbeats 4000000 in
theorem scales_arg (c : Co) (s : Sh) (a : Int) (h0 : 0 ≤ a) (h : c.Ok) (k : okS s = false) (w : World) : Calls Try.prog 7 #[.agg #[.int .u64 c.l1, .int .u64 c.llc, .int .u64 c.mi, .int .u64 c.fa, .int .u64 c.st, .int .u64 c.di], .agg #[.int .i64 s.im, .int .i64 s.us, .int .i64 s.li, .int .i64 s.no], .int .u64 a] w fun e w' => e = .returned (.bool true) ∧ Below w.heap.size w w' := by
  have C : Hid (∀ w, Calls Try.prog 8 #[.agg #[.int .u64 c.l1, .int .u64 c.llc, .int .u64 c.mi, .int .u64 c.fa, .int .u64 c.st, .int .u64 c.di]] w (One (.int .i64 0) w)) := fun w => by have := Check_any c w; rwa [er_t (okC_iff.2 h)] at this
  obtain ⟨n1, n2⟩ := times_in a h0
  obtain ⟨n, hn⟩ : ∃ n, 1 + a % 8 = n := ⟨_, rfl⟩
  rw [hn] at n1 n2
  have HO : Hid (c.Ok) := h
  obtain ⟨ev, C2⟩ : ∃ ev, Hid (∀ w, Calls Try.prog 8 #[.agg #[.int .u64 (n * c.l1), .int .u64 (n * c.llc), .int .u64 (n * c.mi), .int .u64 (n * c.fa), .int .u64 (n * c.st), .int .u64 (n * c.di)]] w (One (.int .i64 ev) w)) := ⟨_, fun w => Check_any (tm n c) w⟩
  have W1 : Hid (∀ q w, Calls Try.prog 15 #[.agg #[.int .u64 c.l1, .int .u64 c.llc, .int .u64 c.mi, .int .u64 c.fa, .int .u64 c.st, .int .u64 c.di], .agg #[.int .i64 s.im, .int .i64 s.us, .int .i64 s.li, .int .i64 s.no], .int .u8 q] w (Two 0 2 w)) := fun q w => by
    have e := ers_s (okC_iff.2 h) k
    have := Worst_no c s q (by rw [e]; decide) w
    rwa [e] at this
  obtain ⟨a1, a2, a3, a4, b1, b2, d1, d2, e1', e2⟩ := h
  have q0 := prod_le n c.l1 8 65536 (by omega) (by omega) (by omega) (by omega)
  have q1 := prod_le n c.llc 8 65536 (by omega) (by omega) (by omega) (by omega)
  have q2 := prod_le n c.mi 8 65536 (by omega) (by omega) (by omega) (by omega)
  have q3 := prod_le n c.fa 8 65536 (by omega) (by omega) (by omega) (by omega)
  have q4 := prod_le n c.st 8 65536 (by omega) (by omega) (by omega) (by omega)
  have q5 := prod_le n c.di 8 65536 (by omega) (by omega) (by omega) (by omega)
  have q6 := prod_le n (12 * c.st) 8 786432 (by omega) (by omega) (by omega) (by omega)
  obtain ⟨i0, hi, hz0, hz1, hz2⟩ := info_parts Try.infoU
  have B0 : Hid (Bx w ((w.alloc (.cells #[.int .u64 c.l1, .int .u64 c.llc, .int .u64 c.mi, .int .u64 c.fa, .int .u64 c.st, .int .u64 c.di] 24)).alloc (.cells #[.int .i64 s.im, .int .i64 s.us, .int .i64 s.li, .int .i64 s.no] 35)) w.heap.size (w.heap.size + 1) c s) := bx_new w c s
  clear k
  go_enter Try.func7, Try.ntmps7
  go_wp2_with fail
  generalize ((w.alloc (.cells #[.int .u64 c.l1, .int .u64 c.llc, .int .u64 c.mi, .int .u64 c.fa, .int .u64 c.st, .int .u64 c.di] 24)).alloc (.cells #[.int .i64 s.im, .int .i64 s.us, .int .i64 s.li, .int .i64 s.no] 35)) = w0 at *
  generalize hb1 : w.heap.size + 1 = b1 at *
  generalize hb : w.heap.size = b at *
  refine (works_any _).mono ?_
  rintro e w1 ⟨rfl, k1⟩
  have B1 : Hid (Bx w w1 b b1 c s) := B0.out.below k1
  clear k1 B0
  obtain ⟨_, c0, c1, c2, c3, c4, c5⟩ := B1.out.cs
  go_wp2_with fail

  clear hn h0
  refine (C.out _).mono ?_
  rintro e w2 ⟨rfl, k2⟩
  have B2 : Hid (Bx w w2 b b1 c s) := B1.out.below k2
  clear k2 B1 C c0 c1 c2 c3 c4 c5
  obtain ⟨_, c0, c1, c2, c3, c4, c5⟩ := B2.out.cs
  go_wp2_with fail
  refine (C2.out _).mono ?_
  rintro e W ⟨rfl, k3⟩
  have HB : Hid (Bx w W b b1 c s) := (B2.out.below (below_new _ _)).below k3
  have HD : Hid (Six W w2.heap.size (tm n c)) := by
    skip
    exact (six_new w2 (tm n c)).below k3
  generalize w2.heap.size = g at *
  clear k3 C2 B2 c0 c1 c2 c3 c4 c5 q0 q1 q2 q3 q4 q5
  go_wp2_with fail
  go_loopw [9, 10] (fun v i wr => i = .int .i64 0 ∧ Bx w wr b b1 c s) (fun _ _ _ => 0)
  case atStart => exact ⟨rfl, HB.out⟩
  case round =>
    clear HB
    obtain ⟨rfl, hB⟩ := hrel
    have HB : Hid (Bx w wr b b1 c s) := hB
    clear hB
    obtain ⟨_, c0, c1, c2, c3, c4, c5⟩ := HB.out.cs
    obtain ⟨_, s0, s1, s2, s3⟩ := HB.out.ss
    go_wp2_with fail
    refine (W1.out _ _).mono ?_
    rintro e w5 ⟨rfl, k5⟩
    have FIN : Hid (Below w.heap.size w w5) := HB.out.be.trans (k5.mono HB.out.be.size)
    clear k5 HB c0 c1 c2 c3 c4 c5 s0 s1 s2 s3
    go_wp2
    go_ret
    subst hb
    exact ⟨rfl, FIN.out⟩
set_option maxRecDepth 20000 in
set_option maxHeartbeats 4000000 in
theorem scales_t (c : Co) (s : Sh) (a : Int) (h0 : 0 ≤ a) (h : c.Ok) (k : s.Ok) (m : (tm (1 + a % 8) c).Ok) (w : World) : Calls Try.prog 7 #[.agg #[.int .u64 c.l1, .int .u64 c.llc, .int .u64 c.mi, .int .u64 c.fa, .int .u64 c.st, .int .u64 c.di], .agg #[.int .i64 s.im, .int .i64 s.us, .int .i64 s.li, .int .i64 s.no], .int .u64 a] w fun e w' => e = .returned (.bool true) ∧ Below w.heap.size w w' := by
  have C : Hid (∀ w, Calls Try.prog 8 #[.agg #[.int .u64 c.l1, .int .u64 c.llc, .int .u64 c.mi, .int .u64 c.fa, .int .u64 c.st, .int .u64 c.di]] w (One (.int .i64 0) w)) := fun w => by have := Check_any c w; rwa [er_t (okC_iff.2 h)] at this
  obtain ⟨n1, n2⟩ := times_in a h0
  obtain ⟨n, hn⟩ : ∃ n, 1 + a % 8 = n := ⟨_, rfl⟩
  rw [hn] at n1 n2 m
  have HO : Hid (c.Ok) := h
  have C2 : Hid (∀ w, Calls Try.prog 8 #[.agg #[.int .u64 (n * c.l1), .int .u64 (n * c.llc), .int .u64 (n * c.mi), .int .u64 (n * c.fa), .int .u64 (n * c.st), .int .u64 (n * c.di)]] w (One (.int .i64 0) w)) := fun w => by have := Check_any (tm n c) w; rwa [er_t (okC_iff.2 m)] at this
  obtain ⟨f, W1, F, d, hd, W2, S1, S2, T1, T2⟩ : ∃ f : Nat → Int, Hid (∀ (q : Nat) w, Calls Try.prog 15 #[.agg #[.int .u64 c.l1, .int .u64 c.llc, .int .u64 c.mi, .int .u64 c.fa, .int .u64 c.st, .int .u64 c.di], .agg #[.int .i64 s.im, .int .i64 s.us, .int .i64 s.li, .int .i64 s.no], .int .u8 (q : Int)] w (Two (f q) 0 w)) ∧ Hid ((¬ f 9 < f 8 ∧ ¬ f 5 < f 6 ∧ ¬ f 7 < f 4 ∧ ¬ f 7 < f 5 ∧ f 0 = f 10 ∧ f 11 = f 10 ∧ (f 7 = f 4 ∨ f 7 ≠ f 4 ∧ f 7 = f 5)) ∧ ∀ q, 0 ≤ n * f q ∧ n * f q ≤ 8796093022208) ∧ ∃ d : Co, d = tm n c ∧ Hid (∀ (q : Nat) w, Calls Try.prog 15 #[.agg #[.int .u64 d.l1, .int .u64 d.llc, .int .u64 d.mi, .int .u64 d.fa, .int .u64 d.st, .int .u64 d.di], .agg #[.int .i64 s.im, .int .i64 s.us, .int .i64 s.li, .int .i64 s.no], .int .u8 (q : Int)] w (Two (n * f q) 0 w)) ∧
      Hid (∀ w, Calls Try.prog 12 #[.agg #[.int .u64 c.l1, .int .u64 c.llc, .int .u64 c.mi, .int .u64 c.fa, .int .u64 c.st, .int .u64 c.di], .int .i64 7, .int .i64 5] w (Two (12 * c.st) 0 w)) ∧ Hid (∀ w, Calls Try.prog 12 #[.agg #[.int .u64 d.l1, .int .u64 d.llc, .int .u64 d.mi, .int .u64 d.fa, .int .u64 d.st, .int .u64 d.di], .int .i64 7, .int .i64 5] w (Two (n * (12 * c.st)) 0 w)) ∧
      Hid (∀ w, Calls Try.prog 10 #[.agg #[.int .u64 c.l1, .int .u64 c.llc, .int .u64 c.mi, .int .u64 c.fa, .int .u64 c.st, .int .u64 c.di], .agg #[.bool false, .bool true]] w (Two c.llc 0 w)) ∧ Hid (∀ w, Calls Try.prog 10 #[.agg #[.int .u64 d.l1, .int .u64 d.llc, .int .u64 d.mi, .int .u64 d.fa, .int .u64 d.st, .int .u64 d.di], .agg #[.bool false, .bool true]] w (Two (n * c.llc) 0 w)) := by
    refine ⟨bd c s, fun q w => by have := Worst_ok c s h k (q : Int) (by omega) w; rwa [Int.toNat_natCast] at this, ⟨bd_order h k, fun q => ?_⟩, tm n c, rfl, fun q w => ?_, fun w => Switch_ok c (okC_iff.2 h) 7 5 (by decide) w, fun w => ?_, fun w => Touch_ok c (okC_iff.2 h) false true w, fun w => Touch_ok (tm n c) (okC_iff.2 m) false true w⟩
    · have p0 := bd_pos h k q
      have p1 := bd_less h k q
      have := prod_le n (bd c s q) 8 1099511627776 (by omega) (by omega) (by omega) (by omega)
      omega
    · have := Worst_ok (tm n c) s m k (q : Int) (by omega) w
      rw [Int.toNat_natCast, bd_tm n (by omega)] at this
      exact this
    · have := Switch_ok (tm n c) (okC_iff.2 m) 7 5 (by decide) w
      rw [show ((7 : Int) + 5) * (tm n c).st = n * (12 * c.st) from Int.mul_left_comm _ _ _] at this
      exact this
  obtain ⟨a1, a2, a3, a4, b1, b2, d1, d2, e1', e2⟩ := h
  have q0 := prod_le n c.l1 8 65536 (by omega) (by omega) (by omega) (by omega)
  have q1 := prod_le n c.llc 8 65536 (by omega) (by omega) (by omega) (by omega)
  have q2 := prod_le n c.mi 8 65536 (by omega) (by omega) (by omega) (by omega)
  have q3 := prod_le n c.fa 8 65536 (by omega) (by omega) (by omega) (by omega)
  have q4 := prod_le n c.st 8 65536 (by omega) (by omega) (by omega) (by omega)
  have q5 := prod_le n c.di 8 65536 (by omega) (by omega) (by omega) (by omega)
  have q6 := prod_le n (12 * c.st) 8 786432 (by omega) (by omega) (by omega) (by omega)
  obtain ⟨i0, hi, hz0, hz1, hz2⟩ := info_parts Try.infoU
  have B0 : Hid (Bx w ((w.alloc (.cells #[.int .u64 c.l1, .int .u64 c.llc, .int .u64 c.mi, .int .u64 c.fa, .int .u64 c.st, .int .u64 c.di] 24)).alloc (.cells #[.int .i64 s.im, .int .i64 s.us, .int .i64 s.li, .int .i64 s.no] 35)) w.heap.size (w.heap.size + 1) c s) := bx_new w c s
  clear k m
  go_enter Try.func7, Try.ntmps7
  go_wp2_with fail
  generalize ((w.alloc (.cells #[.int .u64 c.l1, .int .u64 c.llc, .int .u64 c.mi, .int .u64 c.fa, .int .u64 c.st, .int .u64 c.di] 24)).alloc (.cells #[.int .i64 s.im, .int .i64 s.us, .int .i64 s.li, .int .i64 s.no] 35)) = w0 at *
  generalize hb1 : w.heap.size + 1 = b1 at *
  generalize hb : w.heap.size = b at *
  refine (works_any _).mono ?_
  rintro e w1 ⟨rfl, k1⟩
  have B1 : Hid (Bx w w1 b b1 c s) := B0.out.below k1
  clear k1 B0
  obtain ⟨_, c0, c1, c2, c3, c4, c5⟩ := B1.out.cs
  go_wp2_with fail

  clear hn h0
  refine (C.out _).mono ?_
  rintro e w2 ⟨rfl, k2⟩
  have B2 : Hid (Bx w w2 b b1 c s) := B1.out.below k2
  clear k2 B1 C c0 c1 c2 c3 c4 c5
  obtain ⟨_, c0, c1, c2, c3, c4, c5⟩ := B2.out.cs
  go_wp2_with fail
  refine (C2.out _).mono ?_
  rintro e W ⟨rfl, k3⟩
  have HB : Hid (Bx w W b b1 c s) := (B2.out.below (below_new _ _)).below k3
  have HD : Hid (Six W w2.heap.size d) := by
    subst hd
    exact (six_new w2 (tm n c)).below k3
  generalize w2.heap.size = g at *
  clear k3 C2 B2 c0 c1 c2 c3 c4 c5 q0 q1 q2 q3 q4 q5 hd
  go_wp2_with fail
  go_loopw [9, 10] (fun v i wr => ∃ (k : Nat) (vv : Value), vv = v ∧ k ≤ 14 ∧ i = .int .i64 k ∧ wr.ownsRow W.heap.size 22 1 v k (enU f k) ∧ Below W.heap.size W wr) (fun _ i _ => 14 - (iv i).toNat)
  case atStart => exact ⟨0, _, rfl, by omega, rfl, World.ownsRow_nil _ _ _ _, Below.refl _ _⟩
  case round =>
    obtain ⟨k, v, hvv, hk, rfl, hI, hL⟩ := hrel
    subst hvv
    have HL : Hid (Below W.heap.size W wr) := hL
    have HI : Hid (wr.ownsRow W.heap.size 22 1 v k (enU f k)) := hI
    clear hI hL
    by_cases hlt : k < 14
    · obtain ⟨_, c0, c1, c2, c3, c4, c5⟩ := HB.out.cs.below HL.out
      obtain ⟨_, s0, s1, s2, s3⟩ := HB.out.ss.below HL.out
      have W1k : Hid (∀ w, Calls Try.prog 15 #[.agg #[.int .u64 c.l1, .int .u64 c.llc, .int .u64 c.mi, .int .u64 c.fa, .int .u64 c.st, .int .u64 c.di], .agg #[.int .i64 s.im, .int .i64 s.us, .int .i64 s.li, .int .i64 s.no], .int .u8 (k : Int)] w (Two (f k) 0 w)) := W1.out k
      have W2k : Hid (∀ w, Calls Try.prog 15 #[.agg #[.int .u64 d.l1, .int .u64 d.llc, .int .u64 d.mi, .int .u64 d.fa, .int .u64 d.st, .int .u64 d.di], .agg #[.int .i64 s.im, .int .i64 s.us, .int .i64 s.li, .int .i64 s.no], .int .u8 (k : Int)] w (Two (n * f k) 0 w)) := W2.out k
      have FE : Hid (enU f (k + 1) = enU f k ++ [.int .u64 (f k)]) := rfl
      obtain ⟨r0, r1⟩ := F.out.2 k
      generalize f k = A at *
      go_wp2_with fail
      refine (W1k.out _).mono ?_
      rintro e w5 ⟨rfl, k5⟩
      have HL5 : Hid (Below W.heap.size W w5) := HL.out.trans (k5.mono HL.out.size)
      have HI5 : Hid (w5.ownsRow W.heap.size 22 1 v k (enU f k)) := own_below HI.out k5
      have hs5 := HL5.out.size
      clear k5 HL HI c0 c1 c2 c3 c4 c5 s0 s1 s2 s3 W1k
      go_upto_region 16 with (at_builtin; refine wpList_append_own _ rfl (.tmp 75) (.tmp 77) 43 rfl W.heap.size 22 i0 _ 1 8 Try.underlying43 hi hz0 hz1 hz2 rfl (by decide) _ k _ rfl (HI5.out.alloc _) ⟨w5.heap.size, 0, none⟩ 1 1 [.int .u64 A] rfl rfl (cell_one_new _ _ _) (by intro u hu; simp at hu; subst hu; rfl) (by unfold maxLen; omega) (by omega) (by simp; omega) ?_; intro v2 w6 o2 gr2 nil2)
      have HL6 : Hid (Below W.heap.size W w6) := (HL5.out.alloc hs5 _).grown gr2 (by simp; omega) (fun t ht => (HI5.out.lt t ht).1)
      have HI6 : Hid (w6.ownsRow W.heap.size 22 1 v2 (k + 1) (enU f (k + 1))) := by unfold Hid; rw [FE.out]; exact o2
      clear o2 gr2 nil2 HI5 HL5 hs5 FE
      obtain ⟨_, c0, c1, c2, c3, c4, c5⟩ := HD.out.below HL6.out
      obtain ⟨_, s0, s1, s2, s3⟩ := HB.out.ss.below HL6.out
      go_wp2_with fail
      refine (W2k.out _).mono ?_
      rintro e w7 ⟨rfl, k7⟩
      have HL7 : Hid (Below W.heap.size W w7) := HL6.out.trans (k7.mono HL6.out.size)
      have HI7 : Hid (w7.ownsRow W.heap.size 22 1 v2 (k + 1) (enU f (k + 1))) := own_below HI6.out k7
      clear k7 HL6 HI6 c0 c1 c2 c3 c4 c5 s0 s1 s2 s3 W2k
      go_wp2
      go_roundw
      case rel => exact ⟨k + 1, _, rfl, by omega, by go_num, HI7.out, HL7.out⟩
      case measure => simp [iv]; omega
    · obtain rfl : k = 14 := by omega
      obtain ⟨gr, cp, hv, hg1, hg2⟩ := HI.out.form (by omega)
      subst hv
      have hcc : ∀ i, i < 14 → wr.cell? ⟨gr, i, none⟩ = some (.int .u64 (f i)) := fun i hi => by
        have := HI.out.cells rfl i (.int .u64 (f i)) (enU_get f 14 i hi)
        rw [Go.WideShapes.add_plain, Nat.zero_add] at this
        exact this
      have y0 := hcc 0 (by omega)
      have y4 := hcc 4 (by omega)
      have y5 := hcc 5 (by omega)
      have y6 := hcc 6 (by omega)
      have y7 := hcc 7 (by omega)
      have y8 := hcc 8 (by omega)
      have y9 := hcc 9 (by omega)
      have y10 := hcc 10 (by omega)
      have y11 := hcc 11 (by omega)
      obtain ⟨⟨g1, g2, g3, g4, g5, g6, g7⟩, _⟩ := F.out
      rw [g5] at y0
      rw [g6] at y11
      have g1 : ¬ f 9 < f 8 := by omega
      have g2 : ¬ f 5 < f 6 := by omega
      have g3 : ¬ f 7 < f 4 := by omega
      have g4 : ¬ f 7 < f 5 := by omega
      clear hcc W1 HI F W2 g5 g6
      generalize f 4 = x4 at *
      generalize f 5 = x5 at *
      generalize f 6 = x6 at *
      generalize f 7 = x7 at *
      generalize f 8 = x8 at *
      generalize f 9 = x9 at *
      generalize f 10 = x10 at *
      have FB : Hid (Bx w wr b b1 c s ∧ Six wr g d) := ⟨HB.out.below HL.out, HD.out.below HL.out⟩
      clear HB HD HL
      have g8 : x7 = x4 ∨ (x7 != x4) = true ∧ x7 = x5 := by
        rcases g7 with h | ⟨h, h'⟩
        · exact Or.inl h
        · exact Or.inr ⟨by simpa using h, h'⟩
      clear g7
      rcases g8 with rfl | ⟨g7, rfl⟩
      all_goals
        go_upto_region 20 with fail
        conv => arg 2; arg 2; simp only [List.append]
        go_big_quiet (fail)
        have FC : Hid (∀ n, Bx w (wr.drewN n) b b1 c s ∧ Six (wr.drewN n) g d) := fun n => ⟨FB.out.1.below (below_drewN' _ _ _), FB.out.2.below (below_drewN' _ _ _)⟩
        obtain ⟨_, c0, c1, c2, c3, c4, c5⟩ := FB.out.1.cs
        go_wp2_with fail
        refine (S1.out _).mono ?_
        rintro e z1 ⟨rfl, j1⟩
        have F1 : Hid (Bx w z1 b b1 c s ∧ Six z1 g d) := ⟨(FC.out _).1.below j1, (FC.out _).2.below j1⟩
        clear c0 c1 c2 c3 c4 c5 j1 FB FC y0 y4 y5 y6 y7 y8 y9 y10 y11
        obtain ⟨_, c0, c1, c2, c3, c4, c5⟩ := F1.out.2
        go_wp2_with fail
        refine (S2.out _).mono ?_
        rintro e z2 ⟨rfl, j2⟩
        have F2 : Hid (Bx w z2 b b1 c s ∧ Six z2 g d) := ⟨F1.out.1.below j2, F1.out.2.below j2⟩
        clear c0 c1 c2 c3 c4 c5 j2 F1
        obtain ⟨_, c0, c1, c2, c3, c4, c5⟩ := F2.out.1.cs
        go_wp2_with fail
        refine (T1.out _).mono ?_
        rintro e z3 ⟨rfl, j3⟩
        have F3 : Hid (Bx w z3 b b1 c s ∧ Six z3 g d) := ⟨F2.out.1.below j3, F2.out.2.below j3⟩
        clear c0 c1 c2 c3 c4 c5 j3 F2
        obtain ⟨_, c0, c1, c2, c3, c4, c5⟩ := F3.out.2
        go_wp2_with fail
        refine (T2.out _).mono ?_
        rintro e z4 ⟨rfl, j4⟩
        have F4 : Hid (Bx w z4 b b1 c s) := F3.out.1.below j4
        clear c0 c1 c2 c3 c4 c5 j4 F3
        have q1' := prod_le n c.llc 8 65536 (by omega) (by omega) (by omega) (by omega)
        go_wp2
        go_ret
        subst hb
        exact ⟨rfl, F4.out.be⟩
set_option maxRecDepth 20000 in
set_option maxHeartbeats 4000000 in
theorem scales_f (c : Co) (s : Sh) (a : Int) (h0 : 0 ≤ a) (h : c.Ok) (k : s.Ok) (m : okC (tm (1 + a % 8) c) = false) (w : World) : Calls Try.prog 7 #[.agg #[.int .u64 c.l1, .int .u64 c.llc, .int .u64 c.mi, .int .u64 c.fa, .int .u64 c.st, .int .u64 c.di], .agg #[.int .i64 s.im, .int .i64 s.us, .int .i64 s.li, .int .i64 s.no], .int .u64 a] w fun e w' => e = .returned (.bool true) ∧ Below w.heap.size w w' := by
  have C : Hid (∀ w, Calls Try.prog 8 #[.agg #[.int .u64 c.l1, .int .u64 c.llc, .int .u64 c.mi, .int .u64 c.fa, .int .u64 c.st, .int .u64 c.di]] w (One (.int .i64 0) w)) := fun w => by have := Check_any c w; rwa [er_t (okC_iff.2 h)] at this
  obtain ⟨n1, n2⟩ := times_in a h0
  obtain ⟨n, hn⟩ : ∃ n, 1 + a % 8 = n := ⟨_, rfl⟩
  rw [hn] at n1 n2 m
  have HO : Hid (c.Ok) := h
  have C2 : Hid (∀ w, Calls Try.prog 8 #[.agg #[.int .u64 (n * c.l1), .int .u64 (n * c.llc), .int .u64 (n * c.mi), .int .u64 (n * c.fa), .int .u64 (n * c.st), .int .u64 (n * c.di)]] w (One (.int .i64 100) w)) := fun w => by have := Check_any (tm n c) w; rwa [er_f m] at this
  obtain ⟨f, W1, F⟩ : ∃ f : Nat → Int, Hid (∀ (q : Nat) w, Calls Try.prog 15 #[.agg #[.int .u64 c.l1, .int .u64 c.llc, .int .u64 c.mi, .int .u64 c.fa, .int .u64 c.st, .int .u64 c.di], .agg #[.int .i64 s.im, .int .i64 s.us, .int .i64 s.li, .int .i64 s.no], .int .u8 (q : Int)] w (Two (f q) 0 w)) ∧ Hid ((¬ f 9 < f 8 ∧ ¬ f 5 < f 6 ∧ ¬ f 7 < f 4 ∧ ¬ f 7 < f 5 ∧ f 0 = f 10 ∧ f 11 = f 10 ∧ (f 7 = f 4 ∨ f 7 ≠ f 4 ∧ f 7 = f 5)) ∧ ∀ q, 0 ≤ n * f q ∧ n * f q ≤ 8796093022208) := by
    refine ⟨bd c s, fun q w => by have := Worst_ok c s h k (q : Int) (by omega) w; rwa [Int.toNat_natCast] at this, bd_order h k, fun q => ?_⟩
    have p0 := bd_pos h k q
    have p1 := bd_less h k q
    have := prod_le n (bd c s q) 8 1099511627776 (by omega) (by omega) (by omega) (by omega)
    omega
  obtain ⟨a1, a2, a3, a4, b1, b2, d1, d2, e1', e2⟩ := h
  have q0 := prod_le n c.l1 8 65536 (by omega) (by omega) (by omega) (by omega)
  have q1 := prod_le n c.llc 8 65536 (by omega) (by omega) (by omega) (by omega)
  have q2 := prod_le n c.mi 8 65536 (by omega) (by omega) (by omega) (by omega)
  have q3 := prod_le n c.fa 8 65536 (by omega) (by omega) (by omega) (by omega)
  have q4 := prod_le n c.st 8 65536 (by omega) (by omega) (by omega) (by omega)
  have q5 := prod_le n c.di 8 65536 (by omega) (by omega) (by omega) (by omega)
  have q6 := prod_le n (12 * c.st) 8 786432 (by omega) (by omega) (by omega) (by omega)
  obtain ⟨i0, hi, hz0, hz1, hz2⟩ := info_parts Try.infoU
  have B0 : Hid (Bx w ((w.alloc (.cells #[.int .u64 c.l1, .int .u64 c.llc, .int .u64 c.mi, .int .u64 c.fa, .int .u64 c.st, .int .u64 c.di] 24)).alloc (.cells #[.int .i64 s.im, .int .i64 s.us, .int .i64 s.li, .int .i64 s.no] 35)) w.heap.size (w.heap.size + 1) c s) := bx_new w c s
  clear k m
  go_enter Try.func7, Try.ntmps7
  go_wp2_with fail
  generalize ((w.alloc (.cells #[.int .u64 c.l1, .int .u64 c.llc, .int .u64 c.mi, .int .u64 c.fa, .int .u64 c.st, .int .u64 c.di] 24)).alloc (.cells #[.int .i64 s.im, .int .i64 s.us, .int .i64 s.li, .int .i64 s.no] 35)) = w0 at *
  generalize hb1 : w.heap.size + 1 = b1 at *
  generalize hb : w.heap.size = b at *
  refine (works_any _).mono ?_
  rintro e w1 ⟨rfl, k1⟩
  have B1 : Hid (Bx w w1 b b1 c s) := B0.out.below k1
  clear k1 B0
  obtain ⟨_, c0, c1, c2, c3, c4, c5⟩ := B1.out.cs
  go_wp2_with fail

  clear hn h0
  refine (C.out _).mono ?_
  rintro e w2 ⟨rfl, k2⟩
  have B2 : Hid (Bx w w2 b b1 c s) := B1.out.below k2
  clear k2 B1 C c0 c1 c2 c3 c4 c5
  obtain ⟨_, c0, c1, c2, c3, c4, c5⟩ := B2.out.cs
  go_wp2_with fail
  refine (C2.out _).mono ?_
  rintro e W ⟨rfl, k3⟩
  have HB : Hid (Bx w W b b1 c s) := (B2.out.below (below_new _ _)).below k3
  have HD : Hid (Six W w2.heap.size (tm n c)) := by
    skip
    exact (six_new w2 (tm n c)).below k3
  generalize w2.heap.size = g at *
  clear k3 C2 B2 c0 c1 c2 c3 c4 c5 q0 q1 q2 q3 q4 q5
  go_wp2_with fail
  go_loopw [9, 10] (fun v i wr => ∃ (k : Nat) (vv : Value), vv = v ∧ k ≤ 14 ∧ i = .int .i64 k ∧ wr.ownsRow W.heap.size 22 1 v k (enU f k) ∧ Below W.heap.size W wr) (fun _ i _ => 14 - (iv i).toNat)
  case atStart => exact ⟨0, _, rfl, by omega, rfl, World.ownsRow_nil _ _ _ _, Below.refl _ _⟩
  case round =>
    obtain ⟨k, v, hvv, hk, rfl, hI, hL⟩ := hrel
    subst hvv
    have HL : Hid (Below W.heap.size W wr) := hL
    have HI : Hid (wr.ownsRow W.heap.size 22 1 v k (enU f k)) := hI
    clear hI hL
    by_cases hlt : k < 14
    · obtain ⟨_, c0, c1, c2, c3, c4, c5⟩ := HB.out.cs.below HL.out
      obtain ⟨_, s0, s1, s2, s3⟩ := HB.out.ss.below HL.out
      have W1k : Hid (∀ w, Calls Try.prog 15 #[.agg #[.int .u64 c.l1, .int .u64 c.llc, .int .u64 c.mi, .int .u64 c.fa, .int .u64 c.st, .int .u64 c.di], .agg #[.int .i64 s.im, .int .i64 s.us, .int .i64 s.li, .int .i64 s.no], .int .u8 (k : Int)] w (Two (f k) 0 w)) := W1.out k
      have FE : Hid (enU f (k + 1) = enU f k ++ [.int .u64 (f k)]) := rfl
      obtain ⟨r0, r1⟩ := F.out.2 k
      generalize f k = A at *
      go_wp2_with fail
      refine (W1k.out _).mono ?_
      rintro e w5 ⟨rfl, k5⟩
      have HL5 : Hid (Below W.heap.size W w5) := HL.out.trans (k5.mono HL.out.size)
      have HI5 : Hid (w5.ownsRow W.heap.size 22 1 v k (enU f k)) := own_below HI.out k5
      have hs5 := HL5.out.size
      clear k5 HL HI c0 c1 c2 c3 c4 c5 s0 s1 s2 s3 W1k
      go_upto_region 16 with (at_builtin; refine wpList_append_own _ rfl (.tmp 75) (.tmp 77) 43 rfl W.heap.size 22 i0 _ 1 8 Try.underlying43 hi hz0 hz1 hz2 rfl (by decide) _ k _ rfl (HI5.out.alloc _) ⟨w5.heap.size, 0, none⟩ 1 1 [.int .u64 A] rfl rfl (cell_one_new _ _ _) (by intro u hu; simp at hu; subst hu; rfl) (by unfold maxLen; omega) (by omega) (by simp; omega) ?_; intro v2 w6 o2 gr2 nil2)
      have HL6 : Hid (Below W.heap.size W w6) := (HL5.out.alloc hs5 _).grown gr2 (by simp; omega) (fun t ht => (HI5.out.lt t ht).1)
      have HI6 : Hid (w6.ownsRow W.heap.size 22 1 v2 (k + 1) (enU f (k + 1))) := by unfold Hid; rw [FE.out]; exact o2
      clear o2 gr2 nil2 HI5 HL5 hs5 FE
      go_wp2
      go_roundw
      case rel => exact ⟨k + 1, _, rfl, by omega, by go_num, HI6.out, HL6.out⟩
      case measure => simp [iv]; omega
    · obtain rfl : k = 14 := by omega
      obtain ⟨gr, cp, hv, hg1, hg2⟩ := HI.out.form (by omega)
      subst hv
      have hcc : ∀ i, i < 14 → wr.cell? ⟨gr, i, none⟩ = some (.int .u64 (f i)) := fun i hi => by
        have := HI.out.cells rfl i (.int .u64 (f i)) (enU_get f 14 i hi)
        rw [Go.WideShapes.add_plain, Nat.zero_add] at this
        exact this
      have y0 := hcc 0 (by omega)
      have y4 := hcc 4 (by omega)
      have y5 := hcc 5 (by omega)
      have y6 := hcc 6 (by omega)
      have y7 := hcc 7 (by omega)
      have y8 := hcc 8 (by omega)
      have y9 := hcc 9 (by omega)
      have y10 := hcc 10 (by omega)
      have y11 := hcc 11 (by omega)
      obtain ⟨⟨g1, g2, g3, g4, g5, g6, g7⟩, _⟩ := F.out
      rw [g5] at y0
      rw [g6] at y11
      have g1 : ¬ f 9 < f 8 := by omega
      have g2 : ¬ f 5 < f 6 := by omega
      have g3 : ¬ f 7 < f 4 := by omega
      have g4 : ¬ f 7 < f 5 := by omega
      clear hcc W1 HI F g5 g6
      generalize f 4 = x4 at *
      generalize f 5 = x5 at *
      generalize f 6 = x6 at *
      generalize f 7 = x7 at *
      generalize f 8 = x8 at *
      generalize f 9 = x9 at *
      generalize f 10 = x10 at *
      have FB : Hid (Bx w wr b b1 c s ∧ Six wr g (tm n c)) := ⟨HB.out.below HL.out, HD.out.below HL.out⟩
      clear HB HD HL
      have g8 : x7 = x4 ∨ (x7 != x4) = true ∧ x7 = x5 := by
        rcases g7 with h | ⟨h, h'⟩
        · exact Or.inl h
        · exact Or.inr ⟨by simpa using h, h'⟩
      clear g7
      rcases g8 with rfl | ⟨g7, rfl⟩
      all_goals
        go_upto_region 20 with fail
        conv => arg 2; arg 2; simp only [List.append]
        go_big_quiet (fail)
        go_wp2
        go_ret
        subst hb
        exact ⟨rfl, below_drewN FB.out.1.be _⟩
theorem scales_any (c : Co) (s : Sh) (a : Int) (h0 : 0 ≤ a) (w : World) : Calls Try.prog 7 #[.agg #[.int .u64 c.l1, .int .u64 c.llc, .int .u64 c.mi, .int .u64 c.fa, .int .u64 c.st, .int .u64 c.di], .agg #[.int .i64 s.im, .int .i64 s.us, .int .i64 s.li, .int .i64 s.no], .int .u64 a] w fun e w' => e = .returned (.bool true) ∧ Below w.heap.size w w' := by
  cases h : okC c
  · exact scales_cost c s a h0 h w
  · cases k : okS s
    · exact scales_arg c s a h0 (okC_iff.1 h) k w
    · cases m : okC (tm (1 + a % 8) c)
      · exact scales_f c s a h0 (okC_iff.1 h) (okS_iff.1 k) m w
      · exact scales_t c s a h0 (okC_iff.1 h) (okS_iff.1 k) (okC_iff.1 m) w
end Go.Proofs.Ytplffahgjekejaa
