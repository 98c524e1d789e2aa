/- What the document's answer says of a partition's quotas where the machine is none, or its image too great; no condition but those named. -/
import Derived.Test.YtokaohlgncmoaaaGreatWRu
namespace Go.Proofs.YtokaohlgncmoaaaGreat
open Go.ChangeShapes Go.WideShapes Go.ChangeAt Go.RowKit
set_option linter.unusedVariables false

set_option maxRecDepth 100000 in
set_option maxHeartbeats 4000000 in
theorem quotas_none {w : World} {a : Ad} {c : Cf} (hc : Cin w a c) (p : Nat) (hp : p < c.pn) (hp8 : p < 8) (hcol : okCol c p = true) (hh : (qOk (c.pf p) && zOk (c.pf p)) = true) (hs : sm c (p + 1) ≤ 1024) (hm : mOk c = false) : Calls Tryz.prog 143 #[.agg #[.int .i64 c.F, .int .i64 c.C, .int .i64 c.W, .int .i64 c.S, .int .i64 c.V, .int .i64 c.T, .int .u64 c.k.l1, .int .u64 c.k.llc, .int .u64 c.k.mi, .int .u64 c.k.fa, .int .u64 c.k.st, .int .u64 c.k.di, .int .u64 c.sl, .int .u64 c.pd, .int .u64 c.ft, .slice a.ta c.tn a.tc, .slice a.pa c.pn a.pc], .int .i64 p] w (One (.bool (!okQ c p)) w) := by
  have HB0 := cb_new hc
  obtain ⟨b, off, hq, _⟩ := hc.p.at' hp
  have HQ : Hid (a.pa = some ⟨b, off, none⟩) := hq
  have hpl := hc.pl
  have hp1 : (p : Int) < (c.pn : Int) := by omega
  have MC : Hid (∀ w', Cin w' a c → Calls Tryz.prog 114 #[.agg #[.int .i64 c.F, .int .i64 c.C, .int .i64 c.W, .int .i64 c.S, .int .i64 c.V, .int .i64 c.T, .int .u64 c.k.l1, .int .u64 c.k.llc, .int .u64 c.k.mi, .int .u64 c.k.fa, .int .u64 c.k.st, .int .u64 c.k.di, .int .u64 c.sl, .int .u64 c.pd, .int .u64 c.ft, .slice a.ta c.tn a.tc, .slice a.pa c.pn a.pc]] w' (One (.bool (!mOk c)) w')) := fun w' h => machine_any h
  have HOK : Hid (okQ c p = (bif (qOk (c.pf p) && zOk (c.pf p)) then (bif decide (sm c (p + 1) ≤ 1024) then (bif mOk c then fit c (c.pf p) else true) else false) else false)) := by
    unfold Hid okQ
    rw [okQ_ways]
    cases h1 : qOk (c.pf p)
    · rfl
    · cases h2 : zOk (c.pf p)
      · rfl
      · simp only [sm, h2, cond_true, Bool.and_self]
  have HM : Hid (mOk c = true → c.MOk) := fun h => mOk_iff.1 h
  have hri : rise c.C (c.pf p).f (c.pf p).n = true ∧ 0 < (c.pf p).n := by unfold okCol at hcol; simp only [Bool.and_eq_true, decide_eq_true_eq] at hcol; exact ⟨hcol.1, hcol.2.1⟩
  have HL : Hid (((c.pf p).n : Int) ≤ c.C) := rise_len hri.1 hri.2
  have HSm : Hid (∀ k : Nat, k ≤ 9 → 0 ≤ sm c k ∧ sm c k ≤ 9216) := fun k hk => ⟨sm_nonneg c k, by have := sm_le c k; omega⟩
  have HFit : Hid (fit c (c.pf p) = (decide (im (c.pf p) ≤ c.F / c.C) && decide (im (c.pf p) + (c.pf p).u + (c.pf p).t + (c.pf p).s + (c.pf p).r + (c.pf p).d ≤ (c.pf p).n * (c.F / c.C)))) := rfl
  have HIm : Hid (0 ≤ (c.pf p).o → (c.pf p).o ≤ 3 → ((c.pf p).o = 0 ∧ im (c.pf p) = 1) ∨ ((c.pf p).o = 1 ∧ im (c.pf p) = 2) ∨ ((c.pf p).o = 2 ∧ im (c.pf p) = 4) ∨ ((c.pf p).o = 3 ∧ im (c.pf p) = 8)) := fun h0 h1 => im_ways h0 h1
  have HQZ : Hid ((qOk (c.pf p) && zOk (c.pf p)) = (inB (c.pf p).o 0 3 && (inB (c.pf p).u 2 4096 && (inB (c.pf p).t 4 4096 && (inB (c.pf p).s 1 4096 && (inB (c.pf p).r 1 4096 && (inB (c.pf p).d 1 4096 && inB (c.pf p).z 1 1024))))))) := qz_and _
  have HH : Hid ((qOk (c.pf p) && zOk (c.pf p)) = true) := hh
  have HSum : Hid (sm c (p + 1) ≤ 1024) := hs
  clear hs
  have HMk : Hid (mOk c = false) := hm
  clear hm
  clear hcol hri hh
  rw [hq]
  rw [hq] at MC
  go_enter Tryz.func143, Tryz.ntmps143
  go_upto_region 1 with fail
  obtain ⟨W, hW, HB⟩ : ∃ W, (w.alloc (.cells #[.int .i64 c.F, .int .i64 c.C, .int .i64 c.W, .int .i64 c.S, .int .i64 c.V, .int .i64 c.T, .int .u64 c.k.l1, .int .u64 c.k.llc, .int .u64 c.k.mi, .int .u64 c.k.fa, .int .u64 c.k.st, .int .u64 c.k.di, .int .u64 c.sl, .int .u64 c.pd, .int .u64 c.ft, .slice a.ta c.tn a.tc, .slice a.pa c.pn a.pc] 28)) = W ∧ Hid (Cb w W w.heap.size a c) := ⟨_, rfl, HB0⟩
  rw [HQ.out] at hW
  rw [hW]
  clear hW HB0 hc hq
  obtain ⟨b', off', hq', ⟨_, e0, e1, e2, e3, e4, e5, e6, e7⟩⟩ := HB.out.ci.p.at' hp
  rw [HQ.out] at hq'
  cases hq'
  obtain ⟨_, c0, c1, c2, c3, c4, c5, c6, c7, c8, c9, c10, c11, c12, c13, c14, c15, c16⟩ := HB.out.bx
  clear c0 c1 c2 c3 c4 c5 c6 c7 c8 c9 c10 c11 c12 c13 c14 c15
  rw [HQ.out] at c16
  generalize okQ c p = res at *
  generalize a.ca p = q at *
  generalize a.cc p = m at *
  generalize hx : c.pf p = x at *
  clear hx
  go_upto_region 2 with fail
  obtain ⟨W1, bb, hW1, hbb, HC⟩ : ∃ W1 bb, (W.alloc (.cells #[.slice q x.n m, .int .i64 x.o, .int .i64 x.u, .int .i64 x.t, .int .i64 x.s, .int .i64 x.r, .int .i64 x.d, .int .i64 x.z] 82)) = W1 ∧ W.heap.size = bb ∧ Hid (Cq w W1 w.heap.size bb a c q m x) := ⟨_, _, rfl, rfl, HB.out.cq q m x⟩
  rw [hW1, hbb]
  clear hW1 hbb HB e0 e1 e2 e3 e4 e5 e6 e7 c16
  obtain ⟨_, e0, e1, e2, e3, e4, e5, e6, e7⟩ := HC.out.px
  have h0 : (inB x.o 0 3 && (inB x.u 2 4096 && (inB x.t 4 4096 && (inB x.s 1 4096 && (inB x.r 1 4096 && (inB x.d 1 4096 && inB x.z 1 1024)))))) = true := by rw [← HQZ.out]; exact HH.out
  obtain ⟨h1, h2, h3, h4, h5, h6, h7⟩ : inB x.o 0 3 = true ∧ inB x.u 2 4096 = true ∧ inB x.t 4 4096 = true ∧ inB x.s 1 4096 = true ∧ inB x.r 1 4096 = true ∧ inB x.d 1 4096 = true ∧ inB x.z 1 1024 = true := by simpa only [Bool.and_eq_true] using h0
  rw [HQZ.out, h0] at HOK
  have o01 := inB_iff.1 h1
  have u01 := inB_iff.1 h2
  have t01 := inB_iff.1 h3
  have s01 := inB_iff.1 h4
  have r01 := inB_iff.1 h5
  have d01 := inB_iff.1 h6
  clear HQZ h0
  go_wp2_with (go_at_call 158; refine (within_any _ _ _ _).mono ?_; rintro e w' ⟨rfl, hw'⟩; obtain rfl := hw'.symm)
  clear h1 h2 h3 h4 h5 h6 h7 e0 e1 e2 e3 e4 e5 e6 e7
  go_loopw [6, 7] (fun s i wr => ∃ k : Nat, k ≤ p + 1 ∧ i = .int .i64 k ∧ s = .int .i64 (sm c k) ∧ wr = W1) (fun _ i _ => p + 1 - (intOf i).toNat)
  case atStart => exact ⟨0, by omega, rfl, rfl, rfl⟩
  case round =>
    obtain ⟨k, hk, rfl, rfl, rfl⟩ := hrel
    by_cases hlt : k ≤ p
    · obtain ⟨b', off', hq', ⟨_, e0, e1, e2, e3, e4, e5, e6, e7⟩⟩ := HC.out.ci.p.at' (show k < c.pn by omega)
      rw [HQ.out] at hq'
      cases hq'
      obtain ⟨_, c0, c1, c2, c3, c4, c5, c6, c7, c8, c9, c10, c11, c12, c13, c14, c15, c16⟩ := HC.out.bx
      clear c0 c1 c2 c3 c4 c5 c6 c7 c8 c9 c10 c11 c12 c13 c14 c15 e0 e1 e2 e3 e4 e5 e6
      rw [HQ.out] at c16
      obtain ⟨y0, y1⟩ := HSm.out k (by omega)
      have HS1 : Hid (sm c (k + 1) = sm c k + (bif inB (c.pf k).z 1 1024 then (c.pf k).z else 0)) := rfl
      have hkp : (k : Int) ≤ (p : Int) := by omega
      have hkn : (k : Int) < (c.pn : Int) := by omega
      have hk0 : (0 : Int) ≤ (k : Int) := by omega
      have HZ : Hid (inB (c.pf k).z 1 1024 = true → 1 ≤ (c.pf k).z ∧ (c.pf k).z ≤ 1024) := fun h => inB_iff.1 h
      obtain ⟨S', hS'⟩ : ∃ S', sm c (k + 1) = S' := ⟨_, rfl⟩
      rw [hS'] at HS1
      have HSn : Hid (sm c (k + 1) = S') := hS'
      clear hS' HOK HM HL HSm HFit HIm MC
      generalize sm c k = S at *
      generalize (c.pf k).z = z at *
      cases hz : inB z 1 1024
      · rw [hz] at HS1
        have HS2 : Hid (S' = S) := by unfold Hid; rw [HS1.out]; simp
        clear HS1
        go_wp2_with (go_at_call 158; refine (within_any _ _ _ _).mono ?_; rintro e w' ⟨rfl, hw'⟩; obtain rfl := hw'.symm)
        go_roundw
        case rel => exact ⟨k + 1, by omega, by go_num, by rw [HSn.out, HS2.out], by first | rfl | trivial⟩
        case measure => simp [intOf]; omega
      · rw [hz] at HS1
        have HS2 : Hid (S' = S + z) := HS1.out
        obtain ⟨z0, z1⟩ := HZ.out hz
        clear HS1 HZ
        go_wp2_with (go_at_call 158; refine (within_any _ _ _ _).mono ?_; rintro e w' ⟨rfl, hw'⟩; obtain rfl := hw'.symm)
        go_roundw
        case rel => exact ⟨k + 1, by omega, by go_num, by rw [HSn.out, HS2.out], by first | rfl | trivial⟩
        case measure => simp [intOf]; omega
    · obtain rfl : k = p + 1 := by omega
      have hlt' : ¬ (((p + 1 : Nat) : Int) ≤ (p : Int)) := by omega
      generalize sm c (p + 1) = S at *
      have hS : S ≤ 1024 := by have := HSum.out; omega
      have hd : decide (S ≤ 1024) = true := by simp [hS]
      have hS2 : ¬ (1024 : Int) < S := by omega
      rw [hd] at HOK
      have HIm2 := HIm.out o01.1 o01.2
      obtain ⟨u0, u1⟩ := u01
      obtain ⟨t0, t1⟩ := t01
      obtain ⟨s0, s1⟩ := s01
      obtain ⟨r0, r1⟩ := r01
      obtain ⟨d0, d1⟩ := d01
      have HZs : Hid (∃ o0 I : Int, x.o = o0 ∧ im x = I ∧ 1 ≤ I ∧ I ≤ 8 ∧ ((o0 = 0 ∧ I = 1) ∨ (o0 = 1 ∧ I = 2) ∨ (o0 = 2 ∧ I = 4) ∨ (o0 = 3 ∧ I = 8))) := ⟨x.o, im x, rfl, rfl, by omega, by omega, by omega⟩
      clear HIm2 HIm o01 HSm
      obtain ⟨o0, I, ho0, hI, i0, i1, hoI⟩ := HZs.out
      rw [hI] at HFit
      clear HZs hI
      obtain ⟨_, e0, e1, e2, e3, e4, e5, e6, e7⟩ := HC.out.px
      rw [ho0] at e1
      clear ho0
      go_upto_region 12 with fail
      go_cut [8] from 76 (fun t8 wx => t8 = .int .i64 I ∧ Cq w wx w.heap.size bb a c q m x)
      case first =>
        rcases hoI with ⟨rfl, rfl⟩ | ⟨rfl, rfl⟩ | ⟨rfl, rfl⟩ | ⟨rfl, rfl⟩
        all_goals
          go_upto_region 13 with fail
          go_meet
          case rel => exact ⟨rfl, HC.out⟩
      case rest =>
      obtain ⟨rfl, hC⟩ := hcut
      clear HC
      have HC : Hid (Cq w wc w.heap.size bb a c q m x) := hC
      clear hC e0 e1 e2 e3 e4 e5 e6 e7 hoI
      have hF0 : ∀ n : Idx (fun W => Cq w W w.heap.size bb a c q m x), n.W.cell? ⟨w.heap.size, 0, none⟩ = some (.int .i64 c.F) := fun n => n.h.bx.c0
      have hF1 : ∀ n : Idx (fun W => Cq w W w.heap.size bb a c q m x), n.W.cell? ⟨w.heap.size, 1, none⟩ = some (.int .i64 c.C) := fun n => n.h.bx.c1
      have hF2 : ∀ n : Idx (fun W => Cq w W w.heap.size bb a c q m x), n.W.cell? ⟨w.heap.size, 2, none⟩ = some (.int .i64 c.W) := fun n => n.h.bx.c2
      have hF3 : ∀ n : Idx (fun W => Cq w W w.heap.size bb a c q m x), n.W.cell? ⟨w.heap.size, 3, none⟩ = some (.int .i64 c.S) := fun n => n.h.bx.c3
      have hF4 : ∀ n : Idx (fun W => Cq w W w.heap.size bb a c q m x), n.W.cell? ⟨w.heap.size, 4, none⟩ = some (.int .i64 c.V) := fun n => n.h.bx.c4
      have hF5 : ∀ n : Idx (fun W => Cq w W w.heap.size bb a c q m x), n.W.cell? ⟨w.heap.size, 5, none⟩ = some (.int .i64 c.T) := fun n => n.h.bx.c5
      have hF6 : ∀ n : Idx (fun W => Cq w W w.heap.size bb a c q m x), n.W.cell? ⟨w.heap.size, 6, none⟩ = some (.int .u64 c.k.l1) := fun n => n.h.bx.c6
      have hF7 : ∀ n : Idx (fun W => Cq w W w.heap.size bb a c q m x), n.W.cell? ⟨w.heap.size, 7, none⟩ = some (.int .u64 c.k.llc) := fun n => n.h.bx.c7
      have hF8 : ∀ n : Idx (fun W => Cq w W w.heap.size bb a c q m x), n.W.cell? ⟨w.heap.size, 8, none⟩ = some (.int .u64 c.k.mi) := fun n => n.h.bx.c8
      have hF9 : ∀ n : Idx (fun W => Cq w W w.heap.size bb a c q m x), n.W.cell? ⟨w.heap.size, 9, none⟩ = some (.int .u64 c.k.fa) := fun n => n.h.bx.c9
      have hF10 : ∀ n : Idx (fun W => Cq w W w.heap.size bb a c q m x), n.W.cell? ⟨w.heap.size, 10, none⟩ = some (.int .u64 c.k.st) := fun n => n.h.bx.c10
      have hF11 : ∀ n : Idx (fun W => Cq w W w.heap.size bb a c q m x), n.W.cell? ⟨w.heap.size, 11, none⟩ = some (.int .u64 c.k.di) := fun n => n.h.bx.c11
      have hF12 : ∀ n : Idx (fun W => Cq w W w.heap.size bb a c q m x), n.W.cell? ⟨w.heap.size, 12, none⟩ = some (.int .u64 c.sl) := fun n => n.h.bx.c12
      have hF13 : ∀ n : Idx (fun W => Cq w W w.heap.size bb a c q m x), n.W.cell? ⟨w.heap.size, 13, none⟩ = some (.int .u64 c.pd) := fun n => n.h.bx.c13
      have hF14 : ∀ n : Idx (fun W => Cq w W w.heap.size bb a c q m x), n.W.cell? ⟨w.heap.size, 14, none⟩ = some (.int .u64 c.ft) := fun n => n.h.bx.c14
      have hF15 : ∀ n : Idx (fun W => Cq w W w.heap.size bb a c q m x), n.W.cell? ⟨w.heap.size, 15, none⟩ = some (.slice a.ta c.tn a.tc) := fun n => n.h.bx.c15
      have hF16 : ∀ n : Idx (fun W => Cq w W w.heap.size bb a c q m x), n.W.cell? ⟨w.heap.size, 16, none⟩ = some (.slice (some ⟨b, off, none⟩) c.pn a.pc) := fun n => by rw [← HQ.out]; exact n.h.bx.c16
      have hE0 : ∀ n : Idx (fun W => Cq w W w.heap.size bb a c q m x), n.W.cell? ⟨bb, 0, none⟩ = some (.slice q x.n m) := fun n => n.h.px.c0
      have hE1 : ∀ n : Idx (fun W => Cq w W w.heap.size bb a c q m x), n.W.cell? ⟨bb, 1, none⟩ = some (.int .i64 x.o) := fun n => n.h.px.c1
      have hE2 : ∀ n : Idx (fun W => Cq w W w.heap.size bb a c q m x), n.W.cell? ⟨bb, 2, none⟩ = some (.int .i64 x.u) := fun n => n.h.px.c2
      have hE3 : ∀ n : Idx (fun W => Cq w W w.heap.size bb a c q m x), n.W.cell? ⟨bb, 3, none⟩ = some (.int .i64 x.t) := fun n => n.h.px.c3
      have hE4 : ∀ n : Idx (fun W => Cq w W w.heap.size bb a c q m x), n.W.cell? ⟨bb, 4, none⟩ = some (.int .i64 x.s) := fun n => n.h.px.c4
      have hE5 : ∀ n : Idx (fun W => Cq w W w.heap.size bb a c q m x), n.W.cell? ⟨bb, 5, none⟩ = some (.int .i64 x.r) := fun n => n.h.px.c5
      have hE6 : ∀ n : Idx (fun W => Cq w W w.heap.size bb a c q m x), n.W.cell? ⟨bb, 6, none⟩ = some (.int .i64 x.d) := fun n => n.h.px.c6
      have hE7 : ∀ n : Idx (fun W => Cq w W w.heap.size bb a c q m x), n.W.cell? ⟨bb, 7, none⟩ = some (.int .i64 x.z) := fun n => n.h.px.c7
      have hne : Nonempty (Idx (fun W => Cq w W w.heap.size bb a c q m x)) := ⟨⟨wc, HC.out⟩⟩
      have hm : mOk c = false := HMk.out
      rw [hm] at MC HOK
      rw [show (!false) = true from rfl] at MC
      clear HM HFit HL hm
      go_upto_region 13 with fail
      have MN : Hid (∀ n : Idx (fun W => Cq w W w.heap.size bb a c q m x), Calls Tryz.prog 114 #[.agg #[.int .i64 c.F, .int .i64 c.C, .int .i64 c.W, .int .i64 c.S, .int .i64 c.V, .int .i64 c.T, .int .u64 c.k.l1, .int .u64 c.k.llc, .int .u64 c.k.mi, .int .u64 c.k.fa, .int .u64 c.k.st, .int .u64 c.k.di, .int .u64 c.sl, .int .u64 c.pd, .int .u64 c.ft, .slice a.ta c.tn a.tc, .slice (some ⟨b, off, none⟩) c.pn a.pc]] n.W (One (.bool true) n.W)) := fun n => MC.out _ n.h.ci
      refine wp_region_cls (fun W => Cq w W w.heap.size bb a c q m x) (by kernel_rfl) (by kernel_rfl) (HC.out.below (below_drew _ _)) ?_
      repeat (go_big_quiet_step ((go_at_call 114; exact Calls.cls (MN.out _) (fun _ _ h k => h.below k))))
      refine wpQuiet_nil ?_
      rintro w3 ⟨⟨_, B4⟩, rfl⟩
      go_wp2
      go_ret
      exact ⟨ret_bool (by rw [HOK.out]; rfl), B4.be⟩
set_option maxRecDepth 100000 in
set_option maxHeartbeats 4000000 in
theorem quotas_image {w : World} {a : Ad} {c : Cf} (hc : Cin w a c) (p : Nat) (hp : p < c.pn) (hp8 : p < 8) (hcol : okCol c p = true) (hh : (qOk (c.pf p) && zOk (c.pf p)) = true) (hs : sm c (p + 1) ≤ 1024) (hm : mOk c = true) (hn1 : c.F / c.C < im (c.pf p)) : Calls Tryz.prog 143 #[.agg #[.int .i64 c.F, .int .i64 c.C, .int .i64 c.W, .int .i64 c.S, .int .i64 c.V, .int .i64 c.T, .int .u64 c.k.l1, .int .u64 c.k.llc, .int .u64 c.k.mi, .int .u64 c.k.fa, .int .u64 c.k.st, .int .u64 c.k.di, .int .u64 c.sl, .int .u64 c.pd, .int .u64 c.ft, .slice a.ta c.tn a.tc, .slice a.pa c.pn a.pc], .int .i64 p] w (One (.bool (!okQ c p)) w) := by
  have HB0 := cb_new hc
  obtain ⟨b, off, hq, _⟩ := hc.p.at' hp
  have HQ : Hid (a.pa = some ⟨b, off, none⟩) := hq
  have hpl := hc.pl
  have hp1 : (p : Int) < (c.pn : Int) := by omega
  have MC : Hid (∀ w', Cin w' a c → Calls Tryz.prog 114 #[.agg #[.int .i64 c.F, .int .i64 c.C, .int .i64 c.W, .int .i64 c.S, .int .i64 c.V, .int .i64 c.T, .int .u64 c.k.l1, .int .u64 c.k.llc, .int .u64 c.k.mi, .int .u64 c.k.fa, .int .u64 c.k.st, .int .u64 c.k.di, .int .u64 c.sl, .int .u64 c.pd, .int .u64 c.ft, .slice a.ta c.tn a.tc, .slice a.pa c.pn a.pc]] w' (One (.bool (!mOk c)) w')) := fun w' h => machine_any h
  have HOK : Hid (okQ c p = (bif (qOk (c.pf p) && zOk (c.pf p)) then (bif decide (sm c (p + 1) ≤ 1024) then (bif mOk c then fit c (c.pf p) else true) else false) else false)) := by
    unfold Hid okQ
    rw [okQ_ways]
    cases h1 : qOk (c.pf p)
    · rfl
    · cases h2 : zOk (c.pf p)
      · rfl
      · simp only [sm, h2, cond_true, Bool.and_self]
  have HM : Hid (mOk c = true → c.MOk) := fun h => mOk_iff.1 h
  have hri : rise c.C (c.pf p).f (c.pf p).n = true ∧ 0 < (c.pf p).n := by unfold okCol at hcol; simp only [Bool.and_eq_true, decide_eq_true_eq] at hcol; exact ⟨hcol.1, hcol.2.1⟩
  have HL : Hid (((c.pf p).n : Int) ≤ c.C) := rise_len hri.1 hri.2
  have HSm : Hid (∀ k : Nat, k ≤ 9 → 0 ≤ sm c k ∧ sm c k ≤ 9216) := fun k hk => ⟨sm_nonneg c k, by have := sm_le c k; omega⟩
  have HFit : Hid (fit c (c.pf p) = (decide (im (c.pf p) ≤ c.F / c.C) && decide (im (c.pf p) + (c.pf p).u + (c.pf p).t + (c.pf p).s + (c.pf p).r + (c.pf p).d ≤ (c.pf p).n * (c.F / c.C)))) := rfl
  have HIm : Hid (0 ≤ (c.pf p).o → (c.pf p).o ≤ 3 → ((c.pf p).o = 0 ∧ im (c.pf p) = 1) ∨ ((c.pf p).o = 1 ∧ im (c.pf p) = 2) ∨ ((c.pf p).o = 2 ∧ im (c.pf p) = 4) ∨ ((c.pf p).o = 3 ∧ im (c.pf p) = 8)) := fun h0 h1 => im_ways h0 h1
  have HQZ : Hid ((qOk (c.pf p) && zOk (c.pf p)) = (inB (c.pf p).o 0 3 && (inB (c.pf p).u 2 4096 && (inB (c.pf p).t 4 4096 && (inB (c.pf p).s 1 4096 && (inB (c.pf p).r 1 4096 && (inB (c.pf p).d 1 4096 && inB (c.pf p).z 1 1024))))))) := qz_and _
  have HH : Hid ((qOk (c.pf p) && zOk (c.pf p)) = true) := hh
  have HSum : Hid (sm c (p + 1) ≤ 1024) := hs
  clear hs
  have HMk : Hid (mOk c = true) := hm
  clear hm
  have HN1 : Hid (c.F / c.C < im (c.pf p)) := hn1
  clear hn1
  clear hcol hri hh
  rw [hq]
  rw [hq] at MC
  go_enter Tryz.func143, Tryz.ntmps143
  go_upto_region 1 with fail
  obtain ⟨W, hW, HB⟩ : ∃ W, (w.alloc (.cells #[.int .i64 c.F, .int .i64 c.C, .int .i64 c.W, .int .i64 c.S, .int .i64 c.V, .int .i64 c.T, .int .u64 c.k.l1, .int .u64 c.k.llc, .int .u64 c.k.mi, .int .u64 c.k.fa, .int .u64 c.k.st, .int .u64 c.k.di, .int .u64 c.sl, .int .u64 c.pd, .int .u64 c.ft, .slice a.ta c.tn a.tc, .slice a.pa c.pn a.pc] 28)) = W ∧ Hid (Cb w W w.heap.size a c) := ⟨_, rfl, HB0⟩
  rw [HQ.out] at hW
  rw [hW]
  clear hW HB0 hc hq
  obtain ⟨b', off', hq', ⟨_, e0, e1, e2, e3, e4, e5, e6, e7⟩⟩ := HB.out.ci.p.at' hp
  rw [HQ.out] at hq'
  cases hq'
  obtain ⟨_, c0, c1, c2, c3, c4, c5, c6, c7, c8, c9, c10, c11, c12, c13, c14, c15, c16⟩ := HB.out.bx
  clear c0 c1 c2 c3 c4 c5 c6 c7 c8 c9 c10 c11 c12 c13 c14 c15
  rw [HQ.out] at c16
  generalize okQ c p = res at *
  generalize a.ca p = q at *
  generalize a.cc p = m at *
  generalize hx : c.pf p = x at *
  clear hx
  go_upto_region 2 with fail
  obtain ⟨W1, bb, hW1, hbb, HC⟩ : ∃ W1 bb, (W.alloc (.cells #[.slice q x.n m, .int .i64 x.o, .int .i64 x.u, .int .i64 x.t, .int .i64 x.s, .int .i64 x.r, .int .i64 x.d, .int .i64 x.z] 82)) = W1 ∧ W.heap.size = bb ∧ Hid (Cq w W1 w.heap.size bb a c q m x) := ⟨_, _, rfl, rfl, HB.out.cq q m x⟩
  rw [hW1, hbb]
  clear hW1 hbb HB e0 e1 e2 e3 e4 e5 e6 e7 c16
  obtain ⟨_, e0, e1, e2, e3, e4, e5, e6, e7⟩ := HC.out.px
  have h0 : (inB x.o 0 3 && (inB x.u 2 4096 && (inB x.t 4 4096 && (inB x.s 1 4096 && (inB x.r 1 4096 && (inB x.d 1 4096 && inB x.z 1 1024)))))) = true := by rw [← HQZ.out]; exact HH.out
  obtain ⟨h1, h2, h3, h4, h5, h6, h7⟩ : inB x.o 0 3 = true ∧ inB x.u 2 4096 = true ∧ inB x.t 4 4096 = true ∧ inB x.s 1 4096 = true ∧ inB x.r 1 4096 = true ∧ inB x.d 1 4096 = true ∧ inB x.z 1 1024 = true := by simpa only [Bool.and_eq_true] using h0
  rw [HQZ.out, h0] at HOK
  have o01 := inB_iff.1 h1
  have u01 := inB_iff.1 h2
  have t01 := inB_iff.1 h3
  have s01 := inB_iff.1 h4
  have r01 := inB_iff.1 h5
  have d01 := inB_iff.1 h6
  clear HQZ h0
  go_wp2_with (go_at_call 158; refine (within_any _ _ _ _).mono ?_; rintro e w' ⟨rfl, hw'⟩; obtain rfl := hw'.symm)
  clear h1 h2 h3 h4 h5 h6 h7 e0 e1 e2 e3 e4 e5 e6 e7
  go_loopw [6, 7] (fun s i wr => ∃ k : Nat, k ≤ p + 1 ∧ i = .int .i64 k ∧ s = .int .i64 (sm c k) ∧ wr = W1) (fun _ i _ => p + 1 - (intOf i).toNat)
  case atStart => exact ⟨0, by omega, rfl, rfl, rfl⟩
  case round =>
    obtain ⟨k, hk, rfl, rfl, rfl⟩ := hrel
    by_cases hlt : k ≤ p
    · obtain ⟨b', off', hq', ⟨_, e0, e1, e2, e3, e4, e5, e6, e7⟩⟩ := HC.out.ci.p.at' (show k < c.pn by omega)
      rw [HQ.out] at hq'
      cases hq'
      obtain ⟨_, c0, c1, c2, c3, c4, c5, c6, c7, c8, c9, c10, c11, c12, c13, c14, c15, c16⟩ := HC.out.bx
      clear c0 c1 c2 c3 c4 c5 c6 c7 c8 c9 c10 c11 c12 c13 c14 c15 e0 e1 e2 e3 e4 e5 e6
      rw [HQ.out] at c16
      obtain ⟨y0, y1⟩ := HSm.out k (by omega)
      have HS1 : Hid (sm c (k + 1) = sm c k + (bif inB (c.pf k).z 1 1024 then (c.pf k).z else 0)) := rfl
      have hkp : (k : Int) ≤ (p : Int) := by omega
      have hkn : (k : Int) < (c.pn : Int) := by omega
      have hk0 : (0 : Int) ≤ (k : Int) := by omega
      have HZ : Hid (inB (c.pf k).z 1 1024 = true → 1 ≤ (c.pf k).z ∧ (c.pf k).z ≤ 1024) := fun h => inB_iff.1 h
      obtain ⟨S', hS'⟩ : ∃ S', sm c (k + 1) = S' := ⟨_, rfl⟩
      rw [hS'] at HS1
      have HSn : Hid (sm c (k + 1) = S') := hS'
      clear hS' HOK HM HL HSm HFit HIm MC
      generalize sm c k = S at *
      generalize (c.pf k).z = z at *
      cases hz : inB z 1 1024
      · rw [hz] at HS1
        have HS2 : Hid (S' = S) := by unfold Hid; rw [HS1.out]; simp
        clear HS1
        go_wp2_with (go_at_call 158; refine (within_any _ _ _ _).mono ?_; rintro e w' ⟨rfl, hw'⟩; obtain rfl := hw'.symm)
        go_roundw
        case rel => exact ⟨k + 1, by omega, by go_num, by rw [HSn.out, HS2.out], by first | rfl | trivial⟩
        case measure => simp [intOf]; omega
      · rw [hz] at HS1
        have HS2 : Hid (S' = S + z) := HS1.out
        obtain ⟨z0, z1⟩ := HZ.out hz
        clear HS1 HZ
        go_wp2_with (go_at_call 158; refine (within_any _ _ _ _).mono ?_; rintro e w' ⟨rfl, hw'⟩; obtain rfl := hw'.symm)
        go_roundw
        case rel => exact ⟨k + 1, by omega, by go_num, by rw [HSn.out, HS2.out], by first | rfl | trivial⟩
        case measure => simp [intOf]; omega
    · obtain rfl : k = p + 1 := by omega
      have hlt' : ¬ (((p + 1 : Nat) : Int) ≤ (p : Int)) := by omega
      generalize sm c (p + 1) = S at *
      have hS : S ≤ 1024 := by have := HSum.out; omega
      have hd : decide (S ≤ 1024) = true := by simp [hS]
      have hS2 : ¬ (1024 : Int) < S := by omega
      rw [hd] at HOK
      have HIm2 := HIm.out o01.1 o01.2
      obtain ⟨u0, u1⟩ := u01
      obtain ⟨t0, t1⟩ := t01
      obtain ⟨s0, s1⟩ := s01
      obtain ⟨r0, r1⟩ := r01
      obtain ⟨d0, d1⟩ := d01
      have HZs : Hid (∃ o0 I : Int, x.o = o0 ∧ im x = I ∧ 1 ≤ I ∧ I ≤ 8 ∧ ((o0 = 0 ∧ I = 1) ∨ (o0 = 1 ∧ I = 2) ∨ (o0 = 2 ∧ I = 4) ∨ (o0 = 3 ∧ I = 8))) := ⟨x.o, im x, rfl, rfl, by omega, by omega, by omega⟩
      clear HIm2 HIm o01 HSm
      obtain ⟨o0, I, ho0, hI, i0, i1, hoI⟩ := HZs.out
      rw [hI] at HFit HN1
      clear HZs hI
      obtain ⟨_, e0, e1, e2, e3, e4, e5, e6, e7⟩ := HC.out.px
      rw [ho0] at e1
      clear ho0
      go_upto_region 12 with fail
      go_cut [8] from 76 (fun t8 wx => t8 = .int .i64 I ∧ Cq w wx w.heap.size bb a c q m x)
      case first =>
        rcases hoI with ⟨rfl, rfl⟩ | ⟨rfl, rfl⟩ | ⟨rfl, rfl⟩ | ⟨rfl, rfl⟩
        all_goals
          go_upto_region 13 with fail
          go_meet
          case rel => exact ⟨rfl, HC.out⟩
      case rest =>
      obtain ⟨rfl, hC⟩ := hcut
      clear HC
      have HC : Hid (Cq w wc w.heap.size bb a c q m x) := hC
      clear hC e0 e1 e2 e3 e4 e5 e6 e7 hoI
      have hF0 : ∀ n : Idx (fun W => Cq w W w.heap.size bb a c q m x), n.W.cell? ⟨w.heap.size, 0, none⟩ = some (.int .i64 c.F) := fun n => n.h.bx.c0
      have hF1 : ∀ n : Idx (fun W => Cq w W w.heap.size bb a c q m x), n.W.cell? ⟨w.heap.size, 1, none⟩ = some (.int .i64 c.C) := fun n => n.h.bx.c1
      have hF2 : ∀ n : Idx (fun W => Cq w W w.heap.size bb a c q m x), n.W.cell? ⟨w.heap.size, 2, none⟩ = some (.int .i64 c.W) := fun n => n.h.bx.c2
      have hF3 : ∀ n : Idx (fun W => Cq w W w.heap.size bb a c q m x), n.W.cell? ⟨w.heap.size, 3, none⟩ = some (.int .i64 c.S) := fun n => n.h.bx.c3
      have hF4 : ∀ n : Idx (fun W => Cq w W w.heap.size bb a c q m x), n.W.cell? ⟨w.heap.size, 4, none⟩ = some (.int .i64 c.V) := fun n => n.h.bx.c4
      have hF5 : ∀ n : Idx (fun W => Cq w W w.heap.size bb a c q m x), n.W.cell? ⟨w.heap.size, 5, none⟩ = some (.int .i64 c.T) := fun n => n.h.bx.c5
      have hF6 : ∀ n : Idx (fun W => Cq w W w.heap.size bb a c q m x), n.W.cell? ⟨w.heap.size, 6, none⟩ = some (.int .u64 c.k.l1) := fun n => n.h.bx.c6
      have hF7 : ∀ n : Idx (fun W => Cq w W w.heap.size bb a c q m x), n.W.cell? ⟨w.heap.size, 7, none⟩ = some (.int .u64 c.k.llc) := fun n => n.h.bx.c7
      have hF8 : ∀ n : Idx (fun W => Cq w W w.heap.size bb a c q m x), n.W.cell? ⟨w.heap.size, 8, none⟩ = some (.int .u64 c.k.mi) := fun n => n.h.bx.c8
      have hF9 : ∀ n : Idx (fun W => Cq w W w.heap.size bb a c q m x), n.W.cell? ⟨w.heap.size, 9, none⟩ = some (.int .u64 c.k.fa) := fun n => n.h.bx.c9
      have hF10 : ∀ n : Idx (fun W => Cq w W w.heap.size bb a c q m x), n.W.cell? ⟨w.heap.size, 10, none⟩ = some (.int .u64 c.k.st) := fun n => n.h.bx.c10
      have hF11 : ∀ n : Idx (fun W => Cq w W w.heap.size bb a c q m x), n.W.cell? ⟨w.heap.size, 11, none⟩ = some (.int .u64 c.k.di) := fun n => n.h.bx.c11
      have hF12 : ∀ n : Idx (fun W => Cq w W w.heap.size bb a c q m x), n.W.cell? ⟨w.heap.size, 12, none⟩ = some (.int .u64 c.sl) := fun n => n.h.bx.c12
      have hF13 : ∀ n : Idx (fun W => Cq w W w.heap.size bb a c q m x), n.W.cell? ⟨w.heap.size, 13, none⟩ = some (.int .u64 c.pd) := fun n => n.h.bx.c13
      have hF14 : ∀ n : Idx (fun W => Cq w W w.heap.size bb a c q m x), n.W.cell? ⟨w.heap.size, 14, none⟩ = some (.int .u64 c.ft) := fun n => n.h.bx.c14
      have hF15 : ∀ n : Idx (fun W => Cq w W w.heap.size bb a c q m x), n.W.cell? ⟨w.heap.size, 15, none⟩ = some (.slice a.ta c.tn a.tc) := fun n => n.h.bx.c15
      have hF16 : ∀ n : Idx (fun W => Cq w W w.heap.size bb a c q m x), n.W.cell? ⟨w.heap.size, 16, none⟩ = some (.slice (some ⟨b, off, none⟩) c.pn a.pc) := fun n => by rw [← HQ.out]; exact n.h.bx.c16
      have hE0 : ∀ n : Idx (fun W => Cq w W w.heap.size bb a c q m x), n.W.cell? ⟨bb, 0, none⟩ = some (.slice q x.n m) := fun n => n.h.px.c0
      have hE1 : ∀ n : Idx (fun W => Cq w W w.heap.size bb a c q m x), n.W.cell? ⟨bb, 1, none⟩ = some (.int .i64 x.o) := fun n => n.h.px.c1
      have hE2 : ∀ n : Idx (fun W => Cq w W w.heap.size bb a c q m x), n.W.cell? ⟨bb, 2, none⟩ = some (.int .i64 x.u) := fun n => n.h.px.c2
      have hE3 : ∀ n : Idx (fun W => Cq w W w.heap.size bb a c q m x), n.W.cell? ⟨bb, 3, none⟩ = some (.int .i64 x.t) := fun n => n.h.px.c3
      have hE4 : ∀ n : Idx (fun W => Cq w W w.heap.size bb a c q m x), n.W.cell? ⟨bb, 4, none⟩ = some (.int .i64 x.s) := fun n => n.h.px.c4
      have hE5 : ∀ n : Idx (fun W => Cq w W w.heap.size bb a c q m x), n.W.cell? ⟨bb, 5, none⟩ = some (.int .i64 x.r) := fun n => n.h.px.c5
      have hE6 : ∀ n : Idx (fun W => Cq w W w.heap.size bb a c q m x), n.W.cell? ⟨bb, 6, none⟩ = some (.int .i64 x.d) := fun n => n.h.px.c6
      have hE7 : ∀ n : Idx (fun W => Cq w W w.heap.size bb a c q m x), n.W.cell? ⟨bb, 7, none⟩ = some (.int .i64 x.z) := fun n => n.h.px.c7
      have hne : Nonempty (Idx (fun W => Cq w W w.heap.size bb a c q m x)) := ⟨⟨wc, HC.out⟩⟩
      have hm : mOk c = true := HMk.out
      rw [hm] at MC HOK
      rw [show (!true) = false from rfl] at MC
      have hM := HM.out hm
      have hC0 : ¬ c.C = 0 := by have := hM.C; omega
      have hC1 : c.C ≤ 16 := by have := hM.C; omega
      obtain ⟨q0, q1⟩ := quo_range hM.C hM.F1 hM.F2
      have hq' : c.F.tdiv c.C = c.F / c.C := Int.tdiv_eq_ediv_of_nonneg (by have := hM.F1; omega)
      have hn16 : (x.n : Int) ≤ 16 := by have := HL.out; omega
      obtain ⟨p0, p1⟩ := prod_le (x.n : Int) (c.F / c.C) 16 4096 (by omega) hn16 q0 q1
      clear hM HM HL hm
      generalize hQ : c.F / c.C = Q at *
      generalize hTT : (x.n : Int) * Q = TT at *
      rw [HFit.out] at HOK
      clear HFit hQ
      have n1 : Q < I := by have := HN1.out; omega
      have g1 : decide (Q < I) = true := by simp [n1]
      have g2 : decide (I ≤ Q) = false := by simp; omega
      rw [g2] at HOK
      clear g2
      go_upto_region 13 with fail
      have MN : Hid (∀ n : Idx (fun W => Cq w W w.heap.size bb a c q m x), Calls Tryz.prog 114 #[.agg #[.int .i64 c.F, .int .i64 c.C, .int .i64 c.W, .int .i64 c.S, .int .i64 c.V, .int .i64 c.T, .int .u64 c.k.l1, .int .u64 c.k.llc, .int .u64 c.k.mi, .int .u64 c.k.fa, .int .u64 c.k.st, .int .u64 c.k.di, .int .u64 c.sl, .int .u64 c.pd, .int .u64 c.ft, .slice a.ta c.tn a.tc, .slice (some ⟨b, off, none⟩) c.pn a.pc]] n.W (One (.bool false) n.W)) := fun n => MC.out _ n.h.ci
      refine wp_region_cls (fun W => Cq w W w.heap.size bb a c q m x) (by kernel_rfl) (by kernel_rfl) (HC.out.below (below_drew _ _)) ?_
      repeat (go_big_quiet_step ((go_at_call 114; exact Calls.cls (MN.out _) (fun _ _ h k => h.below k))))
      refine wpQuiet_nil ?_
      rintro w3 ⟨⟨_, B4⟩, rfl⟩
      go_wp2
      go_ret
      exact ⟨ret_bool (by rw [HOK.out]; rfl), B4.be⟩
end Go.Proofs.YtokaohlgncmoaaaGreat
namespace Go.Proofs.YtokaohlgncmoaaaGreat
open Go.ChangeShapes Go.WideShapes Go.ChangeAt Go.RowKit
set_option linter.unusedVariables false

set_option maxRecDepth 100000 in
set_option maxHeartbeats 4000000 in
theorem quotas_many {w : World} {a : Ad} {c : Cf} (hc : Cin w a c) (p : Nat) (hp : p < c.pn) (hp8 : p < 8) (hcol : okCol c p = true) (hh : (qOk (c.pf p) && zOk (c.pf p)) = true) (hs : sm c (p + 1) ≤ 1024) (hm : mOk c = true) (hn1 : ¬ c.F / c.C < im (c.pf p)) (hn2 : ((c.pf p).n : Int) * (c.F / c.C) < im (c.pf p) + (c.pf p).u + (c.pf p).t + (c.pf p).s + (c.pf p).r + (c.pf p).d) : Calls Tryz.prog 143 #[.agg #[.int .i64 c.F, .int .i64 c.C, .int .i64 c.W, .int .i64 c.S, .int .i64 c.V, .int .i64 c.T, .int .u64 c.k.l1, .int .u64 c.k.llc, .int .u64 c.k.mi, .int .u64 c.k.fa, .int .u64 c.k.st, .int .u64 c.k.di, .int .u64 c.sl, .int .u64 c.pd, .int .u64 c.ft, .slice a.ta c.tn a.tc, .slice a.pa c.pn a.pc], .int .i64 p] w (One (.bool (!okQ c p)) w) := by
  have HB0 := cb_new hc
  obtain ⟨b, off, hq, _⟩ := hc.p.at' hp
  have HQ : Hid (a.pa = some ⟨b, off, none⟩) := hq
  have hpl := hc.pl
  have hp1 : (p : Int) < (c.pn : Int) := by omega
  have MC : Hid (∀ w', Cin w' a c → Calls Tryz.prog 114 #[.agg #[.int .i64 c.F, .int .i64 c.C, .int .i64 c.W, .int .i64 c.S, .int .i64 c.V, .int .i64 c.T, .int .u64 c.k.l1, .int .u64 c.k.llc, .int .u64 c.k.mi, .int .u64 c.k.fa, .int .u64 c.k.st, .int .u64 c.k.di, .int .u64 c.sl, .int .u64 c.pd, .int .u64 c.ft, .slice a.ta c.tn a.tc, .slice a.pa c.pn a.pc]] w' (One (.bool (!mOk c)) w')) := fun w' h => machine_any h
  have HOK : Hid (okQ c p = (bif (qOk (c.pf p) && zOk (c.pf p)) then (bif decide (sm c (p + 1) ≤ 1024) then (bif mOk c then fit c (c.pf p) else true) else false) else false)) := by
    unfold Hid okQ
    rw [okQ_ways]
    cases h1 : qOk (c.pf p)
    · rfl
    · cases h2 : zOk (c.pf p)
      · rfl
      · simp only [sm, h2, cond_true, Bool.and_self]
  have HM : Hid (mOk c = true → c.MOk) := fun h => mOk_iff.1 h
  have hri : rise c.C (c.pf p).f (c.pf p).n = true ∧ 0 < (c.pf p).n := by unfold okCol at hcol; simp only [Bool.and_eq_true, decide_eq_true_eq] at hcol; exact ⟨hcol.1, hcol.2.1⟩
  have HL : Hid (((c.pf p).n : Int) ≤ c.C) := rise_len hri.1 hri.2
  have HSm : Hid (∀ k : Nat, k ≤ 9 → 0 ≤ sm c k ∧ sm c k ≤ 9216) := fun k hk => ⟨sm_nonneg c k, by have := sm_le c k; omega⟩
  have HFit : Hid (fit c (c.pf p) = (decide (im (c.pf p) ≤ c.F / c.C) && decide (im (c.pf p) + (c.pf p).u + (c.pf p).t + (c.pf p).s + (c.pf p).r + (c.pf p).d ≤ (c.pf p).n * (c.F / c.C)))) := rfl
  have HIm : Hid (0 ≤ (c.pf p).o → (c.pf p).o ≤ 3 → ((c.pf p).o = 0 ∧ im (c.pf p) = 1) ∨ ((c.pf p).o = 1 ∧ im (c.pf p) = 2) ∨ ((c.pf p).o = 2 ∧ im (c.pf p) = 4) ∨ ((c.pf p).o = 3 ∧ im (c.pf p) = 8)) := fun h0 h1 => im_ways h0 h1
  have HQZ : Hid ((qOk (c.pf p) && zOk (c.pf p)) = (inB (c.pf p).o 0 3 && (inB (c.pf p).u 2 4096 && (inB (c.pf p).t 4 4096 && (inB (c.pf p).s 1 4096 && (inB (c.pf p).r 1 4096 && (inB (c.pf p).d 1 4096 && inB (c.pf p).z 1 1024))))))) := qz_and _
  have HH : Hid ((qOk (c.pf p) && zOk (c.pf p)) = true) := hh
  have HSum : Hid (sm c (p + 1) ≤ 1024) := hs
  clear hs
  have HMk : Hid (mOk c = true) := hm
  clear hm
  have HN1 : Hid (¬ c.F / c.C < im (c.pf p)) := hn1
  clear hn1
  have HN2 : Hid (((c.pf p).n : Int) * (c.F / c.C) < im (c.pf p) + (c.pf p).u + (c.pf p).t + (c.pf p).s + (c.pf p).r + (c.pf p).d) := hn2
  clear hn2
  clear hcol hri hh
  rw [hq]
  rw [hq] at MC
  go_enter Tryz.func143, Tryz.ntmps143
  go_upto_region 1 with fail
  obtain ⟨W, hW, HB⟩ : ∃ W, (w.alloc (.cells #[.int .i64 c.F, .int .i64 c.C, .int .i64 c.W, .int .i64 c.S, .int .i64 c.V, .int .i64 c.T, .int .u64 c.k.l1, .int .u64 c.k.llc, .int .u64 c.k.mi, .int .u64 c.k.fa, .int .u64 c.k.st, .int .u64 c.k.di, .int .u64 c.sl, .int .u64 c.pd, .int .u64 c.ft, .slice a.ta c.tn a.tc, .slice a.pa c.pn a.pc] 28)) = W ∧ Hid (Cb w W w.heap.size a c) := ⟨_, rfl, HB0⟩
  rw [HQ.out] at hW
  rw [hW]
  clear hW HB0 hc hq
  obtain ⟨b', off', hq', ⟨_, e0, e1, e2, e3, e4, e5, e6, e7⟩⟩ := HB.out.ci.p.at' hp
  rw [HQ.out] at hq'
  cases hq'
  obtain ⟨_, c0, c1, c2, c3, c4, c5, c6, c7, c8, c9, c10, c11, c12, c13, c14, c15, c16⟩ := HB.out.bx
  clear c0 c1 c2 c3 c4 c5 c6 c7 c8 c9 c10 c11 c12 c13 c14 c15
  rw [HQ.out] at c16
  generalize okQ c p = res at *
  generalize a.ca p = q at *
  generalize a.cc p = m at *
  generalize hx : c.pf p = x at *
  clear hx
  go_upto_region 2 with fail
  obtain ⟨W1, bb, hW1, hbb, HC⟩ : ∃ W1 bb, (W.alloc (.cells #[.slice q x.n m, .int .i64 x.o, .int .i64 x.u, .int .i64 x.t, .int .i64 x.s, .int .i64 x.r, .int .i64 x.d, .int .i64 x.z] 82)) = W1 ∧ W.heap.size = bb ∧ Hid (Cq w W1 w.heap.size bb a c q m x) := ⟨_, _, rfl, rfl, HB.out.cq q m x⟩
  rw [hW1, hbb]
  clear hW1 hbb HB e0 e1 e2 e3 e4 e5 e6 e7 c16
  obtain ⟨_, e0, e1, e2, e3, e4, e5, e6, e7⟩ := HC.out.px
  have h0 : (inB x.o 0 3 && (inB x.u 2 4096 && (inB x.t 4 4096 && (inB x.s 1 4096 && (inB x.r 1 4096 && (inB x.d 1 4096 && inB x.z 1 1024)))))) = true := by rw [← HQZ.out]; exact HH.out
  obtain ⟨h1, h2, h3, h4, h5, h6, h7⟩ : inB x.o 0 3 = true ∧ inB x.u 2 4096 = true ∧ inB x.t 4 4096 = true ∧ inB x.s 1 4096 = true ∧ inB x.r 1 4096 = true ∧ inB x.d 1 4096 = true ∧ inB x.z 1 1024 = true := by simpa only [Bool.and_eq_true] using h0
  rw [HQZ.out, h0] at HOK
  have o01 := inB_iff.1 h1
  have u01 := inB_iff.1 h2
  have t01 := inB_iff.1 h3
  have s01 := inB_iff.1 h4
  have r01 := inB_iff.1 h5
  have d01 := inB_iff.1 h6
  clear HQZ h0
  go_wp2_with (go_at_call 158; refine (within_any _ _ _ _).mono ?_; rintro e w' ⟨rfl, hw'⟩; obtain rfl := hw'.symm)
  clear h1 h2 h3 h4 h5 h6 h7 e0 e1 e2 e3 e4 e5 e6 e7
  go_loopw [6, 7] (fun s i wr => ∃ k : Nat, k ≤ p + 1 ∧ i = .int .i64 k ∧ s = .int .i64 (sm c k) ∧ wr = W1) (fun _ i _ => p + 1 - (intOf i).toNat)
  case atStart => exact ⟨0, by omega, rfl, rfl, rfl⟩
  case round =>
    obtain ⟨k, hk, rfl, rfl, rfl⟩ := hrel
    by_cases hlt : k ≤ p
    · obtain ⟨b', off', hq', ⟨_, e0, e1, e2, e3, e4, e5, e6, e7⟩⟩ := HC.out.ci.p.at' (show k < c.pn by omega)
      rw [HQ.out] at hq'
      cases hq'
      obtain ⟨_, c0, c1, c2, c3, c4, c5, c6, c7, c8, c9, c10, c11, c12, c13, c14, c15, c16⟩ := HC.out.bx
      clear c0 c1 c2 c3 c4 c5 c6 c7 c8 c9 c10 c11 c12 c13 c14 c15 e0 e1 e2 e3 e4 e5 e6
      rw [HQ.out] at c16
      obtain ⟨y0, y1⟩ := HSm.out k (by omega)
      have HS1 : Hid (sm c (k + 1) = sm c k + (bif inB (c.pf k).z 1 1024 then (c.pf k).z else 0)) := rfl
      have hkp : (k : Int) ≤ (p : Int) := by omega
      have hkn : (k : Int) < (c.pn : Int) := by omega
      have hk0 : (0 : Int) ≤ (k : Int) := by omega
      have HZ : Hid (inB (c.pf k).z 1 1024 = true → 1 ≤ (c.pf k).z ∧ (c.pf k).z ≤ 1024) := fun h => inB_iff.1 h
      obtain ⟨S', hS'⟩ : ∃ S', sm c (k + 1) = S' := ⟨_, rfl⟩
      rw [hS'] at HS1
      have HSn : Hid (sm c (k + 1) = S') := hS'
      clear hS' HOK HM HL HSm HFit HIm MC
      generalize sm c k = S at *
      generalize (c.pf k).z = z at *
      cases hz : inB z 1 1024
      · rw [hz] at HS1
        have HS2 : Hid (S' = S) := by unfold Hid; rw [HS1.out]; simp
        clear HS1
        go_wp2_with (go_at_call 158; refine (within_any _ _ _ _).mono ?_; rintro e w' ⟨rfl, hw'⟩; obtain rfl := hw'.symm)
        go_roundw
        case rel => exact ⟨k + 1, by omega, by go_num, by rw [HSn.out, HS2.out], by first | rfl | trivial⟩
        case measure => simp [intOf]; omega
      · rw [hz] at HS1
        have HS2 : Hid (S' = S + z) := HS1.out
        obtain ⟨z0, z1⟩ := HZ.out hz
        clear HS1 HZ
        go_wp2_with (go_at_call 158; refine (within_any _ _ _ _).mono ?_; rintro e w' ⟨rfl, hw'⟩; obtain rfl := hw'.symm)
        go_roundw
        case rel => exact ⟨k + 1, by omega, by go_num, by rw [HSn.out, HS2.out], by first | rfl | trivial⟩
        case measure => simp [intOf]; omega
    · obtain rfl : k = p + 1 := by omega
      have hlt' : ¬ (((p + 1 : Nat) : Int) ≤ (p : Int)) := by omega
      generalize sm c (p + 1) = S at *
      have hS : S ≤ 1024 := by have := HSum.out; omega
      have hd : decide (S ≤ 1024) = true := by simp [hS]
      have hS2 : ¬ (1024 : Int) < S := by omega
      rw [hd] at HOK
      have HIm2 := HIm.out o01.1 o01.2
      obtain ⟨u0, u1⟩ := u01
      obtain ⟨t0, t1⟩ := t01
      obtain ⟨s0, s1⟩ := s01
      obtain ⟨r0, r1⟩ := r01
      obtain ⟨d0, d1⟩ := d01
      have HZs : Hid (∃ o0 I : Int, x.o = o0 ∧ im x = I ∧ 1 ≤ I ∧ I ≤ 8 ∧ ((o0 = 0 ∧ I = 1) ∨ (o0 = 1 ∧ I = 2) ∨ (o0 = 2 ∧ I = 4) ∨ (o0 = 3 ∧ I = 8))) := ⟨x.o, im x, rfl, rfl, by omega, by omega, by omega⟩
      clear HIm2 HIm o01 HSm
      obtain ⟨o0, I, ho0, hI, i0, i1, hoI⟩ := HZs.out
      rw [hI] at HFit HN1 HN2
      clear HZs hI
      obtain ⟨_, e0, e1, e2, e3, e4, e5, e6, e7⟩ := HC.out.px
      rw [ho0] at e1
      clear ho0
      go_upto_region 12 with fail
      go_cut [8] from 76 (fun t8 wx => t8 = .int .i64 I ∧ Cq w wx w.heap.size bb a c q m x)
      case first =>
        rcases hoI with ⟨rfl, rfl⟩ | ⟨rfl, rfl⟩ | ⟨rfl, rfl⟩ | ⟨rfl, rfl⟩
        all_goals
          go_upto_region 13 with fail
          go_meet
          case rel => exact ⟨rfl, HC.out⟩
      case rest =>
      obtain ⟨rfl, hC⟩ := hcut
      clear HC
      have HC : Hid (Cq w wc w.heap.size bb a c q m x) := hC
      clear hC e0 e1 e2 e3 e4 e5 e6 e7 hoI
      have hF0 : ∀ n : Idx (fun W => Cq w W w.heap.size bb a c q m x), n.W.cell? ⟨w.heap.size, 0, none⟩ = some (.int .i64 c.F) := fun n => n.h.bx.c0
      have hF1 : ∀ n : Idx (fun W => Cq w W w.heap.size bb a c q m x), n.W.cell? ⟨w.heap.size, 1, none⟩ = some (.int .i64 c.C) := fun n => n.h.bx.c1
      have hF2 : ∀ n : Idx (fun W => Cq w W w.heap.size bb a c q m x), n.W.cell? ⟨w.heap.size, 2, none⟩ = some (.int .i64 c.W) := fun n => n.h.bx.c2
      have hF3 : ∀ n : Idx (fun W => Cq w W w.heap.size bb a c q m x), n.W.cell? ⟨w.heap.size, 3, none⟩ = some (.int .i64 c.S) := fun n => n.h.bx.c3
      have hF4 : ∀ n : Idx (fun W => Cq w W w.heap.size bb a c q m x), n.W.cell? ⟨w.heap.size, 4, none⟩ = some (.int .i64 c.V) := fun n => n.h.bx.c4
      have hF5 : ∀ n : Idx (fun W => Cq w W w.heap.size bb a c q m x), n.W.cell? ⟨w.heap.size, 5, none⟩ = some (.int .i64 c.T) := fun n => n.h.bx.c5
      have hF6 : ∀ n : Idx (fun W => Cq w W w.heap.size bb a c q m x), n.W.cell? ⟨w.heap.size, 6, none⟩ = some (.int .u64 c.k.l1) := fun n => n.h.bx.c6
      have hF7 : ∀ n : Idx (fun W => Cq w W w.heap.size bb a c q m x), n.W.cell? ⟨w.heap.size, 7, none⟩ = some (.int .u64 c.k.llc) := fun n => n.h.bx.c7
      have hF8 : ∀ n : Idx (fun W => Cq w W w.heap.size bb a c q m x), n.W.cell? ⟨w.heap.size, 8, none⟩ = some (.int .u64 c.k.mi) := fun n => n.h.bx.c8
      have hF9 : ∀ n : Idx (fun W => Cq w W w.heap.size bb a c q m x), n.W.cell? ⟨w.heap.size, 9, none⟩ = some (.int .u64 c.k.fa) := fun n => n.h.bx.c9
      have hF10 : ∀ n : Idx (fun W => Cq w W w.heap.size bb a c q m x), n.W.cell? ⟨w.heap.size, 10, none⟩ = some (.int .u64 c.k.st) := fun n => n.h.bx.c10
      have hF11 : ∀ n : Idx (fun W => Cq w W w.heap.size bb a c q m x), n.W.cell? ⟨w.heap.size, 11, none⟩ = some (.int .u64 c.k.di) := fun n => n.h.bx.c11
      have hF12 : ∀ n : Idx (fun W => Cq w W w.heap.size bb a c q m x), n.W.cell? ⟨w.heap.size, 12, none⟩ = some (.int .u64 c.sl) := fun n => n.h.bx.c12
      have hF13 : ∀ n : Idx (fun W => Cq w W w.heap.size bb a c q m x), n.W.cell? ⟨w.heap.size, 13, none⟩ = some (.int .u64 c.pd) := fun n => n.h.bx.c13
      have hF14 : ∀ n : Idx (fun W => Cq w W w.heap.size bb a c q m x), n.W.cell? ⟨w.heap.size, 14, none⟩ = some (.int .u64 c.ft) := fun n => n.h.bx.c14
      have hF15 : ∀ n : Idx (fun W => Cq w W w.heap.size bb a c q m x), n.W.cell? ⟨w.heap.size, 15, none⟩ = some (.slice a.ta c.tn a.tc) := fun n => n.h.bx.c15
      have hF16 : ∀ n : Idx (fun W => Cq w W w.heap.size bb a c q m x), n.W.cell? ⟨w.heap.size, 16, none⟩ = some (.slice (some ⟨b, off, none⟩) c.pn a.pc) := fun n => by rw [← HQ.out]; exact n.h.bx.c16
      have hE0 : ∀ n : Idx (fun W => Cq w W w.heap.size bb a c q m x), n.W.cell? ⟨bb, 0, none⟩ = some (.slice q x.n m) := fun n => n.h.px.c0
      have hE1 : ∀ n : Idx (fun W => Cq w W w.heap.size bb a c q m x), n.W.cell? ⟨bb, 1, none⟩ = some (.int .i64 x.o) := fun n => n.h.px.c1
      have hE2 : ∀ n : Idx (fun W => Cq w W w.heap.size bb a c q m x), n.W.cell? ⟨bb, 2, none⟩ = some (.int .i64 x.u) := fun n => n.h.px.c2
      have hE3 : ∀ n : Idx (fun W => Cq w W w.heap.size bb a c q m x), n.W.cell? ⟨bb, 3, none⟩ = some (.int .i64 x.t) := fun n => n.h.px.c3
      have hE4 : ∀ n : Idx (fun W => Cq w W w.heap.size bb a c q m x), n.W.cell? ⟨bb, 4, none⟩ = some (.int .i64 x.s) := fun n => n.h.px.c4
      have hE5 : ∀ n : Idx (fun W => Cq w W w.heap.size bb a c q m x), n.W.cell? ⟨bb, 5, none⟩ = some (.int .i64 x.r) := fun n => n.h.px.c5
      have hE6 : ∀ n : Idx (fun W => Cq w W w.heap.size bb a c q m x), n.W.cell? ⟨bb, 6, none⟩ = some (.int .i64 x.d) := fun n => n.h.px.c6
      have hE7 : ∀ n : Idx (fun W => Cq w W w.heap.size bb a c q m x), n.W.cell? ⟨bb, 7, none⟩ = some (.int .i64 x.z) := fun n => n.h.px.c7
      have hne : Nonempty (Idx (fun W => Cq w W w.heap.size bb a c q m x)) := ⟨⟨wc, HC.out⟩⟩
      have hm : mOk c = true := HMk.out
      rw [hm] at MC HOK
      rw [show (!true) = false from rfl] at MC
      have hM := HM.out hm
      have hC0 : ¬ c.C = 0 := by have := hM.C; omega
      have hC1 : c.C ≤ 16 := by have := hM.C; omega
      obtain ⟨q0, q1⟩ := quo_range hM.C hM.F1 hM.F2
      have hq' : c.F.tdiv c.C = c.F / c.C := Int.tdiv_eq_ediv_of_nonneg (by have := hM.F1; omega)
      have hn16 : (x.n : Int) ≤ 16 := by have := HL.out; omega
      obtain ⟨p0, p1⟩ := prod_le (x.n : Int) (c.F / c.C) 16 4096 (by omega) hn16 q0 q1
      clear hM HM HL hm
      generalize hQ : c.F / c.C = Q at *
      generalize hTT : (x.n : Int) * Q = TT at *
      rw [HFit.out] at HOK
      clear HFit hQ
      have n1 : ¬ Q < I := by have := HN1.out; omega
      have g1 : decide (Q < I) = false := by simp; omega
      have g2 : decide (I ≤ Q) = true := by simp; omega
      rw [g2] at HOK
      clear g2
      generalize hU : I + x.u + x.t + x.s + x.r + x.d = U at *
      have n2 : TT < U := by have := HN2.out; omega
      have g3 : decide (TT < U) = true := by simp [n2]
      have g4 : decide (U ≤ TT) = false := by simp; omega
      rw [g4] at HOK
      clear g4
      go_upto_region 13 with fail
      have MN : Hid (∀ n : Idx (fun W => Cq w W w.heap.size bb a c q m x), Calls Tryz.prog 114 #[.agg #[.int .i64 c.F, .int .i64 c.C, .int .i64 c.W, .int .i64 c.S, .int .i64 c.V, .int .i64 c.T, .int .u64 c.k.l1, .int .u64 c.k.llc, .int .u64 c.k.mi, .int .u64 c.k.fa, .int .u64 c.k.st, .int .u64 c.k.di, .int .u64 c.sl, .int .u64 c.pd, .int .u64 c.ft, .slice a.ta c.tn a.tc, .slice (some ⟨b, off, none⟩) c.pn a.pc]] n.W (One (.bool false) n.W)) := fun n => MC.out _ n.h.ci
      refine wp_region_cls (fun W => Cq w W w.heap.size bb a c q m x) (by kernel_rfl) (by kernel_rfl) (HC.out.below (below_drew _ _)) ?_
      repeat (go_big_quiet_step ((go_at_call 114; exact Calls.cls (MN.out _) (fun _ _ h k => h.below k))))
      refine wpQuiet_nil ?_
      rintro w3 ⟨⟨_, B4⟩, rfl⟩
      go_wp2
      go_ret
      exact ⟨ret_bool (by rw [HOK.out]; rfl), B4.be⟩
set_option maxRecDepth 100000 in
set_option maxHeartbeats 4000000 in
theorem quotas_good {w : World} {a : Ad} {c : Cf} (hc : Cin w a c) (p : Nat) (hp : p < c.pn) (hp8 : p < 8) (hcol : okCol c p = true) (hh : (qOk (c.pf p) && zOk (c.pf p)) = true) (hs : sm c (p + 1) ≤ 1024) (hm : mOk c = true) (hn1 : ¬ c.F / c.C < im (c.pf p)) (hn2 : ¬ ((c.pf p).n : Int) * (c.F / c.C) < im (c.pf p) + (c.pf p).u + (c.pf p).t + (c.pf p).s + (c.pf p).r + (c.pf p).d) : Calls Tryz.prog 143 #[.agg #[.int .i64 c.F, .int .i64 c.C, .int .i64 c.W, .int .i64 c.S, .int .i64 c.V, .int .i64 c.T, .int .u64 c.k.l1, .int .u64 c.k.llc, .int .u64 c.k.mi, .int .u64 c.k.fa, .int .u64 c.k.st, .int .u64 c.k.di, .int .u64 c.sl, .int .u64 c.pd, .int .u64 c.ft, .slice a.ta c.tn a.tc, .slice a.pa c.pn a.pc], .int .i64 p] w (One (.bool (!okQ c p)) w) := by
  have HB0 := cb_new hc
  obtain ⟨b, off, hq, _⟩ := hc.p.at' hp
  have HQ : Hid (a.pa = some ⟨b, off, none⟩) := hq
  have hpl := hc.pl
  have hp1 : (p : Int) < (c.pn : Int) := by omega
  have MC : Hid (∀ w', Cin w' a c → Calls Tryz.prog 114 #[.agg #[.int .i64 c.F, .int .i64 c.C, .int .i64 c.W, .int .i64 c.S, .int .i64 c.V, .int .i64 c.T, .int .u64 c.k.l1, .int .u64 c.k.llc, .int .u64 c.k.mi, .int .u64 c.k.fa, .int .u64 c.k.st, .int .u64 c.k.di, .int .u64 c.sl, .int .u64 c.pd, .int .u64 c.ft, .slice a.ta c.tn a.tc, .slice a.pa c.pn a.pc]] w' (One (.bool (!mOk c)) w')) := fun w' h => machine_any h
  have HOK : Hid (okQ c p = (bif (qOk (c.pf p) && zOk (c.pf p)) then (bif decide (sm c (p + 1) ≤ 1024) then (bif mOk c then fit c (c.pf p) else true) else false) else false)) := by
    unfold Hid okQ
    rw [okQ_ways]
    cases h1 : qOk (c.pf p)
    · rfl
    · cases h2 : zOk (c.pf p)
      · rfl
      · simp only [sm, h2, cond_true, Bool.and_self]
  have HM : Hid (mOk c = true → c.MOk) := fun h => mOk_iff.1 h
  have hri : rise c.C (c.pf p).f (c.pf p).n = true ∧ 0 < (c.pf p).n := by unfold okCol at hcol; simp only [Bool.and_eq_true, decide_eq_true_eq] at hcol; exact ⟨hcol.1, hcol.2.1⟩
  have HL : Hid (((c.pf p).n : Int) ≤ c.C) := rise_len hri.1 hri.2
  have HSm : Hid (∀ k : Nat, k ≤ 9 → 0 ≤ sm c k ∧ sm c k ≤ 9216) := fun k hk => ⟨sm_nonneg c k, by have := sm_le c k; omega⟩
  have HFit : Hid (fit c (c.pf p) = (decide (im (c.pf p) ≤ c.F / c.C) && decide (im (c.pf p) + (c.pf p).u + (c.pf p).t + (c.pf p).s + (c.pf p).r + (c.pf p).d ≤ (c.pf p).n * (c.F / c.C)))) := rfl
  have HIm : Hid (0 ≤ (c.pf p).o → (c.pf p).o ≤ 3 → ((c.pf p).o = 0 ∧ im (c.pf p) = 1) ∨ ((c.pf p).o = 1 ∧ im (c.pf p) = 2) ∨ ((c.pf p).o = 2 ∧ im (c.pf p) = 4) ∨ ((c.pf p).o = 3 ∧ im (c.pf p) = 8)) := fun h0 h1 => im_ways h0 h1
  have HQZ : Hid ((qOk (c.pf p) && zOk (c.pf p)) = (inB (c.pf p).o 0 3 && (inB (c.pf p).u 2 4096 && (inB (c.pf p).t 4 4096 && (inB (c.pf p).s 1 4096 && (inB (c.pf p).r 1 4096 && (inB (c.pf p).d 1 4096 && inB (c.pf p).z 1 1024))))))) := qz_and _
  have HH : Hid ((qOk (c.pf p) && zOk (c.pf p)) = true) := hh
  have HSum : Hid (sm c (p + 1) ≤ 1024) := hs
  clear hs
  have HMk : Hid (mOk c = true) := hm
  clear hm
  have HN1 : Hid (¬ c.F / c.C < im (c.pf p)) := hn1
  clear hn1
  have HN2 : Hid (¬ ((c.pf p).n : Int) * (c.F / c.C) < im (c.pf p) + (c.pf p).u + (c.pf p).t + (c.pf p).s + (c.pf p).r + (c.pf p).d) := hn2
  clear hn2
  clear hcol hri hh
  rw [hq]
  rw [hq] at MC
  go_enter Tryz.func143, Tryz.ntmps143
  go_upto_region 1 with fail
  obtain ⟨W, hW, HB⟩ : ∃ W, (w.alloc (.cells #[.int .i64 c.F, .int .i64 c.C, .int .i64 c.W, .int .i64 c.S, .int .i64 c.V, .int .i64 c.T, .int .u64 c.k.l1, .int .u64 c.k.llc, .int .u64 c.k.mi, .int .u64 c.k.fa, .int .u64 c.k.st, .int .u64 c.k.di, .int .u64 c.sl, .int .u64 c.pd, .int .u64 c.ft, .slice a.ta c.tn a.tc, .slice a.pa c.pn a.pc] 28)) = W ∧ Hid (Cb w W w.heap.size a c) := ⟨_, rfl, HB0⟩
  rw [HQ.out] at hW
  rw [hW]
  clear hW HB0 hc hq
  obtain ⟨b', off', hq', ⟨_, e0, e1, e2, e3, e4, e5, e6, e7⟩⟩ := HB.out.ci.p.at' hp
  rw [HQ.out] at hq'
  cases hq'
  obtain ⟨_, c0, c1, c2, c3, c4, c5, c6, c7, c8, c9, c10, c11, c12, c13, c14, c15, c16⟩ := HB.out.bx
  clear c0 c1 c2 c3 c4 c5 c6 c7 c8 c9 c10 c11 c12 c13 c14 c15
  rw [HQ.out] at c16
  generalize okQ c p = res at *
  generalize a.ca p = q at *
  generalize a.cc p = m at *
  generalize hx : c.pf p = x at *
  clear hx
  go_upto_region 2 with fail
  obtain ⟨W1, bb, hW1, hbb, HC⟩ : ∃ W1 bb, (W.alloc (.cells #[.slice q x.n m, .int .i64 x.o, .int .i64 x.u, .int .i64 x.t, .int .i64 x.s, .int .i64 x.r, .int .i64 x.d, .int .i64 x.z] 82)) = W1 ∧ W.heap.size = bb ∧ Hid (Cq w W1 w.heap.size bb a c q m x) := ⟨_, _, rfl, rfl, HB.out.cq q m x⟩
  rw [hW1, hbb]
  clear hW1 hbb HB e0 e1 e2 e3 e4 e5 e6 e7 c16
  obtain ⟨_, e0, e1, e2, e3, e4, e5, e6, e7⟩ := HC.out.px
  have h0 : (inB x.o 0 3 && (inB x.u 2 4096 && (inB x.t 4 4096 && (inB x.s 1 4096 && (inB x.r 1 4096 && (inB x.d 1 4096 && inB x.z 1 1024)))))) = true := by rw [← HQZ.out]; exact HH.out
  obtain ⟨h1, h2, h3, h4, h5, h6, h7⟩ : inB x.o 0 3 = true ∧ inB x.u 2 4096 = true ∧ inB x.t 4 4096 = true ∧ inB x.s 1 4096 = true ∧ inB x.r 1 4096 = true ∧ inB x.d 1 4096 = true ∧ inB x.z 1 1024 = true := by simpa only [Bool.and_eq_true] using h0
  rw [HQZ.out, h0] at HOK
  have o01 := inB_iff.1 h1
  have u01 := inB_iff.1 h2
  have t01 := inB_iff.1 h3
  have s01 := inB_iff.1 h4
  have r01 := inB_iff.1 h5
  have d01 := inB_iff.1 h6
  clear HQZ h0
  go_wp2_with (go_at_call 158; refine (within_any _ _ _ _).mono ?_; rintro e w' ⟨rfl, hw'⟩; obtain rfl := hw'.symm)
  clear h1 h2 h3 h4 h5 h6 h7 e0 e1 e2 e3 e4 e5 e6 e7
  go_loopw [6, 7] (fun s i wr => ∃ k : Nat, k ≤ p + 1 ∧ i = .int .i64 k ∧ s = .int .i64 (sm c k) ∧ wr = W1) (fun _ i _ => p + 1 - (intOf i).toNat)
  case atStart => exact ⟨0, by omega, rfl, rfl, rfl⟩
  case round =>
    obtain ⟨k, hk, rfl, rfl, rfl⟩ := hrel
    by_cases hlt : k ≤ p
    · obtain ⟨b', off', hq', ⟨_, e0, e1, e2, e3, e4, e5, e6, e7⟩⟩ := HC.out.ci.p.at' (show k < c.pn by omega)
      rw [HQ.out] at hq'
      cases hq'
      obtain ⟨_, c0, c1, c2, c3, c4, c5, c6, c7, c8, c9, c10, c11, c12, c13, c14, c15, c16⟩ := HC.out.bx
      clear c0 c1 c2 c3 c4 c5 c6 c7 c8 c9 c10 c11 c12 c13 c14 c15 e0 e1 e2 e3 e4 e5 e6
      rw [HQ.out] at c16
      obtain ⟨y0, y1⟩ := HSm.out k (by omega)
      have HS1 : Hid (sm c (k + 1) = sm c k + (bif inB (c.pf k).z 1 1024 then (c.pf k).z else 0)) := rfl
      have hkp : (k : Int) ≤ (p : Int) := by omega
      have hkn : (k : Int) < (c.pn : Int) := by omega
      have hk0 : (0 : Int) ≤ (k : Int) := by omega
      have HZ : Hid (inB (c.pf k).z 1 1024 = true → 1 ≤ (c.pf k).z ∧ (c.pf k).z ≤ 1024) := fun h => inB_iff.1 h
      obtain ⟨S', hS'⟩ : ∃ S', sm c (k + 1) = S' := ⟨_, rfl⟩
      rw [hS'] at HS1
      have HSn : Hid (sm c (k + 1) = S') := hS'
      clear hS' HOK HM HL HSm HFit HIm MC
      generalize sm c k = S at *
      generalize (c.pf k).z = z at *
      cases hz : inB z 1 1024
      · rw [hz] at HS1
        have HS2 : Hid (S' = S) := by unfold Hid; rw [HS1.out]; simp
        clear HS1
        go_wp2_with (go_at_call 158; refine (within_any _ _ _ _).mono ?_; rintro e w' ⟨rfl, hw'⟩; obtain rfl := hw'.symm)
        go_roundw
        case rel => exact ⟨k + 1, by omega, by go_num, by rw [HSn.out, HS2.out], by first | rfl | trivial⟩
        case measure => simp [intOf]; omega
      · rw [hz] at HS1
        have HS2 : Hid (S' = S + z) := HS1.out
        obtain ⟨z0, z1⟩ := HZ.out hz
        clear HS1 HZ
        go_wp2_with (go_at_call 158; refine (within_any _ _ _ _).mono ?_; rintro e w' ⟨rfl, hw'⟩; obtain rfl := hw'.symm)
        go_roundw
        case rel => exact ⟨k + 1, by omega, by go_num, by rw [HSn.out, HS2.out], by first | rfl | trivial⟩
        case measure => simp [intOf]; omega
    · obtain rfl : k = p + 1 := by omega
      have hlt' : ¬ (((p + 1 : Nat) : Int) ≤ (p : Int)) := by omega
      generalize sm c (p + 1) = S at *
      have hS : S ≤ 1024 := by have := HSum.out; omega
      have hd : decide (S ≤ 1024) = true := by simp [hS]
      have hS2 : ¬ (1024 : Int) < S := by omega
      rw [hd] at HOK
      have HIm2 := HIm.out o01.1 o01.2
      obtain ⟨u0, u1⟩ := u01
      obtain ⟨t0, t1⟩ := t01
      obtain ⟨s0, s1⟩ := s01
      obtain ⟨r0, r1⟩ := r01
      obtain ⟨d0, d1⟩ := d01
      have HZs : Hid (∃ o0 I : Int, x.o = o0 ∧ im x = I ∧ 1 ≤ I ∧ I ≤ 8 ∧ ((o0 = 0 ∧ I = 1) ∨ (o0 = 1 ∧ I = 2) ∨ (o0 = 2 ∧ I = 4) ∨ (o0 = 3 ∧ I = 8))) := ⟨x.o, im x, rfl, rfl, by omega, by omega, by omega⟩
      clear HIm2 HIm o01 HSm
      obtain ⟨o0, I, ho0, hI, i0, i1, hoI⟩ := HZs.out
      rw [hI] at HFit HN1 HN2
      clear HZs hI
      obtain ⟨_, e0, e1, e2, e3, e4, e5, e6, e7⟩ := HC.out.px
      rw [ho0] at e1
      clear ho0
      go_upto_region 12 with fail
      go_cut [8] from 76 (fun t8 wx => t8 = .int .i64 I ∧ Cq w wx w.heap.size bb a c q m x)
      case first =>
        rcases hoI with ⟨rfl, rfl⟩ | ⟨rfl, rfl⟩ | ⟨rfl, rfl⟩ | ⟨rfl, rfl⟩
        all_goals
          go_upto_region 13 with fail
          go_meet
          case rel => exact ⟨rfl, HC.out⟩
      case rest =>
      obtain ⟨rfl, hC⟩ := hcut
      clear HC
      have HC : Hid (Cq w wc w.heap.size bb a c q m x) := hC
      clear hC e0 e1 e2 e3 e4 e5 e6 e7 hoI
      have hF0 : ∀ n : Idx (fun W => Cq w W w.heap.size bb a c q m x), n.W.cell? ⟨w.heap.size, 0, none⟩ = some (.int .i64 c.F) := fun n => n.h.bx.c0
      have hF1 : ∀ n : Idx (fun W => Cq w W w.heap.size bb a c q m x), n.W.cell? ⟨w.heap.size, 1, none⟩ = some (.int .i64 c.C) := fun n => n.h.bx.c1
      have hF2 : ∀ n : Idx (fun W => Cq w W w.heap.size bb a c q m x), n.W.cell? ⟨w.heap.size, 2, none⟩ = some (.int .i64 c.W) := fun n => n.h.bx.c2
      have hF3 : ∀ n : Idx (fun W => Cq w W w.heap.size bb a c q m x), n.W.cell? ⟨w.heap.size, 3, none⟩ = some (.int .i64 c.S) := fun n => n.h.bx.c3
      have hF4 : ∀ n : Idx (fun W => Cq w W w.heap.size bb a c q m x), n.W.cell? ⟨w.heap.size, 4, none⟩ = some (.int .i64 c.V) := fun n => n.h.bx.c4
      have hF5 : ∀ n : Idx (fun W => Cq w W w.heap.size bb a c q m x), n.W.cell? ⟨w.heap.size, 5, none⟩ = some (.int .i64 c.T) := fun n => n.h.bx.c5
      have hF6 : ∀ n : Idx (fun W => Cq w W w.heap.size bb a c q m x), n.W.cell? ⟨w.heap.size, 6, none⟩ = some (.int .u64 c.k.l1) := fun n => n.h.bx.c6
      have hF7 : ∀ n : Idx (fun W => Cq w W w.heap.size bb a c q m x), n.W.cell? ⟨w.heap.size, 7, none⟩ = some (.int .u64 c.k.llc) := fun n => n.h.bx.c7
      have hF8 : ∀ n : Idx (fun W => Cq w W w.heap.size bb a c q m x), n.W.cell? ⟨w.heap.size, 8, none⟩ = some (.int .u64 c.k.mi) := fun n => n.h.bx.c8
      have hF9 : ∀ n : Idx (fun W => Cq w W w.heap.size bb a c q m x), n.W.cell? ⟨w.heap.size, 9, none⟩ = some (.int .u64 c.k.fa) := fun n => n.h.bx.c9
      have hF10 : ∀ n : Idx (fun W => Cq w W w.heap.size bb a c q m x), n.W.cell? ⟨w.heap.size, 10, none⟩ = some (.int .u64 c.k.st) := fun n => n.h.bx.c10
      have hF11 : ∀ n : Idx (fun W => Cq w W w.heap.size bb a c q m x), n.W.cell? ⟨w.heap.size, 11, none⟩ = some (.int .u64 c.k.di) := fun n => n.h.bx.c11
      have hF12 : ∀ n : Idx (fun W => Cq w W w.heap.size bb a c q m x), n.W.cell? ⟨w.heap.size, 12, none⟩ = some (.int .u64 c.sl) := fun n => n.h.bx.c12
      have hF13 : ∀ n : Idx (fun W => Cq w W w.heap.size bb a c q m x), n.W.cell? ⟨w.heap.size, 13, none⟩ = some (.int .u64 c.pd) := fun n => n.h.bx.c13
      have hF14 : ∀ n : Idx (fun W => Cq w W w.heap.size bb a c q m x), n.W.cell? ⟨w.heap.size, 14, none⟩ = some (.int .u64 c.ft) := fun n => n.h.bx.c14
      have hF15 : ∀ n : Idx (fun W => Cq w W w.heap.size bb a c q m x), n.W.cell? ⟨w.heap.size, 15, none⟩ = some (.slice a.ta c.tn a.tc) := fun n => n.h.bx.c15
      have hF16 : ∀ n : Idx (fun W => Cq w W w.heap.size bb a c q m x), n.W.cell? ⟨w.heap.size, 16, none⟩ = some (.slice (some ⟨b, off, none⟩) c.pn a.pc) := fun n => by rw [← HQ.out]; exact n.h.bx.c16
      have hE0 : ∀ n : Idx (fun W => Cq w W w.heap.size bb a c q m x), n.W.cell? ⟨bb, 0, none⟩ = some (.slice q x.n m) := fun n => n.h.px.c0
      have hE1 : ∀ n : Idx (fun W => Cq w W w.heap.size bb a c q m x), n.W.cell? ⟨bb, 1, none⟩ = some (.int .i64 x.o) := fun n => n.h.px.c1
      have hE2 : ∀ n : Idx (fun W => Cq w W w.heap.size bb a c q m x), n.W.cell? ⟨bb, 2, none⟩ = some (.int .i64 x.u) := fun n => n.h.px.c2
      have hE3 : ∀ n : Idx (fun W => Cq w W w.heap.size bb a c q m x), n.W.cell? ⟨bb, 3, none⟩ = some (.int .i64 x.t) := fun n => n.h.px.c3
      have hE4 : ∀ n : Idx (fun W => Cq w W w.heap.size bb a c q m x), n.W.cell? ⟨bb, 4, none⟩ = some (.int .i64 x.s) := fun n => n.h.px.c4
      have hE5 : ∀ n : Idx (fun W => Cq w W w.heap.size bb a c q m x), n.W.cell? ⟨bb, 5, none⟩ = some (.int .i64 x.r) := fun n => n.h.px.c5
      have hE6 : ∀ n : Idx (fun W => Cq w W w.heap.size bb a c q m x), n.W.cell? ⟨bb, 6, none⟩ = some (.int .i64 x.d) := fun n => n.h.px.c6
      have hE7 : ∀ n : Idx (fun W => Cq w W w.heap.size bb a c q m x), n.W.cell? ⟨bb, 7, none⟩ = some (.int .i64 x.z) := fun n => n.h.px.c7
      have hne : Nonempty (Idx (fun W => Cq w W w.heap.size bb a c q m x)) := ⟨⟨wc, HC.out⟩⟩
      have hm : mOk c = true := HMk.out
      rw [hm] at MC HOK
      rw [show (!true) = false from rfl] at MC
      have hM := HM.out hm
      have hC0 : ¬ c.C = 0 := by have := hM.C; omega
      have hC1 : c.C ≤ 16 := by have := hM.C; omega
      obtain ⟨q0, q1⟩ := quo_range hM.C hM.F1 hM.F2
      have hq' : c.F.tdiv c.C = c.F / c.C := Int.tdiv_eq_ediv_of_nonneg (by have := hM.F1; omega)
      have hn16 : (x.n : Int) ≤ 16 := by have := HL.out; omega
      obtain ⟨p0, p1⟩ := prod_le (x.n : Int) (c.F / c.C) 16 4096 (by omega) hn16 q0 q1
      clear hM HM HL hm
      generalize hQ : c.F / c.C = Q at *
      generalize hTT : (x.n : Int) * Q = TT at *
      rw [HFit.out] at HOK
      clear HFit hQ
      have n1 : ¬ Q < I := by have := HN1.out; omega
      have g1 : decide (Q < I) = false := by simp; omega
      have g2 : decide (I ≤ Q) = true := by simp; omega
      rw [g2] at HOK
      clear g2
      generalize hU : I + x.u + x.t + x.s + x.r + x.d = U at *
      have n2 : ¬ TT < U := by have := HN2.out; omega
      have g3 : decide (TT < U) = false := by simp; omega
      have g4 : decide (U ≤ TT) = true := by simp; omega
      rw [g4] at HOK
      clear g4
      go_upto_region 13 with fail
      have MN : Hid (∀ n : Idx (fun W => Cq w W w.heap.size bb a c q m x), Calls Tryz.prog 114 #[.agg #[.int .i64 c.F, .int .i64 c.C, .int .i64 c.W, .int .i64 c.S, .int .i64 c.V, .int .i64 c.T, .int .u64 c.k.l1, .int .u64 c.k.llc, .int .u64 c.k.mi, .int .u64 c.k.fa, .int .u64 c.k.st, .int .u64 c.k.di, .int .u64 c.sl, .int .u64 c.pd, .int .u64 c.ft, .slice a.ta c.tn a.tc, .slice (some ⟨b, off, none⟩) c.pn a.pc]] n.W (One (.bool false) n.W)) := fun n => MC.out _ n.h.ci
      refine wp_region_cls (fun W => Cq w W w.heap.size bb a c q m x) (by kernel_rfl) (by kernel_rfl) (HC.out.below (below_drew _ _)) ?_
      repeat (go_big_quiet_step ((go_at_call 114; exact Calls.cls (MN.out _) (fun _ _ h k => h.below k))))
      refine wpQuiet_nil ?_
      rintro w3 ⟨⟨_, B4⟩, rfl⟩
      go_wp2
      go_ret
      exact ⟨ret_bool (by rw [HOK.out]; rfl), B4.be⟩
end Go.Proofs.YtokaohlgncmoaaaGreat
