/- What the document's answer says of a partition's quotas, of a partition, and its shape; no condition but those named. -/
import Derived.Test.YtifchflbhdnfaaaGreatVRu
import Derived.Test.YtifchflbhdnfaaaGreatVP6
import Derived.Test.YtifchflbhdnfaaaGreatVCa
namespace Go.Proofs.YtifchflbhdnfaaaGreat
open Go.ChangeShapes Go.WideShapes Go.ChangeAt Go.RowKit
set_option linter.unusedVariables false

/-- A configuration's box and a partition's beside what was there (the partition made last). -/
structure Cq (w0 w : World) (g b : Nat) (a : Ad) (c : Cf) (q : Option Addr) (m : Nat) (x : Pa) : Prop where
  be : Below w0.heap.size w0 w
  bx : Sev w g a c
  px : Ebx w b q m x
  ci : Cin w a c
theorem Cq.below {w0 w w' : World} {g b : Nat} {a : Ad} {c : Cf} {q : Option Addr} {m : Nat} {x : Pa} (h : Cq w0 w g b a c q m x) (k : Below w.heap.size w w') : Cq w0 w' g b a c q m x :=
  ⟨h.be.trans (k.mono h.be.size), h.bx.below k, h.px.below k, h.ci.below k⟩
theorem Cb.cq {w0 w : World} {g : Nat} {a : Ad} {c : Cf} (h : Cb w0 w g a c) (q : Option Addr) (m : Nat) (x : Pa) : Cq w0 (w.alloc (.cells #[.slice q x.n m, .int .i64 x.o, .int .i64 x.u, .int .i64 x.t, .int .i64 x.s, .int .i64 x.r, .int .i64 x.d, .int .i64 x.z] 52)) g w.heap.size a c q m x :=
  ⟨h.be.alloc h.be.size _, h.bx.below (below_new _ _), ebx_new _ _ _ _, h.ci.below (below_new _ _)⟩
theorem ways7 : ∀ a b c d e f g : Bool, ((a && (b && (c && (d && (e && (f && g)))))) = false ∧ (a = false ∨ (a = true ∧ b = false) ∨ (a = true ∧ b = true ∧ c = false) ∨ (a = true ∧ b = true ∧ c = true ∧ d = false)
    ∨ (a = true ∧ b = true ∧ c = true ∧ d = true ∧ e = false) ∨ (a = true ∧ b = true ∧ c = true ∧ d = true ∧ e = true ∧ f = false) ∨ (a = true ∧ b = true ∧ c = true ∧ d = true ∧ e = true ∧ f = true ∧ g = false)))
    ∨ ((a && (b && (c && (d && (e && (f && g)))))) = true ∧ a = true ∧ b = true ∧ c = true ∧ d = true ∧ e = true ∧ f = true ∧ g = true) := by
  intro a b c d e f g
  cases a <;> cases b <;> cases c <;> cases d <;> cases e <;> cases f <;> cases g <;> simp
theorem qz_and (x : Pa) : (qOk x && zOk x) = (inB x.o 0 3 && (inB x.u 2 4096 && (inB x.t 4 4096 && (inB x.s 1 4096 && (inB x.r 1 4096 && (inB x.d 1 4096 && inB x.z 1 1024)))))) := by
  simp only [qOk, zOk, Bool.and_assoc]
theorem Cq.sx {w0 W : World} {g b : Nat} {a : Ad} {c : Cf} {q : Option Addr} {m : Nat} {x : Pa} {pa : Option Addr} (h : Cq w0 W g b a c q m x) (hq : a.pa = pa) : (W.cell? ⟨g, 0, none⟩ = some (.int .i64 c.F) ∧ W.cell? ⟨g, 1, none⟩ = some (.int .i64 c.C) ∧ W.cell? ⟨g, 2, none⟩ = some (.int .i64 c.W) ∧ W.cell? ⟨g, 3, none⟩ = some (.int .i64 c.S) ∧ W.cell? ⟨g, 4, none⟩ = some (.int .i64 c.V) ∧ W.cell? ⟨g, 5, none⟩ = some (.int .i64 c.T) ∧ W.cell? ⟨g, 6, none⟩ = some (.int .u64 c.k.l1) ∧ W.cell? ⟨g, 7, none⟩ = some (.int .u64 c.k.llc) ∧ W.cell? ⟨g, 8, none⟩ = some (.int .u64 c.k.mi) ∧ W.cell? ⟨g, 9, none⟩ = some (.int .u64 c.k.fa) ∧ W.cell? ⟨g, 10, none⟩ = some (.int .u64 c.k.st) ∧ W.cell? ⟨g, 11, none⟩ = some (.int .u64 c.k.di) ∧ W.cell? ⟨g, 12, none⟩ = some (.int .u64 c.sl) ∧ W.cell? ⟨g, 13, none⟩ = some (.int .u64 c.pd) ∧ W.cell? ⟨g, 14, none⟩ = some (.int .u64 c.ft) ∧ W.cell? ⟨g, 15, none⟩ = some (.slice a.ta c.tn a.tc) ∧ W.cell? ⟨g, 16, none⟩ = some (.slice pa c.pn a.pc)) ∧ (W.cell? ⟨b, 0, none⟩ = some (.slice q x.n m) ∧ W.cell? ⟨b, 1, none⟩ = some (.int .i64 x.o) ∧ W.cell? ⟨b, 2, none⟩ = some (.int .i64 x.u) ∧ W.cell? ⟨b, 3, none⟩ = some (.int .i64 x.t) ∧ W.cell? ⟨b, 4, none⟩ = some (.int .i64 x.s) ∧ W.cell? ⟨b, 5, none⟩ = some (.int .i64 x.r) ∧ W.cell? ⟨b, 6, none⟩ = some (.int .i64 x.d) ∧ W.cell? ⟨b, 7, none⟩ = some (.int .i64 x.z)) := by
  subst hq
  exact ⟨⟨h.bx.c0, h.bx.c1, h.bx.c2, h.bx.c3, h.bx.c4, h.bx.c5, h.bx.c6, h.bx.c7, h.bx.c8, h.bx.c9, h.bx.c10, h.bx.c11, h.bx.c12, h.bx.c13, h.bx.c14, h.bx.c15, h.bx.c16⟩, h.px.sx⟩
end Go.Proofs.YtifchflbhdnfaaaGreat
/- What the document's answer says of a partition's quotas where one is none, or the slots are too many; no condition but those named. -/
namespace Go.Proofs.YtifchflbhdnfaaaGreat
open Go.ChangeShapes Go.WideShapes Go.ChangeAt Go.RowKit
set_option linter.unusedVariables false

set_option maxRecDepth 100000 in
set_option maxHeartbeats 4000000 in
theorem quotas_bad {w : World} {a : Ad} {c : Cf} (hc : Cin w a c) (p : Nat) (hp : p < c.pn) (hp8 : p < 8) (hcol : okCol c p = true) (hh : (qOk (c.pf p) && zOk (c.pf p)) = false) : Calls Tryz.prog 144 #[.agg #[.int .i64 c.F, .int .i64 c.C, .int .i64 c.W, .int .i64 c.S, .int .i64 c.V, .int .i64 c.T, .int .u64 c.k.l1, .int .u64 c.k.llc, .int .u64 c.k.mi, .int .u64 c.k.fa, .int .u64 c.k.st, .int .u64 c.k.di, .int .u64 c.sl, .int .u64 c.pd, .int .u64 c.ft, .slice a.ta c.tn a.tc, .slice a.pa c.pn a.pc], .int .i64 p] w (One (.bool (!okQ c p)) w) := by
  have HB0 := cb_new hc
  obtain ⟨b, off, hq, _⟩ := hc.p.at' hp
  have HQ : Hid (a.pa = some ⟨b, off, none⟩) := hq
  have hpl := hc.pl
  have hp1 : (p : Int) < (c.pn : Int) := by omega
  have MC : Hid (∀ w', Cin w' a c → Calls Tryz.prog 120 #[.agg #[.int .i64 c.F, .int .i64 c.C, .int .i64 c.W, .int .i64 c.S, .int .i64 c.V, .int .i64 c.T, .int .u64 c.k.l1, .int .u64 c.k.llc, .int .u64 c.k.mi, .int .u64 c.k.fa, .int .u64 c.k.st, .int .u64 c.k.di, .int .u64 c.sl, .int .u64 c.pd, .int .u64 c.ft, .slice a.ta c.tn a.tc, .slice a.pa c.pn a.pc]] w' (One (.bool (!mOk c)) w')) := fun w' h => machine_any h
  have HOK : Hid (okQ c p = (bif (qOk (c.pf p) && zOk (c.pf p)) then (bif decide (sm c (p + 1) ≤ 1024) then (bif mOk c then fit c (c.pf p) else true) else false) else false)) := by
    unfold Hid okQ
    rw [okQ_ways]
    cases h1 : qOk (c.pf p)
    · rfl
    · cases h2 : zOk (c.pf p)
      · rfl
      · simp only [sm, h2, cond_true, Bool.and_self]
  have HM : Hid (mOk c = true → c.MOk) := fun h => mOk_iff.1 h
  have hri : rise c.C (c.pf p).f (c.pf p).n = true ∧ 0 < (c.pf p).n := by unfold okCol at hcol; simp only [Bool.and_eq_true, decide_eq_true_eq] at hcol; exact ⟨hcol.1, hcol.2.1⟩
  have HL : Hid (((c.pf p).n : Int) ≤ c.C) := rise_len hri.1 hri.2
  have HSm : Hid (∀ k : Nat, k ≤ 9 → 0 ≤ sm c k ∧ sm c k ≤ 9216) := fun k hk => ⟨sm_nonneg c k, by have := sm_le c k; omega⟩
  have HFit : Hid (fit c (c.pf p) = (decide (im (c.pf p) ≤ c.F / c.C) && decide (im (c.pf p) + (c.pf p).u + (c.pf p).t + (c.pf p).s + (c.pf p).r + (c.pf p).d ≤ (c.pf p).n * (c.F / c.C)))) := rfl
  have HIm : Hid (0 ≤ (c.pf p).o → (c.pf p).o ≤ 3 → ((c.pf p).o = 0 ∧ im (c.pf p) = 1) ∨ ((c.pf p).o = 1 ∧ im (c.pf p) = 2) ∨ ((c.pf p).o = 2 ∧ im (c.pf p) = 4) ∨ ((c.pf p).o = 3 ∧ im (c.pf p) = 8)) := fun h0 h1 => im_ways h0 h1
  have HQZ : Hid ((qOk (c.pf p) && zOk (c.pf p)) = (inB (c.pf p).o 0 3 && (inB (c.pf p).u 2 4096 && (inB (c.pf p).t 4 4096 && (inB (c.pf p).s 1 4096 && (inB (c.pf p).r 1 4096 && (inB (c.pf p).d 1 4096 && inB (c.pf p).z 1 1024))))))) := qz_and _
  have HH : Hid ((qOk (c.pf p) && zOk (c.pf p)) = false) := hh
  clear hcol hri hh
  rw [hq]
  rw [hq] at MC
  go_enter Tryz.func144, Tryz.ntmps144
  go_upto_region 1 with fail
  obtain ⟨W, hW, HB⟩ : ∃ W, (w.alloc (.cells #[.int .i64 c.F, .int .i64 c.C, .int .i64 c.W, .int .i64 c.S, .int .i64 c.V, .int .i64 c.T, .int .u64 c.k.l1, .int .u64 c.k.llc, .int .u64 c.k.mi, .int .u64 c.k.fa, .int .u64 c.k.st, .int .u64 c.k.di, .int .u64 c.sl, .int .u64 c.pd, .int .u64 c.ft, .slice a.ta c.tn a.tc, .slice a.pa c.pn a.pc] 28)) = W ∧ Hid (Cb w W w.heap.size a c) := ⟨_, rfl, HB0⟩
  rw [HQ.out] at hW
  rw [hW]
  clear hW HB0 hc hq
  obtain ⟨b', off', hq', ⟨_, e0, e1, e2, e3, e4, e5, e6, e7⟩⟩ := HB.out.ci.p.at' hp
  rw [HQ.out] at hq'
  cases hq'
  obtain ⟨_, c0, c1, c2, c3, c4, c5, c6, c7, c8, c9, c10, c11, c12, c13, c14, c15, c16⟩ := HB.out.bx
  clear c0 c1 c2 c3 c4 c5 c6 c7 c8 c9 c10 c11 c12 c13 c14 c15
  rw [HQ.out] at c16
  generalize okQ c p = res at *
  generalize a.ca p = q at *
  generalize a.cc p = m at *
  generalize hx : c.pf p = x at *
  clear hx
  go_upto_region 2 with fail
  obtain ⟨W1, bb, hW1, hbb, HC⟩ : ∃ W1 bb, (W.alloc (.cells #[.slice q x.n m, .int .i64 x.o, .int .i64 x.u, .int .i64 x.t, .int .i64 x.s, .int .i64 x.r, .int .i64 x.d, .int .i64 x.z] 52)) = W1 ∧ W.heap.size = bb ∧ Hid (Cq w W1 w.heap.size bb a c q m x) := ⟨_, _, rfl, rfl, HB.out.cq q m x⟩
  rw [hW1, hbb]
  clear hW1 hbb HB e0 e1 e2 e3 e4 e5 e6 e7 c16
  obtain ⟨_, e0, e1, e2, e3, e4, e5, e6, e7⟩ := HC.out.px
  have h0 : (inB x.o 0 3 && (inB x.u 2 4096 && (inB x.t 4 4096 && (inB x.s 1 4096 && (inB x.r 1 4096 && (inB x.d 1 4096 && inB x.z 1 1024)))))) = false := by rw [← HQZ.out]; exact HH.out
  rcases ways7 (inB x.o 0 3) (inB x.u 2 4096) (inB x.t 4 4096) (inB x.s 1 4096) (inB x.r 1 4096) (inB x.d 1 4096) (inB x.z 1 1024) with ⟨h0, hw⟩ | ⟨h0', _⟩
  · have HR : Hid (res = false) := by unfold Hid; rw [HOK.out, HQZ.out, h0]; rfl
    clear HOK HQZ h0 HM HL HSm HFit HIm MC
    rcases hw with h | ⟨h1, h⟩ | ⟨h1, h2, h⟩ | ⟨h1, h2, h3, h⟩ | ⟨h1, h2, h3, h4, h⟩ | ⟨h1, h2, h3, h4, h5, h⟩ | ⟨h1, h2, h3, h4, h5, h6, h⟩
    all_goals
      go_wp2_with (go_at_call 162; refine (within_any _ _ _ _).mono ?_; rintro e w' ⟨rfl, hw'⟩; obtain rfl := hw'.symm)
      go_ret
      exact ⟨ret_bool (by rw [HR.out]; rfl), HC.out.be⟩
  · rw [h0] at h0'; cases h0'
set_option maxRecDepth 100000 in
set_option maxHeartbeats 4000000 in
theorem quotas_sum {w : World} {a : Ad} {c : Cf} (hc : Cin w a c) (p : Nat) (hp : p < c.pn) (hp8 : p < 8) (hcol : okCol c p = true) (hh : (qOk (c.pf p) && zOk (c.pf p)) = true) (hs : ¬ sm c (p + 1) ≤ 1024) : Calls Tryz.prog 144 #[.agg #[.int .i64 c.F, .int .i64 c.C, .int .i64 c.W, .int .i64 c.S, .int .i64 c.V, .int .i64 c.T, .int .u64 c.k.l1, .int .u64 c.k.llc, .int .u64 c.k.mi, .int .u64 c.k.fa, .int .u64 c.k.st, .int .u64 c.k.di, .int .u64 c.sl, .int .u64 c.pd, .int .u64 c.ft, .slice a.ta c.tn a.tc, .slice a.pa c.pn a.pc], .int .i64 p] w (One (.bool (!okQ c p)) w) := by
  have HB0 := cb_new hc
  obtain ⟨b, off, hq, _⟩ := hc.p.at' hp
  have HQ : Hid (a.pa = some ⟨b, off, none⟩) := hq
  have hpl := hc.pl
  have hp1 : (p : Int) < (c.pn : Int) := by omega
  have MC : Hid (∀ w', Cin w' a c → Calls Tryz.prog 120 #[.agg #[.int .i64 c.F, .int .i64 c.C, .int .i64 c.W, .int .i64 c.S, .int .i64 c.V, .int .i64 c.T, .int .u64 c.k.l1, .int .u64 c.k.llc, .int .u64 c.k.mi, .int .u64 c.k.fa, .int .u64 c.k.st, .int .u64 c.k.di, .int .u64 c.sl, .int .u64 c.pd, .int .u64 c.ft, .slice a.ta c.tn a.tc, .slice a.pa c.pn a.pc]] w' (One (.bool (!mOk c)) w')) := fun w' h => machine_any h
  have HOK : Hid (okQ c p = (bif (qOk (c.pf p) && zOk (c.pf p)) then (bif decide (sm c (p + 1) ≤ 1024) then (bif mOk c then fit c (c.pf p) else true) else false) else false)) := by
    unfold Hid okQ
    rw [okQ_ways]
    cases h1 : qOk (c.pf p)
    · rfl
    · cases h2 : zOk (c.pf p)
      · rfl
      · simp only [sm, h2, cond_true, Bool.and_self]
  have HM : Hid (mOk c = true → c.MOk) := fun h => mOk_iff.1 h
  have hri : rise c.C (c.pf p).f (c.pf p).n = true ∧ 0 < (c.pf p).n := by unfold okCol at hcol; simp only [Bool.and_eq_true, decide_eq_true_eq] at hcol; exact ⟨hcol.1, hcol.2.1⟩
  have HL : Hid (((c.pf p).n : Int) ≤ c.C) := rise_len hri.1 hri.2
  have HSm : Hid (∀ k : Nat, k ≤ 9 → 0 ≤ sm c k ∧ sm c k ≤ 9216) := fun k hk => ⟨sm_nonneg c k, by have := sm_le c k; omega⟩
  have HFit : Hid (fit c (c.pf p) = (decide (im (c.pf p) ≤ c.F / c.C) && decide (im (c.pf p) + (c.pf p).u + (c.pf p).t + (c.pf p).s + (c.pf p).r + (c.pf p).d ≤ (c.pf p).n * (c.F / c.C)))) := rfl
  have HIm : Hid (0 ≤ (c.pf p).o → (c.pf p).o ≤ 3 → ((c.pf p).o = 0 ∧ im (c.pf p) = 1) ∨ ((c.pf p).o = 1 ∧ im (c.pf p) = 2) ∨ ((c.pf p).o = 2 ∧ im (c.pf p) = 4) ∨ ((c.pf p).o = 3 ∧ im (c.pf p) = 8)) := fun h0 h1 => im_ways h0 h1
  have HQZ : Hid ((qOk (c.pf p) && zOk (c.pf p)) = (inB (c.pf p).o 0 3 && (inB (c.pf p).u 2 4096 && (inB (c.pf p).t 4 4096 && (inB (c.pf p).s 1 4096 && (inB (c.pf p).r 1 4096 && (inB (c.pf p).d 1 4096 && inB (c.pf p).z 1 1024))))))) := qz_and _
  have HH : Hid ((qOk (c.pf p) && zOk (c.pf p)) = true) := hh
  have HSum : Hid (¬ sm c (p + 1) ≤ 1024) := hs
  clear hs
  clear hcol hri hh
  rw [hq]
  rw [hq] at MC
  go_enter Tryz.func144, Tryz.ntmps144
  go_upto_region 1 with fail
  obtain ⟨W, hW, HB⟩ : ∃ W, (w.alloc (.cells #[.int .i64 c.F, .int .i64 c.C, .int .i64 c.W, .int .i64 c.S, .int .i64 c.V, .int .i64 c.T, .int .u64 c.k.l1, .int .u64 c.k.llc, .int .u64 c.k.mi, .int .u64 c.k.fa, .int .u64 c.k.st, .int .u64 c.k.di, .int .u64 c.sl, .int .u64 c.pd, .int .u64 c.ft, .slice a.ta c.tn a.tc, .slice a.pa c.pn a.pc] 28)) = W ∧ Hid (Cb w W w.heap.size a c) := ⟨_, rfl, HB0⟩
  rw [HQ.out] at hW
  rw [hW]
  clear hW HB0 hc hq
  obtain ⟨b', off', hq', ⟨_, e0, e1, e2, e3, e4, e5, e6, e7⟩⟩ := HB.out.ci.p.at' hp
  rw [HQ.out] at hq'
  cases hq'
  obtain ⟨_, c0, c1, c2, c3, c4, c5, c6, c7, c8, c9, c10, c11, c12, c13, c14, c15, c16⟩ := HB.out.bx
  clear c0 c1 c2 c3 c4 c5 c6 c7 c8 c9 c10 c11 c12 c13 c14 c15
  rw [HQ.out] at c16
  generalize okQ c p = res at *
  generalize a.ca p = q at *
  generalize a.cc p = m at *
  generalize hx : c.pf p = x at *
  clear hx
  go_upto_region 2 with fail
  obtain ⟨W1, bb, hW1, hbb, HC⟩ : ∃ W1 bb, (W.alloc (.cells #[.slice q x.n m, .int .i64 x.o, .int .i64 x.u, .int .i64 x.t, .int .i64 x.s, .int .i64 x.r, .int .i64 x.d, .int .i64 x.z] 52)) = W1 ∧ W.heap.size = bb ∧ Hid (Cq w W1 w.heap.size bb a c q m x) := ⟨_, _, rfl, rfl, HB.out.cq q m x⟩
  rw [hW1, hbb]
  clear hW1 hbb HB e0 e1 e2 e3 e4 e5 e6 e7 c16
  obtain ⟨_, e0, e1, e2, e3, e4, e5, e6, e7⟩ := HC.out.px
  have h0 : (inB x.o 0 3 && (inB x.u 2 4096 && (inB x.t 4 4096 && (inB x.s 1 4096 && (inB x.r 1 4096 && (inB x.d 1 4096 && inB x.z 1 1024)))))) = true := by rw [← HQZ.out]; exact HH.out
  obtain ⟨h1, h2, h3, h4, h5, h6, h7⟩ : inB x.o 0 3 = true ∧ inB x.u 2 4096 = true ∧ inB x.t 4 4096 = true ∧ inB x.s 1 4096 = true ∧ inB x.r 1 4096 = true ∧ inB x.d 1 4096 = true ∧ inB x.z 1 1024 = true := by simpa only [Bool.and_eq_true] using h0
  rw [HQZ.out, h0] at HOK
  have o01 := inB_iff.1 h1
  have u01 := inB_iff.1 h2
  have t01 := inB_iff.1 h3
  have s01 := inB_iff.1 h4
  have r01 := inB_iff.1 h5
  have d01 := inB_iff.1 h6
  clear HQZ h0
  go_wp2_with (go_at_call 162; refine (within_any _ _ _ _).mono ?_; rintro e w' ⟨rfl, hw'⟩; obtain rfl := hw'.symm)
  clear h1 h2 h3 h4 h5 h6 h7 e0 e1 e2 e3 e4 e5 e6 e7
  go_loopw [6, 7] (fun s i wr => ∃ k : Nat, k ≤ p + 1 ∧ i = .int .i64 k ∧ s = .int .i64 (sm c k) ∧ wr = W1) (fun _ i _ => p + 1 - (intOf i).toNat)
  case atStart => exact ⟨0, by omega, rfl, rfl, rfl⟩
  case round =>
    obtain ⟨k, hk, rfl, rfl, rfl⟩ := hrel
    by_cases hlt : k ≤ p
    · obtain ⟨b', off', hq', ⟨_, e0, e1, e2, e3, e4, e5, e6, e7⟩⟩ := HC.out.ci.p.at' (show k < c.pn by omega)
      rw [HQ.out] at hq'
      cases hq'
      obtain ⟨_, c0, c1, c2, c3, c4, c5, c6, c7, c8, c9, c10, c11, c12, c13, c14, c15, c16⟩ := HC.out.bx
      clear c0 c1 c2 c3 c4 c5 c6 c7 c8 c9 c10 c11 c12 c13 c14 c15 e0 e1 e2 e3 e4 e5 e6
      rw [HQ.out] at c16
      obtain ⟨y0, y1⟩ := HSm.out k (by omega)
      have HS1 : Hid (sm c (k + 1) = sm c k + (bif inB (c.pf k).z 1 1024 then (c.pf k).z else 0)) := rfl
      have hkp : (k : Int) ≤ (p : Int) := by omega
      have hkn : (k : Int) < (c.pn : Int) := by omega
      have hk0 : (0 : Int) ≤ (k : Int) := by omega
      have HZ : Hid (inB (c.pf k).z 1 1024 = true → 1 ≤ (c.pf k).z ∧ (c.pf k).z ≤ 1024) := fun h => inB_iff.1 h
      obtain ⟨S', hS'⟩ : ∃ S', sm c (k + 1) = S' := ⟨_, rfl⟩
      rw [hS'] at HS1
      have HSn : Hid (sm c (k + 1) = S') := hS'
      clear hS' HOK HM HL HSm HFit HIm MC
      generalize sm c k = S at *
      generalize (c.pf k).z = z at *
      cases hz : inB z 1 1024
      · rw [hz] at HS1
        have HS2 : Hid (S' = S) := by unfold Hid; rw [HS1.out]; simp
        clear HS1
        go_wp2_with (go_at_call 162; refine (within_any _ _ _ _).mono ?_; rintro e w' ⟨rfl, hw'⟩; obtain rfl := hw'.symm)
        go_roundw
        case rel => exact ⟨k + 1, by omega, by go_num, by rw [HSn.out, HS2.out], by first | rfl | trivial⟩
        case measure => simp [intOf]; omega
      · rw [hz] at HS1
        have HS2 : Hid (S' = S + z) := HS1.out
        obtain ⟨z0, z1⟩ := HZ.out hz
        clear HS1 HZ
        go_wp2_with (go_at_call 162; refine (within_any _ _ _ _).mono ?_; rintro e w' ⟨rfl, hw'⟩; obtain rfl := hw'.symm)
        go_roundw
        case rel => exact ⟨k + 1, by omega, by go_num, by rw [HSn.out, HS2.out], by first | rfl | trivial⟩
        case measure => simp [intOf]; omega
    · obtain rfl : k = p + 1 := by omega
      have hlt' : ¬ (((p + 1 : Nat) : Int) ≤ (p : Int)) := by omega
      generalize sm c (p + 1) = S at *
      have hS : ¬ S ≤ 1024 := by have := HSum.out; omega
      have hd : decide (S ≤ 1024) = false := by simp [hS]
      have hS2 : (1024 : Int) < S := by omega
      rw [hd] at HOK
      go_wp2
      go_ret
      exact ⟨ret_bool (by rw [HOK.out]; rfl), HC.out.be⟩
end Go.Proofs.YtifchflbhdnfaaaGreat
