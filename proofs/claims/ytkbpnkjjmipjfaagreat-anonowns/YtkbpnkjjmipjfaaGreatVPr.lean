/- What plan's allPartsWrong gives back: what is wrong with each of the first partitions, in new memory; no condition but those named. -/
import Derived.Test.YtkbpnkjjmipjfaaGreatVPq
import Derived.Deep.CutRange
namespace Go.Proofs.YtkbpnkjjmipjfaaGreat
open Go.ChangeShapes Go.WideShapes Go.ChangeAt Go.RowKit
set_option linter.unusedVariables false

structure Al (w0 w : World) (g b e : Nat) (a : Ad) (c : Cf) (q : Option Addr) (m : Nat) (x : Pa) (L : List Value) : Prop where
  be : Below w0.heap.size w0 w
  lo : w0.heap.size ≤ e
  ge : g < e
  eb : e < b
  bx : Sev w g a c
  px : Ebx w b q m x
  ci : Cin w a c
  er : Blk w e 33 L
theorem Al.below {w0 w w' : World} {g b e : Nat} {a : Ad} {c : Cf} {q : Option Addr} {m : Nat} {x : Pa} {L : List Value} (h : Al w0 w g b e a c q m x L) (k : Below w.heap.size w w') : Al w0 w' g b e a c q m x L :=
  ⟨h.be.trans (k.mono h.be.size), h.lo, h.ge, h.eb, h.bx.below k, h.px.below k, h.ci.below k, h.er.below k⟩
structure Ak (w0 w : World) (g e : Nat) (a : Ad) (c : Cf) (L : List Value) : Prop where
  be : Below w0.heap.size w0 w
  lo : w0.heap.size ≤ e
  ge : g < e
  bx : Sev w g a c
  ci0 : Cin w0 a c
  er : Blk w e 33 L
theorem Ak.ci {w0 w : World} {g e : Nat} {a : Ad} {c : Cf} {L : List Value} (h : Ak w0 w g e a c L) : Cin w a c := h.ci0.below h.be
theorem Sev.upto {w w' : World} {g B : Nat} {a : Ad} {c : Cf} (h : Sev w g a c) (k : Below B w w') (hg : g < B) : Sev w' g a c :=
  ⟨Nat.lt_of_lt_of_le h.lt k.size, (k.cell hg).trans h.c0, (k.cell hg).trans h.c1, (k.cell hg).trans h.c2, (k.cell hg).trans h.c3, (k.cell hg).trans h.c4, (k.cell hg).trans h.c5, (k.cell hg).trans h.c6, (k.cell hg).trans h.c7, (k.cell hg).trans h.c8, (k.cell hg).trans h.c9, (k.cell hg).trans h.c10, (k.cell hg).trans h.c11, (k.cell hg).trans h.c12, (k.cell hg).trans h.c13, (k.cell hg).trans h.c14, (k.cell hg).trans h.c15, (k.cell hg).trans h.c16⟩
theorem Ak.set {w0 w : World} {g e : Nat} {a : Ad} {c : Cf} {L : List Value} (h : Ak w0 w g e a c L) (i : Nat) (v : Value) : Ak w0 (w.setCell ⟨e, i, none⟩ v) g e a c (L.set i v) :=
  ⟨h.be.trans (below_setCell h.lo h.be.size i v), h.lo, h.ge, h.bx.upto (below_setCell (Nat.le_refl _) (Nat.le_of_lt h.er.lt) i v) h.ge, h.ci0, h.er.set i v⟩
theorem Al.ak {w0 w : World} {g b e : Nat} {a : Ad} {c : Cf} {q : Option Addr} {m : Nat} {x : Pa} {L : List Value} (h : Al w0 w g b e a c q m x L) (h0 : Cin w0 a c) : Ak w0 w g e a c L := ⟨h.be, h.lo, h.ge, h.bx, h0, h.er⟩
theorem Al.sx {w0 W : World} {g b e : Nat} {a : Ad} {c : Cf} {q : Option Addr} {m : Nat} {x : Pa} {L : List Value} {pa : Option Addr} (h : Al w0 W g b e a c q m x L) (hq : a.pa = pa) : (W.cell? ⟨g, 0, none⟩ = some (.int .i64 c.F) ∧ W.cell? ⟨g, 1, none⟩ = some (.int .i64 c.C) ∧ W.cell? ⟨g, 2, none⟩ = some (.int .i64 c.W) ∧ W.cell? ⟨g, 3, none⟩ = some (.int .i64 c.S) ∧ W.cell? ⟨g, 4, none⟩ = some (.int .i64 c.V) ∧ W.cell? ⟨g, 5, none⟩ = some (.int .i64 c.T) ∧ W.cell? ⟨g, 6, none⟩ = some (.int .u64 c.k.l1) ∧ W.cell? ⟨g, 7, none⟩ = some (.int .u64 c.k.llc) ∧ W.cell? ⟨g, 8, none⟩ = some (.int .u64 c.k.mi) ∧ W.cell? ⟨g, 9, none⟩ = some (.int .u64 c.k.fa) ∧ W.cell? ⟨g, 10, none⟩ = some (.int .u64 c.k.st) ∧ W.cell? ⟨g, 11, none⟩ = some (.int .u64 c.k.di) ∧ W.cell? ⟨g, 12, none⟩ = some (.int .u64 c.sl) ∧ W.cell? ⟨g, 13, none⟩ = some (.int .u64 c.pd) ∧ W.cell? ⟨g, 14, none⟩ = some (.int .u64 c.ft) ∧ W.cell? ⟨g, 15, none⟩ = some (.slice a.ta c.tn a.tc) ∧ W.cell? ⟨g, 16, none⟩ = some (.slice pa c.pn a.pc)) ∧ (W.cell? ⟨b, 0, none⟩ = some (.slice q x.n m) ∧ W.cell? ⟨b, 1, none⟩ = some (.int .i64 x.o) ∧ W.cell? ⟨b, 2, none⟩ = some (.int .i64 x.u) ∧ W.cell? ⟨b, 3, none⟩ = some (.int .i64 x.t) ∧ W.cell? ⟨b, 4, none⟩ = some (.int .i64 x.s) ∧ W.cell? ⟨b, 5, none⟩ = some (.int .i64 x.r) ∧ W.cell? ⟨b, 6, none⟩ = some (.int .i64 x.d) ∧ W.cell? ⟨b, 7, none⟩ = some (.int .i64 x.z)) := by
  subst hq
  exact ⟨⟨h.bx.c0, h.bx.c1, h.bx.c2, h.bx.c3, h.bx.c4, h.bx.c5, h.bx.c6, h.bx.c7, h.bx.c8, h.bx.c9, h.bx.c10, h.bx.c11, h.bx.c12, h.bx.c13, h.bx.c14, h.bx.c15, h.bx.c16⟩, h.px.sx⟩
theorem Al.set {w0 w : World} {g b e : Nat} {a : Ad} {c : Cf} {q : Option Addr} {m : Nat} {x : Pa} {L : List Value} (h : Al w0 w g b e a c q m x L) (h0 : Cin w0 a c) (i : Nat) (v : Value) : Al w0 (w.setCell ⟨e, i, none⟩ v) g b e a c q m x (L.set i v) := by
  have k := (h.ak h0).set i v
  exact ⟨k.be, k.lo, k.ge, h.eb, k.bx, h.px.other (heap_set_ne (by have := h.eb; omega) i v), k.ci, k.er⟩
def Apw (c : Cf) (w : World) (x : Ending) (w' : World) : Prop := ∃ e, x = .returned (.slice (some ⟨e, 0, none⟩) (min c.pn 8) (min c.pn 8)) ∧ w.heap.size ≤ e ∧ Blk w' e 33 (pbL c (min c.pn 8) (min c.pn 8)) ∧ Below w.heap.size w w'
set_option maxRecDepth 20000 in
set_option maxHeartbeats 1000000 in
theorem allPartsWrong_nil {w : World} {a : Ad} {c : Cf} (hc : Cin w a c) (hp0 : c.pn = 0) (mo : Bool) : Calls Tryz.prog 168 #[.agg #[.int .i64 c.F, .int .i64 c.C, .int .i64 c.W, .int .i64 c.S, .int .i64 c.V, .int .i64 c.T, .int .u64 c.k.l1, .int .u64 c.k.llc, .int .u64 c.k.mi, .int .u64 c.k.fa, .int .u64 c.k.st, .int .u64 c.k.di, .int .u64 c.sl, .int .u64 c.pd, .int .u64 c.ft, .slice a.ta c.tn a.tc, .slice a.pa c.pn a.pc], .bool mo] w (Apw c w) := by
  have HF : Hid (∀ e w', w.heap.size ≤ e → Blk w' e 33 [] → Below w.heap.size w w' → Apw c w (.returned (.slice (some ⟨e, 0, none⟩) 0 0)) w') := fun e w' h1 h2 h3 => by
    have e0 : min c.pn 8 = 0 := by omega
    unfold Apw
    rw [e0]
    exact ⟨e, rfl, h1, h2, h3⟩
  obtain ⟨mk, m6, HMK⟩ : ∃ mk : World → World, (∀ w, (Instr.makeSlice 259 (.int .i64 0) (.int .i64 0)).run Tryz.prog w = .ok (.slice (some ⟨w.heap.size, 0, none⟩) 0 0) (mk w)) ∧ Hid (∀ w, mk w = w.alloc (.cells #[] 33)) := ⟨_, make_errs 0 (by omega), fun w => rfl⟩
  rw [hp0]
  have HG : Hid (∀ W, Below w.heap.size w W → Below w.heap.size w (mk W) ∧ Blk (mk W) W.heap.size 33 []) := fun W h => by
    rw [HMK.out]
    exact ⟨h.alloc h.size _, blk_new _ [] _⟩
  clear hc hp0 HMK
  go_enter Tryz.func168, Tryz.ntmps168
  go_upto_region 1 with fail
  obtain ⟨W, hW, HW⟩ : ∃ W, (w.alloc (.cells #[.int .i64 c.F, .int .i64 c.C, .int .i64 c.W, .int .i64 c.S, .int .i64 c.V, .int .i64 c.T, .int .u64 c.k.l1, .int .u64 c.k.llc, .int .u64 c.k.mi, .int .u64 c.k.fa, .int .u64 c.k.st, .int .u64 c.k.di, .int .u64 c.sl, .int .u64 c.pd, .int .u64 c.ft, .slice a.ta c.tn a.tc, .slice a.pa 0 a.pc] 28)) = W ∧ Hid (Below w.heap.size w W ∧ W.cell? ⟨w.heap.size, 16, none⟩ = some (.slice a.pa 0 a.pc)) := ⟨_, rfl, below_new _ _, cell_new w _ 28 16⟩
  rw [hW]
  clear hW
  have c16 := HW.out.2
  have hmin : min (0 : Int) 8 = 0 := by decide
  go_wp2
  obtain ⟨g1, g2⟩ := HG.out W HW.out.1
  have H1 : Hid (Below w.heap.size w (mk W)) := g1
  have H2 : Hid (Blk (mk W) W.heap.size 33 []) := g2
  have H3 : Hid (w.heap.size ≤ W.heap.size) := HW.out.1.size
  clear g1 g2 HG HW c16 m6
  generalize mk W = W1 at *
  generalize W.heap.size = e at *
  go_loopw [22] (fun i wr => i = .int .i64 0 ∧ wr = W1) (fun _ _ => 0)
  case atStart => exact ⟨rfl, rfl⟩
  case round =>
    obtain ⟨rfl, rfl⟩ := hrel
    go_wp2
    go_ret
    exact HF.out e _ H3.out H2.out H1.out
set_option maxRecDepth 20000 in
set_option maxHeartbeats 2000000 in
theorem allPartsWrong_some {w : World} {a : Ad} {c : Cf} (hc : Cin w a c) (hp0 : 0 < c.pn) : Calls Tryz.prog 168 #[.agg #[.int .i64 c.F, .int .i64 c.C, .int .i64 c.W, .int .i64 c.S, .int .i64 c.V, .int .i64 c.T, .int .u64 c.k.l1, .int .u64 c.k.llc, .int .u64 c.k.mi, .int .u64 c.k.fa, .int .u64 c.k.st, .int .u64 c.k.di, .int .u64 c.sl, .int .u64 c.pd, .int .u64 c.ft, .slice a.ta c.tn a.tc, .slice a.pa c.pn a.pc], .bool (mOk c)] w (Apw c w) := by
  have HB0 := cb_new hc
  obtain ⟨b, off, hq, _⟩ := hc.p.at' hp0
  have HQ : Hid (a.pa = some ⟨b, off, none⟩) := hq
  have hpl := hc.pl
  have hple := hc.ple
  obtain ⟨n, hn⟩ : ∃ n, min c.pn 8 = n := ⟨_, rfl⟩
  have hn8 : n ≤ 8 := by omega
  have hnp : n ≤ c.pn := by omega
  have hnc : n ≤ a.pc := by omega
  have HF : Hid (∀ e w', w.heap.size ≤ e → Blk w' e 33 (pbL c n n) → Below w.heap.size w w' → Apw c w (.returned (.slice (some ⟨e, 0, none⟩) n n)) w') := fun e w' h1 h2 h3 => by
    subst hn
    exact ⟨e, rfl, h1, h2, h3⟩
  have HPW : Hid (∀ w' p, Cin w' a c → p < n → Calls Tryz.prog 213 #[.agg #[.int .i64 c.F, .int .i64 c.C, .int .i64 c.W, .int .i64 c.S, .int .i64 c.V, .int .i64 c.T, .int .u64 c.k.l1, .int .u64 c.k.llc, .int .u64 c.k.mi, .int .u64 c.k.fa, .int .u64 c.k.st, .int .u64 c.k.di, .int .u64 c.sl, .int .u64 c.pd, .int .u64 c.ft, .slice a.ta c.tn a.tc, .slice a.pa c.pn a.pc], .agg #[.slice (a.ca p) (c.pf p).n (a.cc p), .int .i64 (c.pf p).o, .int .i64 (c.pf p).u, .int .i64 (c.pf p).t, .int .i64 (c.pf p).s, .int .i64 (c.pf p).r, .int .i64 (c.pf p).d, .int .i64 (c.pf p).z], .slice a.pa p a.pc, .int .i64 (sm c p), .bool (mOk c)] w' (One (.int .i64 (pBad c p)) w')) :=
    fun w' p h hp => partWrong_any h (by omega) (by omega) ⟨by have := sm_le c p; omega, sm_nonneg c p⟩
  have hmin : min (c.pn : Int) 8 = (n : Int) := by omega
  obtain ⟨mk, m6, HMK⟩ : ∃ mk : World → World, (∀ w, (Instr.makeSlice 259 (.int .i64 n) (.int .i64 n)).run Tryz.prog w = .ok (.slice (some ⟨w.heap.size, 0, none⟩) n n) (mk w)) ∧ Hid (∀ w, mk w = w.alloc (.cells (List.replicate n (.int .i64 0)).toArray 33)) := ⟨_, make_errs n (by omega), fun w => rfl⟩
  have HC0 : Hid (Cin w a c) := hc
  clear hn hc
  generalize mOk c = mo at *
  rw [hq] at HPW
  rw [hq]
  clear hq
  go_enter Tryz.func168, Tryz.ntmps168
  go_upto_region 1 with fail
  obtain ⟨W, hW, HB⟩ : ∃ W, (w.alloc (.cells #[.int .i64 c.F, .int .i64 c.C, .int .i64 c.W, .int .i64 c.S, .int .i64 c.V, .int .i64 c.T, .int .u64 c.k.l1, .int .u64 c.k.llc, .int .u64 c.k.mi, .int .u64 c.k.fa, .int .u64 c.k.st, .int .u64 c.k.di, .int .u64 c.sl, .int .u64 c.pd, .int .u64 c.ft, .slice a.ta c.tn a.tc, .slice a.pa c.pn a.pc] 28)) = W ∧ Hid (Cb w W w.heap.size a c) := ⟨_, rfl, HB0⟩
  rw [HQ.out] at hW
  rw [hW]
  clear hW HB0
  obtain ⟨_, c0, c1, c2, c3, c4, c5, c6, c7, c8, c9, c10, c11, c12, c13, c14, c15, c16⟩ := HB.out.bx
  clear c0 c1 c2 c3 c4 c5 c6 c7 c8 c9 c10 c11 c12 c13 c14 c15
  rw [HQ.out] at c16
  go_upto_region 2 with fail
  clear hmin
  go_wp2
  obtain ⟨W1, hW1, HK⟩ : ∃ W1, mk W = W1 ∧ Hid (Ak w W1 w.heap.size W.heap.size a c (pbL c 0 n)) :=
    ⟨_, rfl, by
      have h := HB.out
      rw [HMK.out]
      exact ⟨h.be.alloc h.be.size _, h.be.size, h.bx.lt, h.bx.below (below_new _ _), HC0.out, by rw [pbL_zero]; exact blk_new _ _ _⟩⟩
  rw [hW1]
  have HE : Hid (w.heap.size < W.heap.size) := HB.out.bx.lt
  clear hW1 c16 HB m6 HMK
  generalize W.heap.size = e at *
  go_loopw [7, 8, 22] (fun s p' i wr => ∃ (k : Nat) (vv : Value), vv = p' ∧ k ≤ n ∧ i = .int .i64 k ∧ s = .int .i64 (sm c k) ∧ Ak w wr w.heap.size e a c (pbL c k n)) (fun _ _ i _ => n - (intOf i).toNat)
  case atStart => exact ⟨0, _, rfl, by omega, rfl, rfl, HK.out⟩
  case round =>
    obtain ⟨k, vv, hvv, hk, rfl, rfl, hK⟩ := hrel
    subst hvv
    clear HK
    have HK : Hid (Ak w wr w.heap.size e a c (pbL c k n)) := hK
    clear hK
    by_cases hlt : k < n
    · obtain ⟨b', off', hq, HEig⟩ := HK.out.ci.p.at' (show k < c.pn by omega)
      rw [HQ.out] at hq
      cases hq
      have HS1 : Hid (sm c (k + 1) = sm c k + (bif zOk (c.pf k) then (c.pf k).z else 0)) := rfl
      have HPWk : Hid (∀ w', Cin w' a c → Calls Tryz.prog 213 #[.agg #[.int .i64 c.F, .int .i64 c.C, .int .i64 c.W, .int .i64 c.S, .int .i64 c.V, .int .i64 c.T, .int .u64 c.k.l1, .int .u64 c.k.llc, .int .u64 c.k.mi, .int .u64 c.k.fa, .int .u64 c.k.st, .int .u64 c.k.di, .int .u64 c.sl, .int .u64 c.pd, .int .u64 c.ft, .slice a.ta c.tn a.tc, .slice (some ⟨b, off, none⟩) c.pn a.pc], .agg #[.slice (a.ca k) (c.pf k).n (a.cc k), .int .i64 (c.pf k).o, .int .i64 (c.pf k).u, .int .i64 (c.pf k).t, .int .i64 (c.pf k).s, .int .i64 (c.pf k).r, .int .i64 (c.pf k).d, .int .i64 (c.pf k).z], .slice (some ⟨b, off, none⟩) k a.pc, .int .i64 (sm c k), .bool mo] w' (One (.int .i64 (pBad c k)) w')) := fun w' h => HPW.out w' k h hlt
      have HSS : Hid (∀ w', Calls Tryz.prog 214 #[.agg #[.slice (a.ca k) (c.pf k).n (a.cc k), .int .i64 (c.pf k).o, .int .i64 (c.pf k).u, .int .i64 (c.pf k).t, .int .i64 (c.pf k).s, .int .i64 (c.pf k).r, .int .i64 (c.pf k).d, .int .i64 (c.pf k).z]] w' (One (.bool (zOk (c.pf k))) w')) := fun w' => slotsMayBe_any
      have HZ : Hid (zOk (c.pf k) = true → 1 ≤ (c.pf k).z ∧ (c.pf k).z ≤ 1024) := fun h => inB_iff.1 h
      have HZ0 : Hid (0 ≤ sm c k ∧ sm c k ≤ 8192) := ⟨sm_nonneg c k, by have := sm_le c k; omega⟩
      have HLs : Hid ((pbL c k n).set k (.int .i64 (pBad c k)) = pbL c (k + 1) n) := pbL_set hlt
      have HLz : Hid ((pbL c k n)[k]? = some (.int .i64 0)) := by unfold Hid; rw [pbL_get hlt]; simp
      obtain ⟨L', hL'⟩ : ∃ L', pbL c (k + 1) n = L' := ⟨_, rfl⟩
      obtain ⟨S', hS'⟩ : ∃ S', sm c (k + 1) = S' := ⟨_, rfl⟩
      rw [hL'] at HLs
      rw [hS'] at HS1
      have HLn : Hid (pbL c (k + 1) n = L') := hL'
      have HSn : Hid (sm c (k + 1) = S') := hS'
      clear hL' hS'
      generalize pbL c k n = L at *
      generalize sm c k = S at *
      generalize pBad c k = res at *
      generalize c.pf k = x at *
      generalize a.ca k = q at *
      generalize a.cc k = m at *
      generalize hz : zOk x = zb at *
      clear hz HPW HF
      obtain ⟨z0, z1⟩ := HZ0.out
      have hkn : (k : Int) < (n : Int) := by omega
      have hk0 : (0 : Int) ≤ (k : Int) := by omega
      have hkc : k ≤ a.pc := by omega
      obtain ⟨_, e0, e1, e2, e3, e4, e5, e6, e7⟩ := HEig
      go_upto_region 7 with fail
      obtain ⟨W2, bb, hW2, hbb, HA2⟩ : ∃ W2 bb, wr.alloc (.cells #[.slice q x.n m, .int .i64 x.o, .int .i64 x.u, .int .i64 x.t, .int .i64 x.s, .int .i64 x.r, .int .i64 x.d, .int .i64 x.z] 109) = W2 ∧ wr.heap.size = bb ∧ Hid (Al w W2 w.heap.size bb e a c q m x L) :=
        ⟨_, _, rfl, rfl, by
          have h := HK.out
          exact ⟨h.be.alloc h.be.size _, h.lo, h.ge, h.er.lt, h.bx.below (below_new _ _), ebx_new _ _ _ _, h.ci.below (below_new _ _), h.er.below (below_new _ _)⟩⟩
      rw [hW2, hbb]
      clear hW2 hbb HK e0 e1 e2 e3 e4 e5 e6 e7
      go_cut [7] from 27 to 44 (fun t7 wx => t7 = .int .i64 S ∧ Al w wx w.heap.size bb e a c q m x L')
      case first =>
        go_region_held3 (fun W => (W.cell? ⟨w.heap.size, 0, none⟩ = some (.int .i64 c.F) ∧ W.cell? ⟨w.heap.size, 1, none⟩ = some (.int .i64 c.C) ∧ W.cell? ⟨w.heap.size, 2, none⟩ = some (.int .i64 c.W) ∧ W.cell? ⟨w.heap.size, 3, none⟩ = some (.int .i64 c.S) ∧ W.cell? ⟨w.heap.size, 4, none⟩ = some (.int .i64 c.V) ∧ W.cell? ⟨w.heap.size, 5, none⟩ = some (.int .i64 c.T) ∧ W.cell? ⟨w.heap.size, 6, none⟩ = some (.int .u64 c.k.l1) ∧ W.cell? ⟨w.heap.size, 7, none⟩ = some (.int .u64 c.k.llc) ∧ W.cell? ⟨w.heap.size, 8, none⟩ = some (.int .u64 c.k.mi) ∧ W.cell? ⟨w.heap.size, 9, none⟩ = some (.int .u64 c.k.fa) ∧ W.cell? ⟨w.heap.size, 10, none⟩ = some (.int .u64 c.k.st) ∧ W.cell? ⟨w.heap.size, 11, none⟩ = some (.int .u64 c.k.di) ∧ W.cell? ⟨w.heap.size, 12, none⟩ = some (.int .u64 c.sl) ∧ W.cell? ⟨w.heap.size, 13, none⟩ = some (.int .u64 c.pd) ∧ W.cell? ⟨w.heap.size, 14, none⟩ = some (.int .u64 c.ft) ∧ W.cell? ⟨w.heap.size, 15, none⟩ = some (.slice a.ta c.tn a.tc) ∧ W.cell? ⟨w.heap.size, 16, none⟩ = some (.slice (some ⟨b, off, none⟩) c.pn a.pc)) ∧ (W.cell? ⟨bb, 0, none⟩ = some (.slice q x.n m) ∧ W.cell? ⟨bb, 1, none⟩ = some (.int .i64 x.o) ∧ W.cell? ⟨bb, 2, none⟩ = some (.int .i64 x.u) ∧ W.cell? ⟨bb, 3, none⟩ = some (.int .i64 x.t) ∧ W.cell? ⟨bb, 4, none⟩ = some (.int .i64 x.s) ∧ W.cell? ⟨bb, 5, none⟩ = some (.int .i64 x.r) ∧ W.cell? ⟨bb, 6, none⟩ = some (.int .i64 x.d) ∧ W.cell? ⟨bb, 7, none⟩ = some (.int .i64 x.z)))
          (first | exact B4.out.sx HQ.out | exact ((B4.out.set HC0.out k _).sx HQ.out) | exact ((HA2.out.below (below_drew _ _)).sx HQ.out))
          (first
            | (go_at_call 213; refine (HPWk.out _ (HA2.out.below (below_drew _ _)).ci).mono ?_; rintro e w3 ⟨rfl, k3⟩; have B4 : Hid (Al w w3 w.heap.size bb e a c q m x L) := (HA2.out.below (below_drew _ _)).below k3; clear k3; have z5 : w3.cell? ⟨e, k, none⟩ = some (.int .i64 0) := (B4.out.er.cell k).trans HLz.out; have z6 : w3.frozen? ⟨e, k, none⟩ = false := B4.out.er.frozen k))
        all_goals
          go_wp2_with fail
          go_meet
          case rel => exact ⟨rfl, by rw [← HLs.out]; exact B4.out.set HC0.out k _⟩
      case rest =>
      obtain ⟨rfl, hA⟩ := hcut
      have HA3 : Hid (Al w wc w.heap.size bb e a c q m x L') := hA
      clear hA HA2 HPWk HLs HLz
      obtain ⟨_, e0, e1, e2, e3, e4, e5, e6, e7⟩ := HA3.out.px
      go_wp2_with fail
      refine (HSS.out _).mono ?_
      rintro e' w4 ⟨rfl, k4⟩
      have HA4 : Hid (Al w w4 w.heap.size bb e a c q m x L') := HA3.out.below k4
      clear HA3 k4 e0 e1 e2 e3 e4 e5 e6 e7 HSS
      obtain ⟨_, e0, e1, e2, e3, e4, e5, e6, e7⟩ := HA4.out.px
      cases zb
      · go_wp2
        go_roundw
        case rel => exact ⟨k + 1, _, rfl, by omega, by go_num, by rw [HSn.out, HS1.out]; simp, by rw [HLn.out]; exact HA4.out.ak HC0.out⟩
        case measure => simp [intOf]; omega
      · obtain ⟨y0, y1⟩ := HZ.out (by first | rfl | trivial)
        go_wp2
        go_roundw
        case rel => exact ⟨k + 1, _, rfl, by omega, by go_num, by rw [HSn.out, HS1.out]; rfl, by rw [HLn.out]; exact HA4.out.ak HC0.out⟩
        case measure => simp [intOf]; omega
    · obtain rfl : k = n := by omega
      go_wp2
      go_ret
      exact HF.out e wr HK.out.lo HK.out.er HK.out.be
theorem allPartsWrong_any {w : World} {a : Ad} {c : Cf} (hc : Cin w a c) : Calls Tryz.prog 168 #[.agg #[.int .i64 c.F, .int .i64 c.C, .int .i64 c.W, .int .i64 c.S, .int .i64 c.V, .int .i64 c.T, .int .u64 c.k.l1, .int .u64 c.k.llc, .int .u64 c.k.mi, .int .u64 c.k.fa, .int .u64 c.k.st, .int .u64 c.k.di, .int .u64 c.sl, .int .u64 c.pd, .int .u64 c.ft, .slice a.ta c.tn a.tc, .slice a.pa c.pn a.pc], .bool (mOk c)] w (Apw c w) := by
  by_cases h : c.pn = 0
  · exact allPartsWrong_nil hc h _
  · exact allPartsWrong_some hc (by omega)
end Go.Proofs.YtkbpnkjjmipjfaaGreat
namespace Go.Proofs.YtkbpnkjjmipjfaaGreat
open Go.ChangeShapes Go.WideShapes Go.ChangeAt Go.RowKit
set_option linter.unusedVariables false

theorem turnsWrong_any {w : World} {a : Ad} {c : Cf} (hc : Cin w a c) : Calls Tryz.prog 170 #[.agg #[.int .i64 c.F, .int .i64 c.C, .int .i64 c.W, .int .i64 c.S, .int .i64 c.V, .int .i64 c.T, .int .u64 c.k.l1, .int .u64 c.k.llc, .int .u64 c.k.mi, .int .u64 c.k.fa, .int .u64 c.k.st, .int .u64 c.k.di, .int .u64 c.sl, .int .u64 c.pd, .int .u64 c.ft, .slice a.ta c.tn a.tc, .slice a.pa c.pn a.pc]] w (One (.int .i64 (un (tOk c) 112)) w) := by
  have HB0 := cb_new hc
  have htl := hc.tl
  have HT : Hid (tOk c = (inB c.tn 1 64 && allT c c.tn)) := rfl
  have IP : Hid (∀ p w', Calls Tryz.prog 129 #[.agg #[.int .i64 c.F, .int .i64 c.C, .int .i64 c.W, .int .i64 c.S, .int .i64 c.V, .int .i64 c.T, .int .u64 c.k.l1, .int .u64 c.k.llc, .int .u64 c.k.mi, .int .u64 c.k.fa, .int .u64 c.k.st, .int .u64 c.k.di, .int .u64 c.sl, .int .u64 c.pd, .int .u64 c.ft, .slice a.ta c.tn a.tc, .slice a.pa c.pn a.pc], .int .i64 p] w' (One (.bool (decide (0 ≤ p) && decide (p < (c.pn : Int)))) w')) := fun p w' => isPart_any p
  clear hc
  cases h1 : inB c.tn 1 64
  · have h0 : Hid (tOk c = false) := by unfold Hid; rw [HT.out, h1]; rfl
    go_enter Tryz.func170, Tryz.ntmps170
    go_wp2_with (go_at_call 210; refine (from_any _ _ _ _).mono ?_; rintro e w' ⟨rfl, rfl⟩)
    go_ret
    exact ⟨ret_int (by rw [h0.out]; rfl), HB0.be⟩
  have HT2 : Hid (tOk c = allT c c.tn) := by unfold Hid; rw [HT.out, h1]; rfl
  clear HT
  go_enter Tryz.func170, Tryz.ntmps170
  go_wp2_with (go_at_call 210; refine (from_any _ _ _ _).mono ?_; rintro e w' ⟨rfl, rfl⟩)
  obtain ⟨W, hW, HB⟩ : ∃ W, (w.alloc (.cells #[.int .i64 c.F, .int .i64 c.C, .int .i64 c.W, .int .i64 c.S, .int .i64 c.V, .int .i64 c.T, .int .u64 c.k.l1, .int .u64 c.k.llc, .int .u64 c.k.mi, .int .u64 c.k.fa, .int .u64 c.k.st, .int .u64 c.k.di, .int .u64 c.sl, .int .u64 c.pd, .int .u64 c.ft, .slice a.ta c.tn a.tc, .slice a.pa c.pn a.pc] 28)) = W ∧ Hid (Cb w W w.heap.size a c) := ⟨_, rfl, HB0⟩
  rw [hW]
  clear hW HB0
  go_loopw [13] (fun i wr => ∃ k : Nat, k ≤ c.tn ∧ i = .int .i64 k ∧ allT c k = true ∧ Cb w wr w.heap.size a c) (fun i _ => c.tn - (intOf i).toNat)
  case atStart => exact ⟨0, by omega, rfl, rfl, HB.out⟩
  case round =>
    clear HB
    obtain ⟨k, hk, rfl, hs, hB⟩ := hrel
    have HS : Hid (allT c k = true) := hs
    have HB : Hid (Cb w wr w.heap.size a c) := hB
    clear hs hB
    by_cases hlt : k < c.tn
    · obtain ⟨b, o, hq, d1⟩ := HB.out.ci.t.at' (Below.refl _ _) hlt
      have HN : Hid ((decide (0 ≤ c.tf k) && decide (c.tf k < (c.pn : Int))) = false → tOk c = false) := fun h => by
        rw [HT2.out]
        cases h2 : allT c c.tn
        · rfl
        · have := allT_iff.1 h2 k hlt
          simp [this.1, this.2] at h
      have HY : Hid ((decide (0 ≤ c.tf k) && decide (c.tf k < (c.pn : Int))) = true → allT c (k + 1) = true) := fun h => by
        simp only [allT, HS.out, h, Bool.and_self]
      have IPk : Hid (∀ w', Calls Tryz.prog 129 #[.agg #[.int .i64 c.F, .int .i64 c.C, .int .i64 c.W, .int .i64 c.S, .int .i64 c.V, .int .i64 c.T, .int .u64 c.k.l1, .int .u64 c.k.llc, .int .u64 c.k.mi, .int .u64 c.k.fa, .int .u64 c.k.st, .int .u64 c.k.di, .int .u64 c.sl, .int .u64 c.pd, .int .u64 c.ft, .slice a.ta c.tn a.tc, .slice a.pa c.pn a.pc], .int .i64 (c.tf k)] w' (One (.bool (decide (0 ≤ c.tf k) && decide (c.tf k < (c.pn : Int)))) w')) := IP.out (c.tf k)
      generalize hbv : (decide (0 ≤ c.tf k) && decide (c.tf k < (c.pn : Int))) = bv at *
      clear hbv IP
      generalize c.tf k = v at *
      obtain ⟨_, c0, c1, c2, c3, c4, c5, c6, c7, c8, c9, c10, c11, c12, c13, c14, c15, c16⟩ := HB.out.bx
      have HQ : Hid (a.ta = some ⟨b, o, none⟩) := hq
      go_wp2_with fail
      rw [← HQ.out]
      refine (IPk.out _).mono ?_
      rintro e w2 ⟨rfl, k2⟩
      have HB2 : Hid (Cb w w2 w.heap.size a c) := HB.out.below k2
      clear HB k2 IPk c0 c1 c2 c3 c4 c5 c6 c7 c8 c9 c10 c11 c12 c13 c14 c15 c16 hq
      cases bv
      · go_wp2
        go_ret
        exact ⟨ret_int (by rw [HN.out (by first | rfl | trivial)]; rfl), HB2.out.be⟩
      · go_wp2
        go_roundw
        case rel => exact ⟨k + 1, by omega, by go_num, HY.out (by first | rfl | trivial), HB2.out⟩
        case measure => simp [intOf]; omega
    · obtain rfl : k = c.tn := by omega
      go_wp2
      go_ret
      exact ⟨ret_int (by rw [HT2.out, HS.out]; rfl), HB.out.be⟩
theorem sv_range {c : Cf} (h : c.MOk) : (0 ≤ c.S * c.V ∧ c.S * c.V ≤ 65536) := by
  have := prod_le c.S c.V 4096 16 (by have := h.S1; omega) h.S2 (by have := h.V1; omega) h.V2
  omega
set_option maxRecDepth 20000 in
theorem padSuffices_ok {w : World} {a : Ad} {c : Cf} (hM : c.MOk) (hk : okC c.k = true) : Calls Tryz.prog 215 #[.agg #[.int .i64 c.F, .int .i64 c.C, .int .i64 c.W, .int .i64 c.S, .int .i64 c.V, .int .i64 c.T, .int .u64 c.k.l1, .int .u64 c.k.llc, .int .u64 c.k.mi, .int .u64 c.k.fa, .int .u64 c.k.st, .int .u64 c.k.di, .int .u64 c.sl, .int .u64 c.pd, .int .u64 c.ft, .slice a.ta c.tn a.tc, .slice a.pa c.pn a.pc]] w (One (.bool (decide (pdM c ≤ c.pd))) w) := by
  have HB0 : Below w.heap.size w (w.alloc (.cells #[.int .i64 c.F, .int .i64 c.C, .int .i64 c.W, .int .i64 c.S, .int .i64 c.V, .int .i64 c.T, .int .u64 c.k.l1, .int .u64 c.k.llc, .int .u64 c.k.mi, .int .u64 c.k.fa, .int .u64 c.k.st, .int .u64 c.k.di, .int .u64 c.sl, .int .u64 c.pd, .int .u64 c.ft, .slice a.ta c.tn a.tc, .slice a.pa c.pn a.pc] 28)) := below_new _ _
  have HS0 := sev_new w a c
  obtain ⟨r0, r1⟩ := sv_range hM
  have hT1 := hM.T1
  have hT2 := hM.T2
  have hL : okL (c.S * c.V) c.T = true := by
    generalize c.S * c.V = sv at *
    simp only [okL, Bool.and_eq_true, inB_iff]
    omega
  have SW : Hid (∀ w', Calls Tryz.prog 237 #[.agg #[.int .u64 c.k.l1, .int .u64 c.k.llc, .int .u64 c.k.mi, .int .u64 c.k.fa, .int .u64 c.k.st, .int .u64 c.k.di], .int .i64 (c.S * c.V), .int .i64 c.T] w' (Two (pdM c) 0 w')) := fun w' => by
    have hp : pdM c = (c.S * c.V + c.T) * c.k.st := rfl
    rw [hp]
    exact Switch_ok c.k hk (c.S * c.V) c.T hL w'
  clear hM hk hL
  generalize hsv : c.S * c.V = sv at *
  generalize pdM c = pm at *
  go_enter Tryz.func215, Tryz.ntmps215
  go_wp2_with fail
  refine (SW.out _).mono ?_
  rintro e w1 ⟨rfl, k1⟩
  obtain ⟨_, c0, c1, c2, c3, c4, c5, c6, c7, c8, c9, c10, c11, c12, c13, c14, c15, c16⟩ := HS0.below k1
  have FIN : Hid (Below w.heap.size w w1) := HB0.trans (k1.mono HB0.size)
  clear SW k1 HB0 HS0 c0 c1 c2 c3 c4 c5 c6 c7 c8 c9 c10 c11 c12 c14 c15 c16
  go_wp2
  go_ret
  exact ⟨ret_bool (by first | rfl | simp), FIN.out⟩
end Go.Proofs.YtkbpnkjjmipjfaaGreat
