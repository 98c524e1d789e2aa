/- What plan's partWrong gives back: what is wrong with a partition behind earlier ones; no condition but those named. -/
import Derived.Test.YtkbpnkjjmipjfaaGreatVPb
import Derived.Test.YtkbpnkjjmipjfaaGreatVRa
import Derived.JoinedCond
namespace Go.Proofs.YtkbpnkjjmipjfaaGreat
open Go.ChangeShapes Go.WideShapes Go.ChangeAt Go.RowKit
set_option linter.unusedVariables false

theorem okQ_ways : ∀ q z s m f : Bool, (q && (z && (s && (!m || f)))) = (bif q then (bif z then (bif s then (bif m then f else true) else false) else false) else false) := by
  intro q z s m f
  cases q <;> cases z <;> cases s <;> cases m <;> cases f <;> rfl
set_option maxHeartbeats 1000000 in
theorem partWrong_any {w : World} {a : Ad} {c : Cf} {p pc : Nat} (hc : Cin w a c) (hp : p < c.pn) (hp8 : p < 8) (hs : sm c p ≤ 8192 ∧ 0 ≤ sm c p) :
    Calls Tryz.prog 213 #[.agg #[.int .i64 c.F, .int .i64 c.C, .int .i64 c.W, .int .i64 c.S, .int .i64 c.V, .int .i64 c.T, .int .u64 c.k.l1, .int .u64 c.k.llc, .int .u64 c.k.mi, .int .u64 c.k.fa, .int .u64 c.k.st, .int .u64 c.k.di, .int .u64 c.sl, .int .u64 c.pd, .int .u64 c.ft, .slice a.ta c.tn a.tc, .slice a.pa c.pn a.pc], .agg #[.slice (a.ca p) (c.pf p).n (a.cc p), .int .i64 (c.pf p).o, .int .i64 (c.pf p).u, .int .i64 (c.pf p).t, .int .i64 (c.pf p).s, .int .i64 (c.pf p).r, .int .i64 (c.pf p).d, .int .i64 (c.pf p).z], .slice a.pa p pc, .int .i64 (sm c p), .bool (mOk c)] w (One (.int .i64 (pBad c p)) w) := by
  have hA : Arg w (a.ca p) (c.pf p).n (c.pf p).f := hc.p.col hp
  have HB0 := cp_new (m := a.cc p) hc hA
  have hl := hc.cl p hp
  have C1 : Hid (∀ w', Arg w' (a.ca p) (c.pf p).n (c.pf p).f → Calls Tryz.prog 233 #[.slice (a.ca p) (c.pf p).n (a.cc p), .int .i64 c.C] w' fun e w'' => e = .returned (.bool (rise c.C (c.pf p).f (c.pf p).n && decide (0 < (c.pf p).n))) ∧ w'' = w') := fun w' h => coloursMayBe_any c.C hl h
  have C2 : Hid (∀ w', Cin w' a c → rise c.C (c.pf p).f (c.pf p).n = true → 0 < (c.pf p).n → Calls Tryz.prog 234 #[.slice (a.ca p) (c.pf p).n (a.cc p), .slice a.pa p pc] w' (One (.bool (sh c (c.pf p) p)) w')) := fun w' h hr h0 => sharesColour_any hl h0 (h.p.col hp) hr (by omega) (h.p.less (by omega)) (fun i hi => h.cl i (by omega))
  have C3 : Hid (∀ w', Cin w' a c → mOk c = true → rise c.C (c.pf p).f (c.pf p).n = true → qOk (c.pf p) = true → Calls Tryz.prog 236 #[.agg #[.int .i64 c.F, .int .i64 c.C, .int .i64 c.W, .int .i64 c.S, .int .i64 c.V, .int .i64 c.T, .int .u64 c.k.l1, .int .u64 c.k.llc, .int .u64 c.k.mi, .int .u64 c.k.fa, .int .u64 c.k.st, .int .u64 c.k.di, .int .u64 c.sl, .int .u64 c.pd, .int .u64 c.ft, .slice a.ta c.tn a.tc, .slice a.pa c.pn a.pc], .agg #[.slice (a.ca p) (c.pf p).n (a.cc p), .int .i64 (c.pf p).o, .int .i64 (c.pf p).u, .int .i64 (c.pf p).t, .int .i64 (c.pf p).s, .int .i64 (c.pf p).r, .int .i64 (c.pf p).d, .int .i64 (c.pf p).z]] w' (One (.bool (fit c (c.pf p))) w')) := fun w' h hm hr hq => framesSuffice_ok h (mOk_iff.1 hm) (h.p.col hp) hr hq
  have C4 : Hid (∀ w', Calls Tryz.prog 235 #[.agg #[.slice (a.ca p) (c.pf p).n (a.cc p), .int .i64 (c.pf p).o, .int .i64 (c.pf p).u, .int .i64 (c.pf p).t, .int .i64 (c.pf p).s, .int .i64 (c.pf p).r, .int .i64 (c.pf p).d, .int .i64 (c.pf p).z]] w' (One (.bool (qOk (c.pf p))) w')) := fun w' => quotasMayBe_any
  have C5 : Hid (∀ w', Calls Tryz.prog 214 #[.agg #[.slice (a.ca p) (c.pf p).n (a.cc p), .int .i64 (c.pf p).o, .int .i64 (c.pf p).u, .int .i64 (c.pf p).t, .int .i64 (c.pf p).s, .int .i64 (c.pf p).r, .int .i64 (c.pf p).d, .int .i64 (c.pf p).z]] w' (One (.bool (zOk (c.pf p))) w')) := fun w' => slotsMayBe_any
  have HZ : Hid (zOk (c.pf p) = true → 1 ≤ (c.pf p).z ∧ (c.pf p).z ≤ 1024) := fun h => inB_iff.1 h
  have HPB : Hid (pBad c p = bif (rise c.C (c.pf p).f (c.pf p).n && decide (0 < (c.pf p).n)) && !sh c (c.pf p) p then (bif (bif qOk (c.pf p) then (bif zOk (c.pf p) then (bif decide (sm c p + (c.pf p).z ≤ 1024) then (bif mOk c then fit c (c.pf p) else true) else false) else false) else false) then 0 else 111) else 110) := by
    show pBad c p = _
    unfold pBad okCol okQ
    rw [okQ_ways, Bool.and_assoc]
  obtain ⟨s1, s0⟩ := hs
  have hri : (rise c.C (c.pf p).f (c.pf p).n && decide (0 < (c.pf p).n)) = true → rise c.C (c.pf p).f (c.pf p).n = true ∧ 0 < (c.pf p).n := by simp
  have HRI : Hid ((rise c.C (c.pf p).f (c.pf p).n && decide (0 < (c.pf p).n)) = true → rise c.C (c.pf p).f (c.pf p).n = true ∧ 0 < (c.pf p).n) := hri
  clear hc hA hri
  generalize c.pf p = x at *
  generalize a.ca p = q at *
  generalize a.cc p = m at *
  generalize sm c p = S at *
  generalize pBad c p = res at *
  generalize hrv : (rise c.C x.f x.n && decide (0 < x.n)) = rv at *
  clear hrv
  generalize hsv : sh c x p = sv at *
  generalize hqv : qOk x = qv at *
  generalize hzv : zOk x = zv at *
  generalize hmv : mOk c = mv at *
  generalize hfv : fit c x = fv at *
  clear hsv hqv hzv hmv hfv
  go_enter Tryz.func213, Tryz.ntmps213
  go_wp2_with fail
  obtain ⟨W, hW, HB⟩ : ∃ W, ((w.alloc (.cells #[.int .i64 c.F, .int .i64 c.C, .int .i64 c.W, .int .i64 c.S, .int .i64 c.V, .int .i64 c.T, .int .u64 c.k.l1, .int .u64 c.k.llc, .int .u64 c.k.mi, .int .u64 c.k.fa, .int .u64 c.k.st, .int .u64 c.k.di, .int .u64 c.sl, .int .u64 c.pd, .int .u64 c.ft, .slice a.ta c.tn a.tc, .slice a.pa c.pn a.pc] 28)).alloc (.cells #[.slice q x.n m, .int .i64 x.o, .int .i64 x.u, .int .i64 x.t, .int .i64 x.s, .int .i64 x.r, .int .i64 x.d, .int .i64 x.z] 109)) = W ∧ Hid (Cp w W w.heap.size (w.heap.size + 1) a c q m x) := ⟨_, rfl, HB0⟩
  rw [hW]
  clear hW HB0
  refine (C1.out _ HB.out.ag).mono ?_
  rintro e w1 ⟨rfl, rfl⟩
  obtain ⟨_, c0, c1, c2, c3, c4, c5, c6, c7, c8, c9, c10, c11, c12, c13, c14, c15, c16⟩ := HB.out.bx
  obtain ⟨_, e0, e1, e2, e3, e4, e5, e6, e7⟩ := HB.out.px
  cases rv
  · clear c0 c1 c2 c3 c4 c5 c6 c7 c8 c9 c10 c11 c12 c13 c14 c15 c16
    go_wp2
    go_ret
    exact ⟨ret_int (by rw [HPB.out]; rfl), HB.out.be⟩
  obtain ⟨hr, h0⟩ := HRI.out rfl
  have HRr : Hid (rise c.C x.f x.n = true) := hr
  clear hr HRI C1
  go_wp2_with fail
  refine (C2.out _ HB.out.ci HRr.out h0).mono ?_
  rintro e w2 ⟨rfl, k2⟩
  have HB2 : Hid (Cp w w2 w.heap.size (w.heap.size + 1) a c q m x) := HB.out.below k2
  clear HB k2 C2 c0 c1 c2 c3 c4 c5 c6 c7 c8 c9 c10 c11 c12 c13 c14 c15 c16 e0 e1 e2 e3 e4 e5 e6 e7
  obtain ⟨_, e0, e1, e2, e3, e4, e5, e6, e7⟩ := HB2.out.px
  cases sv
  case true =>
    go_wp2
    go_ret
    exact ⟨ret_int (by rw [HPB.out]; rfl), HB2.out.be⟩
  go_wp2_with fail
  refine (C4.out _).mono ?_
  rintro e w3 ⟨rfl, k3⟩
  have HB3 : Hid (Cp w w3 w.heap.size (w.heap.size + 1) a c q m x) := HB2.out.below k3
  clear HB2 k3 C4 e0 e1 e2 e3 e4 e5 e6 e7
  obtain ⟨_, e0, e1, e2, e3, e4, e5, e6, e7⟩ := HB3.out.px
  cases qv
  · go_wp2_with (go_at_call 211; refine (unless_any _ _ _).mono ?_; rintro e w' ⟨rfl, rfl⟩)
    go_ret
    exact ⟨ret_int (by rw [HPB.out]; rfl), HB3.out.be⟩
  go_wp2_with fail
  refine (C5.out _).mono ?_
  rintro e w4 ⟨rfl, k4⟩
  have HB4 : Hid (Cp w w4 w.heap.size (w.heap.size + 1) a c q m x) := HB3.out.below k4
  clear HB3 k4 C5 e0 e1 e2 e3 e4 e5 e6 e7
  obtain ⟨_, e0, e1, e2, e3, e4, e5, e6, e7⟩ := HB4.out.px
  cases zv
  · go_wp2_with (go_at_call 211; refine (unless_any _ _ _).mono ?_; rintro e w' ⟨rfl, rfl⟩)
    go_ret
    exact ⟨ret_int (by rw [HPB.out]; rfl), HB4.out.be⟩
  obtain ⟨z0, z1⟩ := HZ.out rfl
  by_cases hsum : S + x.z ≤ 1024
  · have hd : decide (S + x.z ≤ 1024) = true := by simp [hsum]
    cases mv
    · go_wp2_with (go_at_call 211; refine (unless_any _ _ _).mono ?_; rintro e w' ⟨rfl, rfl⟩)
      go_ret
      exact ⟨ret_int (by rw [HPB.out, hd]; rfl), HB4.out.be⟩
    · obtain ⟨_, c0, c1, c2, c3, c4, c5, c6, c7, c8, c9, c10, c11, c12, c13, c14, c15, c16⟩ := HB4.out.bx
      go_wp2_with fail
      refine (C3.out _ HB4.out.ci (by first | rfl | trivial) HRr.out (by first | rfl | trivial)).mono ?_
      rintro e w5 ⟨rfl, k5⟩
      have FIN : Hid (Below w.heap.size w w5) := HB4.out.be.trans (k5.mono HB4.out.be.size)
      clear HB4 k5 c0 c1 c2 c3 c4 c5 c6 c7 c8 c9 c10 c11 c12 c13 c14 c15 c16 e0 e1 e2 e3 e4 e5 e6 e7 C3
      go_wp2_with (go_at_call 211; refine (unless_any _ _ _).mono ?_; rintro e w' ⟨rfl, rfl⟩)
      go_ret
      exact ⟨ret_int (by rw [HPB.out, hd]; rfl), FIN.out⟩
  · have hd : decide (S + x.z ≤ 1024) = false := by simp [hsum]
    go_wp2_with (go_at_call 211; refine (unless_any _ _ _).mono ?_; rintro e w' ⟨rfl, rfl⟩)
    go_ret
    exact ⟨ret_int (by rw [HPB.out, hd]; rfl), HB4.out.be⟩
end Go.Proofs.YtkbpnkjjmipjfaaGreat
namespace Go.Proofs.YtkbpnkjjmipjfaaGreat
open Go.ChangeShapes Go.WideShapes Go.ChangeAt Go.RowKit
set_option linter.unusedVariables false

theorem Ebx.sx {W : World} {b : Nat} {q : Option Addr} {m : Nat} {x : Pa} (h : Ebx W b q m x) : W.cell? ⟨b, 0, none⟩ = some (.slice q x.n m) ∧ W.cell? ⟨b, 1, none⟩ = some (.int .i64 x.o) ∧ W.cell? ⟨b, 2, none⟩ = some (.int .i64 x.u) ∧ W.cell? ⟨b, 3, none⟩ = some (.int .i64 x.t) ∧ W.cell? ⟨b, 4, none⟩ = some (.int .i64 x.s) ∧ W.cell? ⟨b, 5, none⟩ = some (.int .i64 x.r) ∧ W.cell? ⟨b, 6, none⟩ = some (.int .i64 x.d) ∧ W.cell? ⟨b, 7, none⟩ = some (.int .i64 x.z) := ⟨h.c0, h.c1, h.c2, h.c3, h.c4, h.c5, h.c6, h.c7⟩
structure Sb (w0 w : World) (b g : Nat) (q : Option Addr) (m : Nat) (x : Pa) (L : List Value) : Prop where
  be : Below w0.heap.size w0 w
  lo : w0.heap.size ≤ g
  ne : b ≠ g
  px : Ebx w b q m x
  sh : Blk w g 230 L
theorem Sb.below {w0 w w' : World} {b g : Nat} {q : Option Addr} {m : Nat} {x : Pa} {L : List Value} (h : Sb w0 w b g q m x L) (k : Below w.heap.size w w') : Sb w0 w' b g q m x L :=
  ⟨h.be.trans (k.mono h.be.size), h.lo, h.ne, h.px.below k, h.sh.below k⟩
theorem Ebx.other {w w' : World} {b : Nat} {q : Option Addr} {m : Nat} {x : Pa} (h : Ebx w b q m x) (e : w'.heap[b]? = w.heap[b]?) : Ebx w' b q m x := by
  have hc : ∀ i, w'.cell? ⟨b, i, none⟩ = w.cell? ⟨b, i, none⟩ := fun i => World.cell?_of_block e
  have hl : b < w'.heap.size := by
    have h1 : w.heap[b]? = some (w.heap[b]'h.lt) := Array.getElem?_eq_getElem h.lt
    rw [h1] at e
    exact (Array.getElem?_eq_some_iff.1 e).1
  exact ⟨hl, (hc 0).trans h.c0, (hc 1).trans h.c1, (hc 2).trans h.c2, (hc 3).trans h.c3, (hc 4).trans h.c4, (hc 5).trans h.c5, (hc 6).trans h.c6, (hc 7).trans h.c7⟩
theorem heap_set_ne {w : World} {g b : Nat} (h : b ≠ g) (k : Nat) (v : Value) : (w.setCell ⟨g, k, none⟩ v).heap[b]? = w.heap[b]? := Below.heap_setCell _ _ _ _ h
theorem Sb.set {w0 w : World} {b g : Nat} {q : Option Addr} {m : Nat} {x : Pa} {L : List Value} (h : Sb w0 w b g q m x L) (i : Nat) (v : Value) : Sb w0 (w.setCell ⟨g, i, none⟩ v) b g q m x (L.set i v) :=
  ⟨h.be.trans (below_setCell h.lo h.be.size i v), h.lo, h.ne, h.px.other (heap_set_ne h.ne i v), h.sh.set i v⟩
theorem Sb.zs {w0 w : World} {b g : Nat} {q : Option Addr} {m : Nat} {x : Pa} {v0 v1 v2 v3 : Value} (h : Sb w0 w b g q m x [v0, v1, v2, v3]) : (w.cell? ⟨g, 0, none⟩ = some v0 ∧ w.cell? ⟨g, 1, none⟩ = some v1 ∧ w.cell? ⟨g, 2, none⟩ = some v2 ∧ w.cell? ⟨g, 3, none⟩ = some v3) ∧ w.frozen? ⟨g, 0, none⟩ = false ∧ w.frozen? ⟨g, 1, none⟩ = false ∧ w.frozen? ⟨g, 2, none⟩ = false ∧ w.frozen? ⟨g, 3, none⟩ = false :=
  ⟨⟨h.sh.cell 0, h.sh.cell 1, h.sh.cell 2, h.sh.cell 3⟩, h.sh.frozen 0, h.sh.frozen 1, h.sh.frozen 2, h.sh.frozen 3⟩
theorem sb_new (w : World) (q : Option Addr) (m : Nat) (x : Pa) (L : List Value) : Sb w ((w.alloc (.cells #[.slice q x.n m, .int .i64 x.o, .int .i64 x.u, .int .i64 x.t, .int .i64 x.s, .int .i64 x.r, .int .i64 x.d, .int .i64 x.z] 109)).alloc (.cells L.toArray 230)) w.heap.size (w.heap.size + 1) q m x L :=
  ⟨below_two _ _ _, by omega, by omega, (ebx_new w q m x).below (below_new _ _), by simpa using blk_new (w.alloc (.cells #[.slice q x.n m, .int .i64 x.o, .int .i64 x.u, .int .i64 x.t, .int .i64 x.s, .int .i64 x.r, .int .i64 x.d, .int .i64 x.z] 109)) L 230⟩
set_option maxHeartbeats 1000000 in
theorem shape_ok {w : World} {q : Option Addr} {m : Nat} {x : Pa} (o0 : 0 ≤ x.o) (o1 : x.o ≤ 3) (u0 : 0 ≤ x.u) (u1 : x.u ≤ 4096) (z0 : 0 ≤ x.z) (z1 : x.z ≤ 1024) (d0 : 0 ≤ x.d) (d1 : x.d ≤ 4096) :
    Calls Tryz.prog 239 #[.agg #[.slice q x.n m, .int .i64 x.o, .int .i64 x.u, .int .i64 x.t, .int .i64 x.s, .int .i64 x.r, .int .i64 x.d, .int .i64 x.z]] w (One (.agg #[.int .i64 (im x), .int .i64 x.u, .int .i64 (lim x), .int .i64 x.t]) w) := by
  have IC : Hid (∀ w, Calls Tryz.prog 249 #[.agg #[.slice q x.n m, .int .i64 x.o, .int .i64 x.u, .int .i64 x.t, .int .i64 x.s, .int .i64 x.r, .int .i64 x.d, .int .i64 x.z]] w (One (.int .i64 (im x)) w)) := fun w => imageFrames_ok o0 o1
  have LC : Hid (∀ w, Calls Tryz.prog 252 #[.agg #[.slice q x.n m, .int .i64 x.o, .int .i64 x.u, .int .i64 x.t, .int .i64 x.s, .int .i64 x.r, .int .i64 x.d, .int .i64 x.z]] w (One (.int .i64 (lim x)) w)) := fun w => limit_ok u0 u1 z0 z1 d0 d1
  have HB0 := sb_new w q m x [.int .i64 0, .int .i64 0, .int .i64 0, .int .i64 0]
  clear o0 o1 u0 u1 z0 z1 d0 d1
  generalize im x = I at *
  generalize lim x = J at *
  go_enter Tryz.func239, Tryz.ntmps239
  go_wp2_with fail
  obtain ⟨W, hW, HB⟩ : ∃ W, ((w.alloc (.cells #[.slice q x.n m, .int .i64 x.o, .int .i64 x.u, .int .i64 x.t, .int .i64 x.s, .int .i64 x.r, .int .i64 x.d, .int .i64 x.z] 109)).alloc (.cells #[.int .i64 0, .int .i64 0, .int .i64 0, .int .i64 0] 230)) = W ∧ Hid (Sb w W w.heap.size (w.heap.size + 1) q m x [.int .i64 0, .int .i64 0, .int .i64 0, .int .i64 0]) := ⟨_, rfl, HB0⟩
  rw [hW]
  clear hW HB0
  go_region_held3 (fun W => W.cell? ⟨w.heap.size, 0, none⟩ = some (.slice q x.n m) ∧ W.cell? ⟨w.heap.size, 1, none⟩ = some (.int .i64 x.o) ∧ W.cell? ⟨w.heap.size, 2, none⟩ = some (.int .i64 x.u) ∧ W.cell? ⟨w.heap.size, 3, none⟩ = some (.int .i64 x.t) ∧ W.cell? ⟨w.heap.size, 4, none⟩ = some (.int .i64 x.s) ∧ W.cell? ⟨w.heap.size, 5, none⟩ = some (.int .i64 x.r) ∧ W.cell? ⟨w.heap.size, 6, none⟩ = some (.int .i64 x.d) ∧ W.cell? ⟨w.heap.size, 7, none⟩ = some (.int .i64 x.z))
    (first | exact B4.out.px.sx | exact B3.out.px.sx | exact (HB.out.below (below_drew _ _)).px.sx | exact ((((B4.out.set 0 _).set 1 _).set 2 _).set 3 _).px.sx)
    (first
      | (go_at_call 249; refine (IC.out _).mono ?_; rintro e w3 ⟨rfl, k3⟩; first | (have B4 : Hid (Sb w w3 w.heap.size (w.heap.size + 1) q m x [.int .i64 0, .int .i64 0, .int .i64 0, .int .i64 0]) := B3.out.below k3; clear k3 zz; obtain ⟨⟨z0, z1, z2, z3⟩, y0, y1, y2, y3⟩ := B4.out.zs) | (have B3 : Hid (Sb w w3 w.heap.size (w.heap.size + 1) q m x [.int .i64 0, .int .i64 0, .int .i64 0, .int .i64 0]) := (HB.out.below (below_drew _ _)).below k3; clear k3; have zz := True.intro))
      | (go_at_call 252; refine (LC.out _).mono ?_; rintro e w3 ⟨rfl, k3⟩; first | (have B4 : Hid (Sb w w3 w.heap.size (w.heap.size + 1) q m x [.int .i64 0, .int .i64 0, .int .i64 0, .int .i64 0]) := B3.out.below k3; clear k3 zz; obtain ⟨⟨z0, z1, z2, z3⟩, y0, y1, y2, y3⟩ := B4.out.zs) | (have B3 : Hid (Sb w w3 w.heap.size (w.heap.size + 1) q m x [.int .i64 0, .int .i64 0, .int .i64 0, .int .i64 0]) := (HB.out.below (below_drew _ _)).below k3; clear k3; have zz := True.intro)))
  all_goals
    have F4 : Hid (Sb w ((((w3.setCell ⟨w.heap.size + 1, 0, none⟩ (.int .i64 I)).setCell ⟨w.heap.size + 1, 1, none⟩ (.int .i64 x.u)).setCell ⟨w.heap.size + 1, 2, none⟩ (.int .i64 J)).setCell ⟨w.heap.size + 1, 3, none⟩ (.int .i64 x.t)) w.heap.size (w.heap.size + 1) q m x [.int .i64 I, .int .i64 x.u, .int .i64 J, .int .i64 x.t]) :=
      (((B4.out.set 0 (.int .i64 I)).set 1 (.int .i64 x.u)).set 2 (.int .i64 J)).set 3 (.int .i64 x.t)
    clear B3 B4 HB IC LC z0 z1 z2 z3 y0 y1 y2 y3
    generalize ((((w3.setCell ⟨w.heap.size + 1, 0, none⟩ (.int .i64 I)).setCell ⟨w.heap.size + 1, 1, none⟩ (.int .i64 x.u)).setCell ⟨w.heap.size + 1, 2, none⟩ (.int .i64 J)).setCell ⟨w.heap.size + 1, 3, none⟩ (.int .i64 x.t)) = w5 at *
    obtain ⟨⟨z0, z1, z2, z3⟩, y0, y1, y2, y3⟩ := F4.out.zs
    go_wp2
    refine bodyPost_ret (v := .agg #[.int .i64 I, .int .i64 x.u, .int .i64 J, .int .i64 x.t]) (by simp [results, Tryz.results239, go_sem, z0, z1, z2, z3]) rfl ⟨rfl, F4.out.be⟩
def pbL (c : Cf) (k n : Nat) : List Value := (List.range n).map fun p => .int .i64 (if p < k then pBad c p else 0)
theorem pbL_len (c : Cf) (k n : Nat) : (pbL c k n).length = n := by simp [pbL]
theorem pbL_get {c : Cf} {k n i : Nat} (hi : i < n) : (pbL c k n)[i]? = some (.int .i64 (if i < k then pBad c i else 0)) := by simp [pbL, hi]
theorem pbL_zero (c : Cf) (n : Nat) : pbL c 0 n = List.replicate n (.int .i64 0) := by
  simp only [pbL, Nat.not_lt_zero, if_false]
  rw [List.eq_replicate_iff]
  simp
theorem pbL_set {c : Cf} {k n : Nat} (hk : k < n) : (pbL c k n).set k (.int .i64 (pBad c k)) = pbL c (k + 1) n := by
  apply List.ext_getElem?
  intro i
  by_cases hi : i < n
  · rw [List.getElem?_set, pbL_len, pbL_get hi, pbL_get hi]
    by_cases e : k = i
    · subst e
      simp [hk]
    · by_cases h2 : i < k
      · simp [e, h2, show i < k + 1 by omega]
      · simp [e, h2, show ¬ i < k + 1 by omega]
  · rw [List.getElem?_eq_none (by simp [pbL_len]; omega), List.getElem?_eq_none (by simp [pbL_len]; omega)]
theorem Tryz.infoE : (Tryz.prog.info? 33).map (fun i => (i.zero, i.size, i.bytes)) = some (some (.int .i64 0), 1, 8) := by kernel_rfl
theorem make_errs (n : Nat) (hn : n ≤ 1048576) (w : World) : (Instr.makeSlice 259 (.int .i64 n) (.int .i64 n)).run Tryz.prog w = .ok (.slice (some ⟨w.heap.size, 0, none⟩) n n) (w.alloc (.cells (List.replicate n (.int .i64 0)).toArray 33)) := by
  obtain ⟨i0, hi, hz0, hz1, hz2⟩ := info_parts Tryz.infoE
  have h := run_makeSlice (P := Tryz.prog) w 259 33 i0 (.int .i64 0) Tryz.underlying259 hi hz0 .i64 .i64 n n (by omega) (by omega) (by rw [hz1]; simp; omega) (by rw [hz2]; omega) (by omega)
  rw [h]
  have e : madeCells (Value.int .i64 0).cells ((n : Int).toNat * i0.size) = (List.replicate n (.int .i64 0)).toArray := by
    apply Array.toList_inj.1
    rw [hz1, Int.toNat_natCast]
    show (madeCells #[.int .i64 0] (n * 1)).toList = _
    rw [toList_madeCells_one, Nat.mul_one]
  rw [e, Int.toNat_natCast]
end Go.Proofs.YtkbpnkjjmipjfaaGreat
