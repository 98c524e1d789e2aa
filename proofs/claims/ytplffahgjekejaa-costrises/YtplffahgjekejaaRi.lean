/- CostRises: where costs and numbers rise no bound falls; Most is the greatest, and one of them; nothing costs less than entering. -/
import Derived.Test.YtplffahgjekejaaRm
import Derived.Deep.RegionHeld3
import Derived.Deep.Cut
namespace Go.Proofs.Ytplffahgjekejaa
open Go.ChangeShapes Go.WideShapes Go.ChangeAt Go.RowKit
set_option linter.unusedVariables false

/-- Costs, a shape and a rise in their boxes beside what was there. -/
structure Bz (w0 w : World) (b b1 b2 : Nat) (c : Co) (s : Sh) (x : Mo) : Prop where
  be : Below w0.heap.size w0 w
  cs : Six w b c
  ss : Fou w b1 s
  xs : Sev w b2 x
theorem Bz.below {w0 w w' : World} {b b1 b2 : Nat} {c : Co} {s : Sh} {x : Mo} (h : Bz w0 w b b1 b2 c s x) (k : Below w.heap.size w w') : Bz w0 w' b b1 b2 c s x := ⟨h.be.trans (k.mono h.be.size), h.cs.below k, h.ss.below k, h.xs.below k⟩
theorem bz_new (w : World) (c : Co) (s : Sh) (x : Mo) : Bz w (((w.alloc (.cells #[.int .u64 c.l1, .int .u64 c.llc, .int .u64 c.mi, .int .u64 c.fa, .int .u64 c.st, .int .u64 c.di] 24)).alloc (.cells #[.int .i64 s.im, .int .i64 s.us, .int .i64 s.li, .int .i64 s.no] 35)).alloc (.cells #[.int .u64 x.mi, .int .u64 x.fa, .int .u64 x.st, .int .u64 x.di, .int .i64 x.us, .int .i64 x.li, .int .i64 x.no] 40)) w.heap.size (w.heap.size + 1) (w.heap.size + 1 + 1) c s x :=
  ⟨(below_two _ _ _).alloc (by simp; omega) _, ((six_new w c).below (below_new _ _)).below (below_new _ _), (bx_new w c s).ss.below (below_new _ _), by simpa using sev_new ((w.alloc (.cells #[.int .u64 c.l1, .int .u64 c.llc, .int .u64 c.mi, .int .u64 c.fa, .int .u64 c.st, .int .u64 c.di] 24)).alloc (.cells #[.int .i64 s.im, .int .i64 s.us, .int .i64 s.li, .int .i64 s.no] 35)) x⟩
def Zx (w : World) (b b2 : Nat) (c : Co) (x : Mo) : Prop := w.cell? ⟨b, 0, none⟩ = some (.int .u64 c.l1) ∧ w.cell? ⟨b, 1, none⟩ = some (.int .u64 c.llc) ∧ w.cell? ⟨b, 2, none⟩ = some (.int .u64 c.mi) ∧ w.cell? ⟨b, 3, none⟩ = some (.int .u64 c.fa) ∧ w.cell? ⟨b, 4, none⟩ = some (.int .u64 c.st) ∧ w.cell? ⟨b, 5, none⟩ = some (.int .u64 c.di) ∧ w.cell? ⟨b2, 0, none⟩ = some (.int .u64 x.mi) ∧ w.cell? ⟨b2, 1, none⟩ = some (.int .u64 x.fa) ∧ w.cell? ⟨b2, 2, none⟩ = some (.int .u64 x.st) ∧ w.cell? ⟨b2, 3, none⟩ = some (.int .u64 x.di)
theorem Bz.zx {w0 w : World} {b b1 b2 : Nat} {c : Co} {s : Sh} {x : Mo} (h : Bz w0 w b b1 b2 c s x) : Zx w b b2 c x := ⟨h.cs.c0, h.cs.c1, h.cs.c2, h.cs.c3, h.cs.c4, h.cs.c5, h.xs.c0, h.xs.c1, h.xs.c2, h.xs.c3⟩
theorem cell_same {w w' : World} {p : Addr} (h : w'.heap[p.block]? = w.heap[p.block]?) : w'.cell? p = w.cell? p := by simp only [World.cell?, h]
theorem lt_same {w w' : World} {g : Nat} (hl : g < w.heap.size) (h : w'.heap[g]? = w.heap[g]?) : g < w'.heap.size := by
  rw [Array.getElem?_eq_getElem hl] at h
  exact (Array.getElem?_eq_some_iff.1 h).1
theorem Six.same {w w' : World} {g : Nat} {c : Co} (h : Six w g c) (e : w'.heap[g]? = w.heap[g]?) : Six w' g c :=
  ⟨lt_same h.lt e, (cell_same e).trans h.c0, (cell_same e).trans h.c1, (cell_same e).trans h.c2, (cell_same e).trans h.c3, (cell_same e).trans h.c4, (cell_same e).trans h.c5⟩
theorem Fou.same {w w' : World} {g : Nat} {s : Sh} (h : Fou w g s) (e : w'.heap[g]? = w.heap[g]?) : Fou w' g s :=
  ⟨lt_same h.lt e, (cell_same e).trans h.c0, (cell_same e).trans h.c1, (cell_same e).trans h.c2, (cell_same e).trans h.c3⟩
theorem Sev.same {w w' : World} {g : Nat} {x : Mo} (h : Sev w g x) (e : w'.heap[g]? = w.heap[g]?) : Sev w' g x :=
  ⟨lt_same h.lt e, (cell_same e).trans h.c0, (cell_same e).trans h.c1, (cell_same e).trans h.c2, (cell_same e).trans h.c3, (cell_same e).trans h.c4, (cell_same e).trans h.c5, (cell_same e).trans h.c6⟩
theorem Blk.frozen {w : World} {g : Nat} {ty : TypeId} {L : List Value} (h : Blk w g ty L) (i : Nat) : w.frozen? ⟨g, i, none⟩ = false := by
  unfold Blk at h
  simp [World.frozen?, h]
theorem Blk.set {w : World} {g : Nat} {ty : TypeId} {L : List Value} (h : Blk w g ty L) (i : Nat) (v : Value) : Blk (w.setCell ⟨g, i, none⟩ v) g ty (L.set i v) := by
  unfold Blk at *
  simp only [World.setCell, Array.getElem?_modify, if_true, h]
  simp
theorem Blk.fou {w : World} {g : Nat} {s : Sh} (h : Blk w g 35 [.int .i64 s.im, .int .i64 s.us, .int .i64 s.li, .int .i64 s.no]) : Fou w g s :=
  ⟨h.lt, h.cell 0, h.cell 1, h.cell 2, h.cell 3⟩
/-- What came in, the raised costs, and the raised shape in the making. -/
structure Rs (w0 w : World) (b b1 b2 g g' : Nat) (c : Co) (s : Sh) (x : Mo) (d : Co) (t : Sh) : Prop where
  bz : Bz w0 w b b1 b2 c s x
  ds : Six w g d
  ts : Blk w g' 35 [.int .i64 t.im, .int .i64 t.us, .int .i64 t.li, .int .i64 t.no]
  nb : g' ≠ b ∧ g' ≠ b1 ∧ g' ≠ b2 ∧ g' ≠ g ∧ w0.heap.size ≤ g'
theorem Rs.set {w0 w : World} {b b1 b2 g g' : Nat} {c : Co} {s : Sh} {x : Mo} {d : Co} {t : Sh} (h : Rs w0 w b b1 b2 g g' c s x d t) (i : Nat) (v : Value) (t' : Sh)
    (ht : [.int .i64 t.im, .int .i64 t.us, .int .i64 t.li, .int .i64 t.no].set i v = [.int .i64 t'.im, .int .i64 t'.us, .int .i64 t'.li, .int .i64 t'.no]) : Rs w0 (w.setCell ⟨g', i, none⟩ v) b b1 b2 g g' c s x d t' := by
  obtain ⟨n1, n2, n3, n4, n5⟩ := h.nb
  have hk : ∀ j, j ≠ g' → (w.setCell ⟨g', i, none⟩ v).heap[j]? = w.heap[j]? := fun j hj => Below.heap_setCell _ _ _ _ hj
  refine ⟨⟨?_, h.bz.cs.same (hk _ (Ne.symm n1)), h.bz.ss.same (hk _ (Ne.symm n2)), h.bz.xs.same (hk _ (Ne.symm n3))⟩, h.ds.same (hk _ (Ne.symm n4)), ?_, h.nb⟩
  · exact ⟨h.bz.be.os, h.bz.be.tape, h.bz.be.output, by simpa [World.setCell] using h.bz.be.size, fun j hj => (hk j (by omega)).trans (h.bz.be.block j hj)⟩
  · have := h.ts.set i v
    rwa [ht] at this
theorem up_z (n b m : Int) (h0 : 0 ≤ n) (h : n ≤ m) (h1 : 0 ≤ b) (h2 : b < 18446744073709551616) (h3 : m ≤ 65536) : ∃ z, upN n b m = z ∧ n ≤ z ∧ z ≤ m ∧ Hid (∀ w, Calls Try.prog 19 #[.int .u64 n, .int .u64 b, .int .u64 m] w fun e w' => e = .returned (.int .u64 z) ∧ w' = w) :=
  ⟨_, rfl, upN_ge n b m h1, upN_le n b m h, fun w => up_any n b m h0 h1 h2 h3 w⟩
/-- What came in, and the raised costs and shape. -/
structure Rl (w0 w : World) (b b1 b2 g g' : Nat) (c : Co) (s : Sh) (x : Mo) (d : Co) (t : Sh) : Prop where
  bz : Bz w0 w b b1 b2 c s x
  ds : Six w g d
  ts : Fou w g' t
theorem Rl.below {w0 w w' : World} {b b1 b2 g g' : Nat} {c : Co} {s : Sh} {x : Mo} {d : Co} {t : Sh} (h : Rl w0 w b b1 b2 g g' c s x d t) (k : Below w.heap.size w w') : Rl w0 w' b b1 b2 g g' c s x d t := ⟨h.bz.below k, h.ds.below k, h.ts.below k⟩
theorem Rs.rl {w0 w : World} {b b1 b2 g g' : Nat} {c : Co} {s : Sh} {x : Mo} {d : Co} {t : Sh} (h : Rs w0 w b b1 b2 g g' c s x d t) : Rl w0 w b b1 b2 g g' c s x d t := ⟨h.bz, h.ds, h.ts.fou⟩
theorem rises_no (c : Co) (s : Sh) (x : Mo) (h : ers c s ≠ 0) (w : World) : Calls Try.prog 5 #[.agg #[.int .u64 c.l1, .int .u64 c.llc, .int .u64 c.mi, .int .u64 c.fa, .int .u64 c.st, .int .u64 c.di], .agg #[.int .i64 s.im, .int .i64 s.us, .int .i64 s.li, .int .i64 s.no], .agg #[.int .u64 x.mi, .int .u64 x.fa, .int .u64 x.st, .int .u64 x.di, .int .i64 x.us, .int .i64 x.li, .int .i64 x.no]] w fun e w' => e = .returned (.bool true) ∧ Below w.heap.size w w' := by
  have C : Hid (∀ w, Calls Try.prog 17 #[.agg #[.int .u64 c.l1, .int .u64 c.llc, .int .u64 c.mi, .int .u64 c.fa, .int .u64 c.st, .int .u64 c.di], .agg #[.int .i64 s.im, .int .i64 s.us, .int .i64 s.li, .int .i64 s.no]] w (Two 0 (ers c s) w)) := fun w => Most_no c s h w
  generalize ers c s = y at *
  have B0 : Hid (Bz w (((w.alloc (.cells #[.int .u64 c.l1, .int .u64 c.llc, .int .u64 c.mi, .int .u64 c.fa, .int .u64 c.st, .int .u64 c.di] 24)).alloc (.cells #[.int .i64 s.im, .int .i64 s.us, .int .i64 s.li, .int .i64 s.no] 35)).alloc (.cells #[.int .u64 x.mi, .int .u64 x.fa, .int .u64 x.st, .int .u64 x.di, .int .i64 x.us, .int .i64 x.li, .int .i64 x.no] 40)) w.heap.size (w.heap.size + 1) (w.heap.size + 1 + 1) c s x) := bz_new w c s x
  go_enter Try.func5, Try.ntmps5
  go_wp2_with fail
  generalize (((w.alloc (.cells #[.int .u64 c.l1, .int .u64 c.llc, .int .u64 c.mi, .int .u64 c.fa, .int .u64 c.st, .int .u64 c.di] 24)).alloc (.cells #[.int .i64 s.im, .int .i64 s.us, .int .i64 s.li, .int .i64 s.no] 35)).alloc (.cells #[.int .u64 x.mi, .int .u64 x.fa, .int .u64 x.st, .int .u64 x.di, .int .i64 x.us, .int .i64 x.li, .int .i64 x.no] 40)) = w0 at *
  refine (works_any _).mono ?_
  rintro e w1 ⟨rfl, k1⟩
  have B1 : Hid (Bz w w1 w.heap.size (w.heap.size + 1) (w.heap.size + 1 + 1) c s x) := B0.out.below k1
  clear k1 B0
  obtain ⟨_, c0, c1, c2, c3, c4, c5⟩ := B1.out.cs
  obtain ⟨_, s0, s1, s2, s3⟩ := B1.out.ss
  go_wp2_with fail
  refine (C.out _).mono ?_
  rintro e w2 ⟨rfl, k2⟩
  have FIN : Hid (Below w.heap.size w w2) := B1.out.be.trans (k2.mono B1.out.be.size)
  clear k2 B1 C c0 c1 c2 c3 c4 c5 s0 s1 s2 s3
  go_wp2
  go_ret
  exact ⟨rfl, FIN.out⟩
set_option maxRecDepth 20000 in
set_option maxHeartbeats 4000000 in
theorem rises_ok (c : Co) (s : Sh) (x : Mo) (h : c.Ok) (k : s.Ok) (x0 : 0 ≤ x.mi ∧ x.mi < 18446744073709551616) (x1 : 0 ≤ x.fa ∧ x.fa < 18446744073709551616) (x2 : 0 ≤ x.st ∧ x.st < 18446744073709551616) (x3 : 0 ≤ x.di ∧ x.di < 18446744073709551616)
    (x4 : x.us ≤ 9223372036854775807) (x5 : x.li ≤ 9223372036854775807) (x6 : x.no ≤ 9223372036854775807) (w : World) : Calls Try.prog 5 #[.agg #[.int .u64 c.l1, .int .u64 c.llc, .int .u64 c.mi, .int .u64 c.fa, .int .u64 c.st, .int .u64 c.di], .agg #[.int .i64 s.im, .int .i64 s.us, .int .i64 s.li, .int .i64 s.no], .agg #[.int .u64 x.mi, .int .u64 x.fa, .int .u64 x.st, .int .u64 x.di, .int .i64 x.us, .int .i64 x.li, .int .i64 x.no]] w fun e w' => e = .returned (.bool true) ∧ Below w.heap.size w w' := by
  have C : Hid (∀ w, Calls Try.prog 17 #[.agg #[.int .u64 c.l1, .int .u64 c.llc, .int .u64 c.mi, .int .u64 c.fa, .int .u64 c.st, .int .u64 c.di], .agg #[.int .i64 s.im, .int .i64 s.us, .int .i64 s.li, .int .i64 s.no]] w (Two (mx c s 11) 0 w)) := fun w => Most_ok c s h k w
  have HC : Hid (c.Ok) := h
  have HS : Hid (s.Ok) := k
  obtain ⟨a1, a2, a3, a4, b1, b2, d1, d2, e1', e2⟩ := h
  obtain ⟨im, u1, u2, l1, l2, n1, n2⟩ := k
  have U1 : Hid (∀ w, Calls Try.prog 19 #[.int .u64 c.mi, .int .u64 x.mi, .int .u64 65536] w fun e w' => e = .returned (.int .u64 (upN c.mi x.mi 65536)) ∧ w' = w) := fun w => up_any _ _ _ (by omega) (by omega) (by omega) (by omega) w
  have U2 : Hid (∀ w, Calls Try.prog 19 #[.int .u64 c.fa, .int .u64 x.fa, .int .u64 65536] w fun e w' => e = .returned (.int .u64 (upN c.fa x.fa 65536)) ∧ w' = w) := fun w => up_any _ _ _ (by omega) (by omega) (by omega) (by omega) w
  have U3 : Hid (∀ w, Calls Try.prog 19 #[.int .u64 c.st, .int .u64 x.st, .int .u64 65536] w fun e w' => e = .returned (.int .u64 (upN c.st x.st 65536)) ∧ w' = w) := fun w => up_any _ _ _ (by omega) (by omega) (by omega) (by omega) w
  have U4 : Hid (∀ w, Calls Try.prog 19 #[.int .u64 c.di, .int .u64 x.di, .int .u64 65536] w fun e w' => e = .returned (.int .u64 (upN c.di x.di 65536)) ∧ w' = w) := fun w => up_any _ _ _ (by omega) (by omega) (by omega) (by omega) w
  have UU : Hid (∀ n b w, 0 ≤ n → 0 ≤ b → b < 18446744073709551616 → Calls Try.prog 19 #[.int .u64 n, .int .u64 b, .int .u64 65536] w fun e w' => e = .returned (.int .u64 (upN n b 65536)) ∧ w' = w) := fun n b w h0 h1 h2 => up_any _ _ _ h0 h1 h2 (by omega) w
  have B0 : Hid (Bz w (((w.alloc (.cells #[.int .u64 c.l1, .int .u64 c.llc, .int .u64 c.mi, .int .u64 c.fa, .int .u64 c.st, .int .u64 c.di] 24)).alloc (.cells #[.int .i64 s.im, .int .i64 s.us, .int .i64 s.li, .int .i64 s.no] 35)).alloc (.cells #[.int .u64 x.mi, .int .u64 x.fa, .int .u64 x.st, .int .u64 x.di, .int .i64 x.us, .int .i64 x.li, .int .i64 x.no] 40)) w.heap.size (w.heap.size + 1) (w.heap.size + 1 + 1) c s x) := bz_new w c s x
  go_enter Try.func5, Try.ntmps5
  go_wp2_with fail
  generalize (((w.alloc (.cells #[.int .u64 c.l1, .int .u64 c.llc, .int .u64 c.mi, .int .u64 c.fa, .int .u64 c.st, .int .u64 c.di] 24)).alloc (.cells #[.int .i64 s.im, .int .i64 s.us, .int .i64 s.li, .int .i64 s.no] 35)).alloc (.cells #[.int .u64 x.mi, .int .u64 x.fa, .int .u64 x.st, .int .u64 x.di, .int .i64 x.us, .int .i64 x.li, .int .i64 x.no] 40)) = w0 at *
  generalize hb2 : w.heap.size + 1 + 1 = b2 at *
  generalize hb1 : w.heap.size + 1 = b1 at *
  generalize hb : w.heap.size = b at *
  refine (works_any _).mono ?_
  rintro e w1 ⟨rfl, k1⟩
  have B1 : Hid (Bz w w1 b b1 b2 c s x) := B0.out.below k1
  clear k1 B0
  obtain ⟨_, c0, c1, c2, c3, c4, c5⟩ := B1.out.cs
  obtain ⟨_, s0, s1, s2, s3⟩ := B1.out.ss
  go_wp2_with fail
  refine (C.out _).mono ?_
  rintro e w2 ⟨rfl, k2⟩
  have B2 : Hid (Bz w w2 b b1 b2 c s x) := B1.out.below k2
  clear k2 B1 C c0 c1 c2 c3 c4 c5 s0 s1 s2 s3
  have V : Hid (Zx w2.drew b b2 c x) := (B2.out.below (below_drew _ _)).zx
  go_upto_region 6 with fail
  go_cut [9] from 17 (fun t9 wx => ∃ g d, t9 = .pointer (some ⟨g, 0, none⟩) ∧ d = Co.mk c.l1 c.llc (upN c.mi x.mi 65536) (upN c.fa x.fa 65536) (upN c.st x.st 65536) (upN c.di x.di 65536) ∧ Bz w wx b b1 b2 c s x ∧ Six wx g d)
  case first =>
    have B3 : Hid (Bz w (w2.alloc (.cells #[.int .u64 c.l1, .int .u64 c.llc, .int .u64 (upN c.mi x.mi 65536), .int .u64 (upN c.fa x.fa 65536), .int .u64 (upN c.st x.st 65536), .int .u64 (upN c.di x.di 65536)] 24)).drew b b1 b2 c s x ∧ Six (w2.alloc (.cells #[.int .u64 c.l1, .int .u64 c.llc, .int .u64 (upN c.mi x.mi 65536), .int .u64 (upN c.fa x.fa 65536), .int .u64 (upN c.st x.st 65536), .int .u64 (upN c.di x.di 65536)] 24)).drew w2.heap.size (Co.mk c.l1 c.llc (upN c.mi x.mi 65536) (upN c.fa x.fa 65536) (upN c.st x.st 65536) (upN c.di x.di 65536))) :=
      ⟨B2.out.below (Below.drew (below_new _ _)), (six_new w2 (Co.mk c.l1 c.llc (upN c.mi x.mi 65536) (upN c.fa x.fa 65536) (upN c.st x.st 65536) (upN c.di x.di 65536))).below (below_drew _ _)⟩
    go_region_held3 (fun W => W.cell? ⟨b, 0, none⟩ = some (.int .u64 c.l1) ∧ W.cell? ⟨b, 1, none⟩ = some (.int .u64 c.llc) ∧ W.cell? ⟨b, 2, none⟩ = some (.int .u64 c.mi) ∧ W.cell? ⟨b, 3, none⟩ = some (.int .u64 c.fa) ∧ W.cell? ⟨b, 4, none⟩ = some (.int .u64 c.st) ∧ W.cell? ⟨b, 5, none⟩ = some (.int .u64 c.di) ∧ W.cell? ⟨b2, 0, none⟩ = some (.int .u64 x.mi) ∧ W.cell? ⟨b2, 1, none⟩ = some (.int .u64 x.fa) ∧ W.cell? ⟨b2, 2, none⟩ = some (.int .u64 x.st) ∧ W.cell? ⟨b2, 3, none⟩ = some (.int .u64 x.di))
      (first | exact V.out | exact (B2.out.below (Below.drew (below_new _ _))).zx)
      (first
        | (go_at_call 19; refine (UU.out _ _ _ (by omega) (by omega) (by omega)).mono ?_; rintro e w3 ⟨rfl, rfl⟩))
    all_goals
      go_wp2_with fail
      go_meet
      case rel => exact ⟨_, _, rfl, rfl, B3.out⟩
  case rest =>
    obtain ⟨g, d, rfl, hd, hB, hD⟩ := hcut
    have HB : Hid (Bz w wc b b1 b2 c s x) := hB
    have HD : Hid (Six wc g d) := hD
    clear hB hD V B2 U1 U2 U3 U4 UU
    obtain ⟨_, s0, s1, s2, s3⟩ := HB.out.ss
    go_upto_region 8 with fail
    obtain ⟨g', hg'⟩ : ∃ g', wc.heap.size = g' := ⟨_, rfl⟩
    have R0 : Hid (Rs w (wc.alloc (.cells #[.int .i64 s.im, .int .i64 0, .int .i64 0, .int .i64 0] 35)) b b1 b2 g g' c s x d ⟨s.im, 0, 0, 0⟩) := by
      subst hg'
      have l1 := HB.out.cs.lt
      have l2 := HB.out.ss.lt
      have l3 := HB.out.xs.lt
      have l4 := HD.out.lt
      have l5 := HB.out.be.size
      exact ⟨HB.out.below (below_new _ _), HD.out.below (below_new _ _), blk_new wc _ 35, by omega, by omega, by omega, by omega, by omega⟩
    rw [hg']
    clear HB HD s0 s1 s2 s3 hg'
    generalize (wc.alloc (.cells #[.int .i64 s.im, .int .i64 0, .int .i64 0, .int .i64 0] 35)) = y0 at *
    go_cut [10] from 17 (fun t10 wx => t10 = .pointer (some ⟨g', 0, none⟩) ∧ Rs w wx b b1 b2 g g' c s x d ⟨s.im, upN s.us (max 0 x.us) 4096, 0, 0⟩)
    case first =>
      obtain ⟨_, s0, s1, s2, s3⟩ := R0.out.bz.ss
      obtain ⟨_, m0, m1, m2, m3, m4, m5, m6⟩ := R0.out.bz.xs
      have q := R0.out.ts.cell 1
      have qf := R0.out.ts.frozen 1
      by_cases hx : 0 < x.us
      · have hm : max 0 x.us = x.us := by omega
        obtain ⟨z, hz, z0, z1, U⟩ := up_z s.us x.us 4096 (by omega) (by omega) (by omega) (by omega) (by omega)
        go_wp2_with (go_at_call 19; refine (U.out _).mono ?_; rintro e w3 ⟨rfl, rfl⟩)
        go_meet
        case rel => exact ⟨rfl, R0.out.set 1 _ _ (by rw [hm, hz]; rfl)⟩
      · have hm : max 0 x.us = 0 := by omega
        obtain ⟨z, hz, z0, z1, U⟩ := up_z s.us 0 4096 (by omega) (by omega) (by omega) (by omega) (by omega)
        go_wp2_with (go_at_call 19; refine (U.out _).mono ?_; rintro e w3 ⟨rfl, rfl⟩)
        go_meet
        case rel => exact ⟨rfl, R0.out.set 1 _ _ (by rw [hm, hz]; rfl)⟩
    case rest =>
    obtain ⟨rfl, hR⟩ := hcut
    have R1 : Hid (Rs w wc b b1 b2 g g' c s x d ⟨s.im, upN s.us (max 0 x.us) 4096, 0, 0⟩) := hR
    clear hR R0
    go_upto_region 9 with fail
    go_cut [10] from 17 (fun t10 wx => t10 = .pointer (some ⟨g', 0, none⟩) ∧ Rs w wx b b1 b2 g g' c s x d ⟨s.im, upN s.us (max 0 x.us) 4096, upN s.li (max 0 x.li) 5120, 0⟩)
    case first =>
      obtain ⟨_, s0, s1, s2, s3⟩ := R1.out.bz.ss
      obtain ⟨_, m0, m1, m2, m3, m4, m5, m6⟩ := R1.out.bz.xs
      have q := R1.out.ts.cell 2
      have qf := R1.out.ts.frozen 2
      by_cases hx : 0 < x.li
      · have hm : max 0 x.li = x.li := by omega
        obtain ⟨z, hz, z0, z1, U⟩ := up_z s.li x.li 5120 (by omega) (by omega) (by omega) (by omega) (by omega)
        go_wp2_with (go_at_call 19; refine (U.out _).mono ?_; rintro e w3 ⟨rfl, rfl⟩)
        go_meet
        case rel => exact ⟨rfl, R1.out.set 2 _ _ (by rw [hm, hz]; rfl)⟩
      · have hm : max 0 x.li = 0 := by omega
        obtain ⟨z, hz, z0, z1, U⟩ := up_z s.li 0 5120 (by omega) (by omega) (by omega) (by omega) (by omega)
        go_wp2_with (go_at_call 19; refine (U.out _).mono ?_; rintro e w3 ⟨rfl, rfl⟩)
        go_meet
        case rel => exact ⟨rfl, R1.out.set 2 _ _ (by rw [hm, hz]; rfl)⟩
    case rest =>
    obtain ⟨rfl, hR⟩ := hcut
    have R2 : Hid (Rs w wc b b1 b2 g g' c s x d ⟨s.im, upN s.us (max 0 x.us) 4096, upN s.li (max 0 x.li) 5120, 0⟩) := hR
    clear hR R1
    go_upto_region 10 with fail
    go_cut [10] from 17 (fun t10 wx => t10 = .pointer (some ⟨g', 0, none⟩) ∧ Rs w wx b b1 b2 g g' c s x d ⟨s.im, upN s.us (max 0 x.us) 4096, upN s.li (max 0 x.li) 5120, upN s.no (max 0 x.no) 4096⟩)
    case first =>
      obtain ⟨_, s0, s1, s2, s3⟩ := R2.out.bz.ss
      obtain ⟨_, m0, m1, m2, m3, m4, m5, m6⟩ := R2.out.bz.xs
      have q := R2.out.ts.cell 3
      have qf := R2.out.ts.frozen 3
      by_cases hx : 0 < x.no
      · have hm : max 0 x.no = x.no := by omega
        obtain ⟨z, hz, z0, z1, U⟩ := up_z s.no x.no 4096 (by omega) (by omega) (by omega) (by omega) (by omega)
        go_wp2_with (go_at_call 19; refine (U.out _).mono ?_; rintro e w3 ⟨rfl, rfl⟩)
        go_meet
        case rel => exact ⟨rfl, R2.out.set 3 _ _ (by rw [hm, hz]; rfl)⟩
      · have hm : max 0 x.no = 0 := by omega
        obtain ⟨z, hz, z0, z1, U⟩ := up_z s.no 0 4096 (by omega) (by omega) (by omega) (by omega) (by omega)
        go_wp2_with (go_at_call 19; refine (U.out _).mono ?_; rintro e w3 ⟨rfl, rfl⟩)
        go_meet
        case rel => exact ⟨rfl, R2.out.set 3 _ _ (by rw [hm, hz]; rfl)⟩
    case rest =>
    obtain ⟨rfl, hR⟩ := hcut
    have R3 : Hid (Rs w wc b b1 b2 g g' c s x d ⟨s.im, upN s.us (max 0 x.us) 4096, upN s.li (max 0 x.li) 5120, upN s.no (max 0 x.no) 4096⟩) := hR
    clear hR R2
    obtain ⟨t, ht⟩ : ∃ t, t = Sh.mk s.im (upN s.us (max 0 x.us) 4096) (upN s.li (max 0 x.li) 5120) (upN s.no (max 0 x.no) 4096) := ⟨_, rfl⟩
    have RL : Hid (Rl w wc b b1 b2 g g' c s x d t) := by subst ht; exact R3.out.rl
    clear R3
    have hL : Le c d s t := by
      subst hd ht
      exact ⟨upN_ge _ _ _ x0.1, upN_ge _ _ _ x1.1, upN_ge _ _ _ x2.1, upN_ge _ _ _ x3.1, rfl, upN_ge _ _ _ (by omega), upN_ge _ _ _ (by omega), upN_ge _ _ _ (by omega)⟩
    have hd' : d.Ok := by
      have h1 := upN_le c.mi x.mi 65536 a4
      have h2 := upN_le c.fa x.fa 65536 (by omega)
      have h3 := upN_le c.st x.st 65536 d2
      have h4 := upN_le c.di x.di 65536 e2
      have g1 := hL.mi
      have g2 := hL.fa
      have g3 := hL.st
      have g4 := hL.di
      subst hd
      exact ⟨a1, a2, Int.le_trans a3 g1, h1, Int.le_trans HC.out.b1 g2, h2, Int.le_trans d1 g3, h3, Int.le_trans e1' g4, h4⟩
    have ht' : t.Ok := by
      have h1 := upN_le s.us (max 0 x.us) 4096 u2
      have h2 := upN_le s.li (max 0 x.li) 5120 l2
      have h3 := upN_le s.no (max 0 x.no) 4096 n2
      have g1 := hL.us
      have g2 := hL.li
      have g3 := hL.no
      subst ht
      exact ⟨im, Int.le_trans u1 g1, h1, Int.le_trans l1 g2, h2, Int.le_trans n1 g3, h3⟩
    obtain ⟨f, f', m, W1, W2, F, IS⟩ : ∃ (f f' : Nat → Int) (m : Int), Hid (∀ (q : Nat) w, Calls Try.prog 15 #[.agg #[.int .u64 c.l1, .int .u64 c.llc, .int .u64 c.mi, .int .u64 c.fa, .int .u64 c.st, .int .u64 c.di], .agg #[.int .i64 s.im, .int .i64 s.us, .int .i64 s.li, .int .i64 s.no], .int .u8 (q : Int)] w (Two (f q) 0 w)) ∧ Hid (∀ (q : Nat) w, Calls Try.prog 15 #[.agg #[.int .u64 d.l1, .int .u64 d.llc, .int .u64 d.mi, .int .u64 d.fa, .int .u64 d.st, .int .u64 d.di], .agg #[.int .i64 t.im, .int .i64 t.us, .int .i64 t.li, .int .i64 t.no], .int .u8 (q : Int)] w (Two (f' q) 0 w)) ∧
        Hid (m = mx c s 11 ∧ f = bd c s ∧ ∀ q, ¬ f' q < f q ∧ ¬ m < f q ∧ ¬ f q < s.im * c.mi ∧ ¬ 1099511627776 ≤ f' q ∧ isB c s m (q + 1) = (isB c s m q || (f q == m))) ∧ Hid (isB c s m 20 = true) := by
      refine ⟨bd c s, bd d t, mx c s 11, fun q w => by have := Worst_ok c s HC.out HS.out (q : Int) (by omega) w; rwa [Int.toNat_natCast] at this, fun q w => by have := Worst_ok d t hd' ht' (q : Int) (by omega) w; rwa [Int.toNat_natCast] at this, ⟨rfl, rfl, fun q => ⟨?_, ?_, ?_, ?_, rfl⟩⟩, isB_all HC.out HS.out⟩
      · exact Int.not_lt.2 (bd_mono HC.out HS.out hL q)
      · exact Int.not_lt.2 (bd_mx c s q)
      · exact Int.not_lt.2 (bd_ent HC.out HS.out q)
      · exact Int.not_le.2 (bd_less hd' ht' q)
    have hmm := F.out.1
    rw [← hmm]
    clear hmm
    have E0 := (pt_of HC.out HS.out).e0
    have E1 := (pt_of HC.out HS.out).e1
    unfold ent at E0 E1
    have im1 : 1 ≤ s.im := by omega
    have im2 : s.im ≤ 8 := by omega
    clear hd ht hL hd' ht' HC HS im x0 x1 x2 x3 x4 x5 x6
    go_wp2_with fail
    go_loopw [11, 12] (fun i k wr => ∃ j : Nat, j ≤ 20 ∧ k = .int .i64 j ∧ i = .bool (isB c s m j) ∧ Rl w wr b b1 b2 g g' c s x d t) (fun _ k _ => 20 - (iv k).toNat)
    case atStart => exact ⟨0, by omega, rfl, rfl, RL.out⟩
    case round =>
      clear RL
      obtain ⟨j, hj, rfl, rfl, hR⟩ := hrel
      have RL : Hid (Rl w wr b b1 b2 g g' c s x d t) := hR
      clear hR
      by_cases hlt : j < 20
      · obtain ⟨f1, f2, f3, f4, f5⟩ := F.out.2.2 j
        have W1j : Hid (∀ w, Calls Try.prog 15 #[.agg #[.int .u64 c.l1, .int .u64 c.llc, .int .u64 c.mi, .int .u64 c.fa, .int .u64 c.st, .int .u64 c.di], .agg #[.int .i64 s.im, .int .i64 s.us, .int .i64 s.li, .int .i64 s.no], .int .u8 (j : Int)] w (Two (f j) 0 w)) := W1.out j
        have W2j : Hid (∀ w, Calls Try.prog 15 #[.agg #[.int .u64 d.l1, .int .u64 d.llc, .int .u64 d.mi, .int .u64 d.fa, .int .u64 d.st, .int .u64 d.di], .agg #[.int .i64 t.im, .int .i64 t.us, .int .i64 t.li, .int .i64 t.no], .int .u8 (j : Int)] w (Two (f' j) 0 w)) := W2.out j
        have F5 : Hid (isB c s m (j + 1) = (isB c s m j || (f j == m))) := f5
        clear W1 W2 F IS f5
        generalize f j = A at *
        generalize f' j = B at *
        generalize isB c s m j = I at *
        obtain ⟨_, c0, c1, c2, c3, c4, c5⟩ := RL.out.bz.cs
        obtain ⟨_, s0, s1, s2, s3⟩ := RL.out.bz.ss
        go_wp2_with fail
        refine (W1j.out _).mono ?_
        rintro e w5 ⟨rfl, k5⟩
        have R5 : Hid (Rl w w5 b b1 b2 g g' c s x d t) := RL.out.below k5
        clear k5 RL c0 c1 c2 c3 c4 c5 s0 s1 s2 s3 W1j
        obtain ⟨_, c0, c1, c2, c3, c4, c5⟩ := R5.out.ds
        obtain ⟨_, s0, s1, s2, s3⟩ := R5.out.ts
        go_wp2_with fail
        refine (W2j.out _).mono ?_
        rintro e w6 ⟨rfl, k6⟩
        have R6 : Hid (Rl w w6 b b1 b2 g g' c s x d t) := R5.out.below k6
        clear k6 R5 c0 c1 c2 c3 c4 c5 s0 s1 s2 s3 W2j
        obtain ⟨_, c0, c1, c2, c3, c4, c5⟩ := R6.out.bz.cs
        obtain ⟨_, s0, s1, s2, s3⟩ := R6.out.bz.ss
        cases I
        · go_wp2
          go_roundw
          case rel => exact ⟨j + 1, by omega, by go_num, by rw [F5.out]; rfl, R6.out⟩
          case measure => simp [iv]; omega
        · go_wp2
          go_roundw
          case rel => exact ⟨j + 1, by omega, by go_num, by rw [F5.out]; rfl, R6.out⟩
          case measure => simp [iv]; omega
      · obtain rfl : j = 20 := by omega
        rw [IS.out]
        go_wp2
        go_ret
        subst hb
        exact ⟨rfl, RL.out.bz.be⟩
theorem rises_any (c : Co) (s : Sh) (x : Mo) (x0 : 0 ≤ x.mi ∧ x.mi < 18446744073709551616) (x1 : 0 ≤ x.fa ∧ x.fa < 18446744073709551616) (x2 : 0 ≤ x.st ∧ x.st < 18446744073709551616) (x3 : 0 ≤ x.di ∧ x.di < 18446744073709551616)
    (x4 : x.us ≤ 9223372036854775807) (x5 : x.li ≤ 9223372036854775807) (x6 : x.no ≤ 9223372036854775807) (w : World) : Calls Try.prog 5 #[.agg #[.int .u64 c.l1, .int .u64 c.llc, .int .u64 c.mi, .int .u64 c.fa, .int .u64 c.st, .int .u64 c.di], .agg #[.int .i64 s.im, .int .i64 s.us, .int .i64 s.li, .int .i64 s.no], .agg #[.int .u64 x.mi, .int .u64 x.fa, .int .u64 x.st, .int .u64 x.di, .int .i64 x.us, .int .i64 x.li, .int .i64 x.no]] w fun e w' => e = .returned (.bool true) ∧ Below w.heap.size w w' := by
  by_cases h : ers c s = 0
  · obtain ⟨h1, h2⟩ := ers_zero h
    exact rises_ok c s x h1 h2 x0 x1 x2 x3 x4 x5 x6 w
  · exact rises_no c s x h w
end Go.Proofs.Ytplffahgjekejaa
