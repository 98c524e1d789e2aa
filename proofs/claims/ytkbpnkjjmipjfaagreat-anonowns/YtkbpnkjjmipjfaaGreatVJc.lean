/- What core.New gives back; no condition but those named. -/
import Derived.Test.YtkbpnkjjmipjfaaGreatVJb
import Derived.Test.YtkbpnkjjmipjfaaGreatVQb
namespace Go.Proofs.YtkbpnkjjmipjfaaGreat.E
open Go.ChangeShapes Go.WideShapes Go.ChangeAt Go.RowKit
set_option linter.unusedVariables false
set_option maxRecDepth 8192

def hwOf (c : Cf) : Hw := ⟨c.F.toNat, c.T.toNat, (zs c c.pn).toNat, c.S.toNat, c.V.toNat, c.C.toNat, c.W.toNat, c.k⟩
def s0 : Sc := ⟨fun _ => 0, [], fun _ => none, fun _ => [], fun _ => [], 0⟩
theorem zs_sm {c : Cf} (h : c.Ok) (p : Nat) (hp : p ≤ c.pn) : zs c p = sm c p := by
  induction p with
  | zero => rfl
  | succ p ih =>
    have k := h.part (show p < c.pn by omega)
    have hz : zOk (c.pf p) = true := by simp only [zOk, inB_iff]; exact ⟨k.z0, k.z1⟩
    simp only [zs, sm]
    rw [ih (by omega), hz]
    rfl
theorem zs_le {c : Cf} (h : c.Ok) (p : Nat) (hp : p ≤ c.pn) : 0 ≤ zs c p ∧ zs c p ≤ 1024 := by
  refine ⟨by rw [zs_sm h p hp]; exact sm_nonneg c p, ?_⟩
  cases p with
  | zero => exact (by decide : (0 : Int) ≤ 1024)
  | succ p =>
    have k := (h.part (show p < c.pn by omega)).sm
    simp only [zs]
    rw [zs_sm h p (by omega)]
    exact k
theorem pow2_bits {n : Int} (h : pow2 n = true) : bits .and .i64 n (n - 1) = 0 := by
  rcases pow2_iff.1 h with rfl | rfl | rfl | rfl | rfl | rfl | rfl | rfl | rfl | rfl | rfl | rfl | rfl <;> decide
theorem hwOf_ok {c : Cf} (h : c.Ok) : (hwOf c).Ok := by
  have m := h.m
  have F1 := m.F1; have F2 := m.F2; have S1 := m.S1; have S2 := m.S2; have W1 := m.W1; have W2 := m.W2; have V1 := m.V1; have V2 := m.V2; have T1 := m.T1; have T2 := m.T2
  have hC : 1 ≤ c.C ∧ c.C ≤ 16 := by rcases m.C with e | e | e | e | e <;> omega
  have hz := zs_le h c.pn (Nat.le_refl _)
  refine ⟨?_, ?_, ?_, ?_, ?_, ?_, ?_, ?_, ?_, ?_, ?_, ?_, ?_, okC_iff.2 h.k⟩ <;> simp only [hwOf] <;> omega
structure Ov (hb : Nat) (w w' : World) : Prop where
  os : w'.os = w.os
  tape : w'.tape = w.tape
  output : w'.output = w.output
  size : w.heap.size ≤ w'.heap.size
  block : ∀ k, k < w.heap.size → k ≠ hb → w'.heap[k]? = w.heap[k]?
theorem Ov.trans {hb : Nat} {a b c : World} (h : Ov hb a b) (k : Ov hb b c) : Ov hb a c := ⟨k.os.trans h.os, k.tape.trans h.tape, k.output.trans h.output, Nat.le_trans h.size k.size, fun i hi hn => (k.block i (Nat.lt_of_lt_of_le hi h.size) hn).trans (h.block i hi hn)⟩
theorem Ov.grown {hb : Nat} {w w' : World} (g : w.grownBy w' none) : Ov hb w w' := ⟨g.os, g.tape, g.output, g.size, fun i hi _ => g.block i hi (by simp)⟩
theorem Ov.set (hb : Nat) (w : World) (i : Nat) (v : Value) : Ov hb w (w.setCell ⟨hb, i, none⟩ v) := by
  have g := C.grown_setCell' w hb i v
  exact ⟨g.os, g.tape, g.output, g.size, fun k hk hn => g.block k hk (C.some_ne hn)⟩
theorem Ov.kp {hb : Nat} {X : Nat → Prop} {w w' : World} (k : C.Kp (fun _ => False) X w w') : Ov hb w w' := ⟨k.os, k.tape, k.output, k.size, fun i hi _ => k.block i hi id⟩
theorem Ov.sev {hb : Nat} {w w' : World} {g : Nat} {a : Ad} {c : Cf} (h : Ov hb w w') (q : Sev w g a c) (hn : g ≠ hb) : Sev w' g a c := by
  have e := h.block g q.lt hn
  have f : ∀ i, w'.cell? ⟨g, i, none⟩ = w.cell? ⟨g, i, none⟩ := fun i => World.cell?_of_block (w := w) (a := ⟨g, i, none⟩) e
  exact ⟨Nat.lt_of_lt_of_le q.lt h.size, (f _).trans q.c0, (f _).trans q.c1, (f _).trans q.c2, (f _).trans q.c3, (f _).trans q.c4, (f _).trans q.c5, (f _).trans q.c6, (f _).trans q.c7, (f _).trans q.c8, (f _).trans q.c9, (f _).trans q.c10, (f _).trans q.c11, (f _).trans q.c12, (f _).trans q.c13, (f _).trans q.c14, (f _).trans q.c15, (f _).trans q.c16⟩
def cN (h : Hw) (m t d a b : Option Addr) : List Value :=
  [.pointer m, .pointer t, .pointer d, .pointer a, .pointer b, .int .i64 h.s, .int .i64 h.c,
   .int .u64 h.co.l1, .int .u64 h.co.llc, .int .u64 h.co.mi, .int .u64 h.co.fa, .int .u64 h.co.st, .int .u64 h.co.di, .int .u64 0]
theorem new_core {w w9 : World} {h : Hw} {hb pm gm pt pd bd p1 p2 : Nat} {X2 X4 X5 : Nat → Prop} (ok : h.Ok) {wa wb wc wd we wf wg wh wi wj : World}
    (b0 : Below w.heap.size w wa) (hlt : w.heap.size ≤ hb) (hlt' : hb < wa.heap.size)
    (m : F.Mem wb pm gm h.n (fun _ => 0)) (gm' : wa.grownBy wb none) (m1 : wa.heap.size ≤ pm) (m2 : wa.heap.size ≤ gm) (o1 : Ov hb wb wc)
    (t : T.Ca wd X2 pt h.t []) (kt : T.Kp (fun _ => False) X2 wc wd) (o2 : Ov hb wd we)
    (d : D.Dk wf pd bd h.d (fun _ => none)) (gd : we.grownBy wf none) (d1 : we.heap.size ≤ pd) (d2 : we.heap.size ≤ bd) (o3 : Ov hb wf wg)
    (l1 : C.Ca wh X4 p1 h.s h.v (fun _ => [])) (k1 : C.Kp (fun _ => False) X4 wg wh) (o4 : Ov hb wh wi)
    (l2 : C.Ca wj X5 p2 (h.c * 16) h.k (fun _ => [])) (k2 : C.Kp (fun _ => False) X5 wi wj) (o5 : Ov hb wj w9)
    (st : C.Blk w9 hb 93 (cN h (some ⟨pm, 0, none⟩) (some ⟨pt, 0, none⟩) (some ⟨pd, 0, none⟩) (some ⟨p1, 0, none⟩) (some ⟨p2, 0, none⟩))) :
    ∃ X, Cr pK w9 X hb h s0 ∧ C.Kp (fun _ => False) X w w9 := by
  have n2 := fun k q => ((kpT kt).new k q).resolve_left id
  have n4 := fun k q => (k1.new k q).resolve_left id
  have n5 := fun k q => (k2.new k q).resolve_left id
  have oj : Ov hb wj w9 := o5
  have oi : Ov hb wi w9 := (Ov.kp k2).trans oj
  have oh : Ov hb wh w9 := o4.trans oi
  have og : Ov hb wg w9 := (Ov.kp k1).trans oh
  have of : Ov hb wf w9 := o3.trans og
  have oe : Ov hb we w9 := (Ov.grown gd).trans of
  have od : Ov hb wd w9 := o2.trans oe
  have oc : Ov hb wc w9 := (Ov.kp (kpT kt)).trans od
  have ob : Ov hb wb w9 := o1.trans oc
  have oa : Ov hb wa w9 := (Ov.grown gm').trans ob
  have z1 := gm'.size; have z2 := o1.size; have z3 := kt.size; have z4 := o2.size; have z5 := gd.size; have z6 := o3.size; have z7 := k1.size; have z8 := o4.size; have z9 := k2.size; have z10 := o5.size
  have y1 := m.lt; have y2 := m.by'.1; have y3 := t.lt; have y4 := d.st.lt; have y5 := d.mp.lt; have y6 := l1.1; have y7 := l2.1
  let G : Nat → Nat → Prop := fun i k => (i = 0 ∧ k = hb) ∨ (i = 1 ∧ (k = pm ∨ k = gm)) ∨ (i = 2 ∧ X2 k) ∨ (i = 3 ∧ (k = pd ∨ k = bd)) ∨ (i = 4 ∧ X4 k) ∨ (i = 5 ∧ X5 k)
  have g2 : G 2 = X2 := by funext k; simp [G]
  have g4 : G 4 = X4 := by funext k; simp [G]
  have g5 : G 5 = X5 := by funext k; simp [G]
  have rng : ∀ i k, G i k → (i = 0 ∧ k = hb) ∨ (i = 1 ∧ wa.heap.size ≤ k ∧ k < wb.heap.size) ∨ (i = 2 ∧ wc.heap.size ≤ k ∧ k < wd.heap.size) ∨ (i = 3 ∧ we.heap.size ≤ k ∧ k < wf.heap.size) ∨ (i = 4 ∧ wg.heap.size ≤ k ∧ k < wh.heap.size) ∨ (i = 5 ∧ wi.heap.size ≤ k ∧ k < wj.heap.size) := by
    intro i k hg
    rcases hg with ⟨e, q⟩ | ⟨e, q⟩ | ⟨e, q⟩ | ⟨e, q⟩ | ⟨e, q⟩ | ⟨e, q⟩
    · exact Or.inl ⟨e, q⟩
    · exact Or.inr (Or.inl ⟨e, by omega, by omega⟩)
    · exact Or.inr (Or.inr (Or.inl ⟨e, n2 k q, y3 k q⟩))
    · exact Or.inr (Or.inr (Or.inr (Or.inl ⟨e, by omega, by omega⟩)))
    · exact Or.inr (Or.inr (Or.inr (Or.inr (Or.inl ⟨e, n4 k q, y6 k q⟩))))
    · exact Or.inr (Or.inr (Or.inr (Or.inr (Or.inr ⟨e, n5 k q, y7 k q⟩))))
  refine ⟨un G, ⟨G, ⟨hb, pm, gm, pt, pd, bd, p1, p2⟩, ⟨?_, ?_, ok, st, Or.inl ⟨rfl, rfl⟩, m.of_eq ob.size (ob.block _ y1 (by omega)) (ob.block _ y2 (by omega)), Or.inr (Or.inl ⟨rfl, Or.inl rfl⟩), Or.inr (Or.inl ⟨rfl, Or.inr rfl⟩), ?_, ⟨d.of_eq (of.block _ y4 (by omega)) (of.block _ y5 (by omega)), Or.inr (Or.inr (Or.inr (Or.inl ⟨rfl, Or.inl rfl⟩))), Or.inr (Or.inr (Or.inr (Or.inl ⟨rfl, Or.inr rfl⟩)))⟩, ?_, ?_, by decide, by decide⟩, rfl, rfl⟩, ?_⟩
  · intro i k hg
    rcases rng i k hg with q | q | q | q | q | q <;> omega
  · intro i j k hne hg hg'
    rcases rng i k hg with q | q | q | q | q | q <;> rcases rng j k hg' with r | r | r | r | r | r <;> omega
  · rw [g2]
    exact t.of_eq od.size (fun k q => od.block k (y3 k q) (by have := n2 k q; omega))
  · rw [g4]
    exact l1.of_eq oh.size (fun k q => oh.block k (y6 k q) (by have := n4 k q; omega))
  · rw [g5]
    exact l2.of_eq oj.size (fun k q => oj.block k (y7 k q) (by have := n5 k q; omega))
  · have zb := b0.size
    refine ⟨oa.os.trans b0.os, oa.tape.trans b0.tape, oa.output.trans b0.output, by omega, fun k hk _ => (oa.block k (by omega) (by omega)).trans (b0.block k hk), fun k q => Or.inr ?_⟩
    obtain ⟨i, hg⟩ := q
    rcases rng i k hg with q | q | q | q | q | q <;> omega
set_option maxHeartbeats 2000000 in
theorem New_ok {w : World} {a : Ad} {c : Cf} (hc : Cin w a c) (hm : may c = true) : Calls Tryz.prog 8 #[.agg #[.int .i64 c.F, .int .i64 c.C, .int .i64 c.W, .int .i64 c.S, .int .i64 c.V, .int .i64 c.T, .int .u64 c.k.l1, .int .u64 c.k.llc, .int .u64 c.k.mi, .int .u64 c.k.fa, .int .u64 c.k.st, .int .u64 c.k.di, .int .u64 c.sl, .int .u64 c.pd, .int .u64 c.ft, .slice a.ta c.tn a.tc, .slice a.pa c.pn a.pc]] w fun e w' => ∃ p X, e = .returned (.tuple #[.pointer (some ⟨p, 0, none⟩), .int .i64 0]) ∧ Cr pK w' X p (hwOf c) s0 ∧ C.Kp (fun _ => False) X w w' := by
  have HB0 := cb_new hc
  have hO := may_iff.1 hm
  have ok := hwOf_ok hO
  have C1 : Hid (∀ w', Cin w' a c → Calls Tryz.prog 37 #[.agg #[.int .i64 c.F, .int .i64 c.C, .int .i64 c.W, .int .i64 c.S, .int .i64 c.V, .int .i64 c.T, .int .u64 c.k.l1, .int .u64 c.k.llc, .int .u64 c.k.mi, .int .u64 c.k.fa, .int .u64 c.k.st, .int .u64 c.k.di, .int .u64 c.sl, .int .u64 c.pd, .int .u64 c.ft, .slice a.ta c.tn a.tc, .slice a.pa c.pn a.pc]] w' (Ti (zs c c.pn) 0 w')) := fun w' h => Slots_ok h hm
  have hC : 1 ≤ c.C ∧ c.C ≤ 16 := by rcases hO.m.C with e | e | e | e | e <;> omega
  have hz := zs_le hO c.pn (Nat.le_refl _)
  have F1 := hO.m.F1; have F2 := hO.m.F2; have S1 := hO.m.S1; have S2 := hO.m.S2; have W1 := hO.m.W1; have W2 := hO.m.W2; have V1 := hO.m.V1; have V2 := hO.m.V2; have T1 := hO.m.T1; have T2 := hO.m.T2
  have eF : c.F = ((hwOf c).n : Int) := by simp only [hwOf]; omega
  have eT : c.T = ((hwOf c).t : Int) := by simp only [hwOf]; omega
  have eZ : zs c c.pn = ((hwOf c).d : Int) := by simp only [hwOf]; omega
  have eS : c.S = ((hwOf c).s : Int) := by simp only [hwOf]; omega
  have eV : c.V = ((hwOf c).v : Int) := by simp only [hwOf]; omega
  have eC : c.C = ((hwOf c).c : Int) := by simp only [hwOf]; omega
  have eW : c.W = ((hwOf c).k : Int) := by simp only [hwOf]; omega
  have CF : Hid (∀ w : World, Calls Tryz.prog 38 #[.int .i64 c.F] w fun e w' => ∃ p g, e = .returned (.tuple #[.pointer (some ⟨p, 0, none⟩), .int .i64 0]) ∧ F.Mem w' p g (hwOf c).n (fun _ => 0) ∧ w.grownBy w' none ∧ w.heap.size ≤ p ∧ w.heap.size ≤ g) := fun w => by rw [eF]; exact F.New_ok _ ok.n1 ok.n2 w
  have CT : Hid (∀ w : World, Calls Tryz.prog 39 #[.int .i64 c.T] w fun e w' => ∃ p X, e = .returned (.tuple #[.pointer (some ⟨p, 0, none⟩), .int .i64 0]) ∧ T.Ca w' X p (hwOf c).t [] ∧ T.Kp (fun _ => False) X w w') := fun w => by rw [eT]; exact T.New_ok _ ok.t1 ok.t2 w
  have CD : Hid (∀ w : World, Calls Tryz.prog 40 #[.int .i64 (zs c c.pn)] w fun e w' => ∃ p b, e = .returned (.tuple #[.pointer (some ⟨p, 0, none⟩), .int .i64 0]) ∧ D.Dk w' p b (hwOf c).d (fun _ => none) ∧ w.grownBy w' none ∧ w.heap.size ≤ p ∧ w.heap.size ≤ b) := fun w => by rw [eZ]; exact D.New_ok _ ok.d2 w
  have CA : Hid (∀ w : World, Calls Tryz.prog 41 #[.int .i64 c.S, .int .i64 c.V] w fun e w' => ∃ p X, e = .returned (.tuple #[.pointer (some ⟨p, 0, none⟩), .int .i64 0]) ∧ C.Ca w' X p (hwOf c).s (hwOf c).v (fun _ => []) ∧ C.Kp (fun _ => False) X w w') := fun w => by
    have hb := pow2_bits hO.m.S
    rw [eS] at hb
    rw [eS, eV]
    exact C.New_ok _ _ ok.s1 ok.s2 ok.v1 ok.v2 hb w
  have CB : Hid (∀ w : World, Calls Tryz.prog 41 #[.int .i64 (c.C * 16), .int .i64 c.W] w fun e w' => ∃ p X, e = .returned (.tuple #[.pointer (some ⟨p, 0, none⟩), .int .i64 0]) ∧ C.Ca w' X p ((hwOf c).c * 16) (hwOf c).k (fun _ => []) ∧ C.Kp (fun _ => False) X w w') := fun w => by
    have hb : bits .and .i64 (((hwOf c).c * 16 : Nat) : Int) ((((hwOf c).c * 16 : Nat) : Int) - 1) = 0 := by
      have e : (((hwOf c).c * 16 : Nat) : Int) = c.C * 16 := by rw [eC]; push_cast; rfl
      rw [e]
      rcases hO.m.C with e | e | e | e | e <;> rw [e] <;> decide
    have c1 := ok.c1
    have c2 := ok.c2
    have := C.New_ok ((hwOf c).c * 16) (hwOf c).k (by omega) (by omega) ok.k1 ok.k2 hb w
    rw [eW, eC]
    simpa using this
  have HOK : Hid (hwOf c).Ok := ok
  have HES : Hid (c.S = ((hwOf c).s : Int)) := eS
  have HEC : Hid (c.C = ((hwOf c).c : Int)) := eC
  have HCO : Hid (c.k = (hwOf c).co) := rfl
  have hld := HB0.bx.ld
  clear hc hO ok eF eT eZ eS eV eC eW
  go_enter Tryz.func8, Tryz.ntmps8
  go_upto_region 1 with fail
  obtain ⟨W, hW, HB⟩ : ∃ W, (w.alloc (.cells #[.int .i64 c.F, .int .i64 c.C, .int .i64 c.W, .int .i64 c.S, .int .i64 c.V, .int .i64 c.T, .int .u64 c.k.l1, .int .u64 c.k.llc, .int .u64 c.k.mi, .int .u64 c.k.fa, .int .u64 c.k.st, .int .u64 c.k.di, .int .u64 c.sl, .int .u64 c.pd, .int .u64 c.ft, .slice a.ta c.tn a.tc, .slice a.pa c.pn a.pc] 28)) = W ∧ Hid (Cb w W w.heap.size a c) := ⟨_, rfl, HB0⟩
  rw [hW] at hld
  rw [hW]
  clear hW HB0
  go_wp2_with (refine wpList_load_at rfl 28 (.tmp 1) rfl _ _ rfl hld ?_)
  refine (C1.out _ HB.out.ci).mono ?_
  rintro _ w1 ⟨rfl, k1⟩
  have H1 : Hid (Cb w w1 w.heap.size a c) := HB.out.below k1
  clear HB k1 hld C1
  obtain ⟨hlt, c0, c1, c2, c3, c4, c5, c6, c7, c8, c9, c10, c11, c12, c13, c14, c15, c16⟩ := H1.out.bx
  go_wp2_with fail
  have hst0 : Hid (C.Blk (w1.alloc (.cells #[.pointer none, .pointer none, .pointer none, .pointer none, .pointer none, .int .i64 c.S, .int .i64 c.C, .int .u64 c.k.l1, .int .u64 c.k.llc, .int .u64 c.k.mi, .int .u64 c.k.fa, .int .u64 c.k.st, .int .u64 c.k.di, .int .u64 0] 93)) w1.heap.size 93 (cN (hwOf c) none none none none none)) := by
    unfold Hid cN
    rw [← HES.out, ← HEC.out, ← HCO.out]
    exact C.blk_new w1 _ _
  have HSV : Hid (Sev w1 w.heap.size a c) := H1.out.bx
  have hsz := H1.out.be.size
  have HBE : Hid (Below w.heap.size w (w1.alloc (.cells #[.pointer none, .pointer none, .pointer none, .pointer none, .pointer none, .int .i64 c.S, .int .i64 c.C, .int .u64 c.k.l1, .int .u64 c.k.llc, .int .u64 c.k.mi, .int .u64 c.k.fa, .int .u64 c.k.st, .int .u64 c.k.di, .int .u64 0] 93))) := H1.out.be.alloc hsz _
  have HS0 : Hid (Sev (w1.alloc (.cells #[.pointer none, .pointer none, .pointer none, .pointer none, .pointer none, .int .i64 c.S, .int .i64 c.C, .int .u64 c.k.l1, .int .u64 c.k.llc, .int .u64 c.k.mi, .int .u64 c.k.fa, .int .u64 c.k.st, .int .u64 c.k.di, .int .u64 0] 93)) w.heap.size a c) := HSV.out.below ((Below.refl _ _).alloc (Nat.le_refl _) _)
  generalize hwa : (w1.alloc (.cells #[.pointer none, .pointer none, .pointer none, .pointer none, .pointer none, .int .i64 c.S, .int .i64 c.C, .int .u64 c.k.l1, .int .u64 c.k.llc, .int .u64 c.k.mi, .int .u64 c.k.fa, .int .u64 c.k.st, .int .u64 c.k.di, .int .u64 0] 93)) = wa at *
  clear hwa HSV H1 c0 c1 c2 c3 c4 c5 c6 c7 c8 c9 c10 c11 c12 c13 c14 c15 c16
  have hbn : w.heap.size ≠ w1.heap.size := by omega
  have hhb : w.heap.size ≤ w1.heap.size := hsz
  have hhb' := hst0.out.lt
  generalize w1.heap.size = hb at *
  clear hsz hlt
  refine (CF.out _).mono ?_
  rintro e wb ⟨pm, gm, rfl, mB, gB, mB1, mB2⟩
  have M0 : Hid (F.Mem wb pm gm (hwOf c).n (fun _ => 0)) := mB
  have M1 : Hid (wa.grownBy wb none ∧ wa.heap.size ≤ pm ∧ wa.heap.size ≤ gm) := ⟨gB, mB1, mB2⟩
  have S1 : Hid (C.Blk wb hb 93 (cN (hwOf c) none none none none none)) := hst0.out.kept gB (by simp)
  have q0 : wb.cell? ⟨hb, 0, none⟩ = some (.pointer none) := S1.out.cell 0
  have z0 := S1.out.frozen 0
  have SV1 : Hid (Sev (wb.setCell ⟨hb, 0, none⟩ (.pointer (some ⟨pm, 0, none⟩))) w.heap.size a c) := ((Ov.grown gB).trans (Ov.set hb wb 0 _)).sev HS0.out hbn
  have S2 : Hid (C.Blk (wb.setCell ⟨hb, 0, none⟩ (.pointer (some ⟨pm, 0, none⟩))) hb 93 (cN (hwOf c) (some ⟨pm, 0, none⟩) none none none none)) := S1.out.set 0 _
  have O1 : Hid (Ov hb wb (wb.setCell ⟨hb, 0, none⟩ (.pointer (some ⟨pm, 0, none⟩)))) := Ov.set hb wb 0 _
  have c5 := SV1.out.c5
  clear mB gB mB1 mB2 HS0 S1 CF
  go_wp2_with fail
  clear q0 z0 c5
  generalize wb.setCell ⟨hb, 0, none⟩ (.pointer (some ⟨pm, 0, none⟩)) = wc at *
  refine (CT.out _).mono ?_
  rintro e wd ⟨pt, X2, rfl, tD, kD⟩
  have T0 : Hid (T.Ca wd X2 pt (hwOf c).t [] ∧ T.Kp (fun _ => False) X2 wc wd) := ⟨tD, kD⟩
  have S3 : Hid (C.Blk wd hb 93 (cN (hwOf c) (some ⟨pm, 0, none⟩) none none none none)) := S2.out.of_eq (kD.block hb S2.out.lt id)
  have q1 : wd.cell? ⟨hb, 1, none⟩ = some (.pointer none) := S3.out.cell 1
  have z1 := S3.out.frozen 1
  have SV2 : Hid (Sev (wd.setCell ⟨hb, 1, none⟩ (.pointer (some ⟨pt, 0, none⟩))) w.heap.size a c) := ((Ov.kp (kpT kD)).trans (Ov.set hb wd 1 _)).sev SV1.out hbn
  have S4 : Hid (C.Blk (wd.setCell ⟨hb, 1, none⟩ (.pointer (some ⟨pt, 0, none⟩))) hb 93 (cN (hwOf c) (some ⟨pm, 0, none⟩) (some ⟨pt, 0, none⟩) none none none)) := S3.out.set 1 _
  have O2 : Hid (Ov hb wd (wd.setCell ⟨hb, 1, none⟩ (.pointer (some ⟨pt, 0, none⟩)))) := Ov.set hb wd 1 _
  clear tD kD S3 S2 SV1 CT
  go_wp2_with fail
  clear q1 z1
  generalize wd.setCell ⟨hb, 1, none⟩ (.pointer (some ⟨pt, 0, none⟩)) = we at *
  refine (CD.out _).mono ?_
  rintro e wf ⟨pd, bd, rfl, dF, gF, dF1, dF2⟩
  have D0 : Hid (D.Dk wf pd bd (hwOf c).d (fun _ => none)) := dF
  have D1 : Hid (we.grownBy wf none ∧ we.heap.size ≤ pd ∧ we.heap.size ≤ bd) := ⟨gF, dF1, dF2⟩
  have S5 : Hid (C.Blk wf hb 93 (cN (hwOf c) (some ⟨pm, 0, none⟩) (some ⟨pt, 0, none⟩) none none none)) := S4.out.kept gF (by simp)
  have q2 : wf.cell? ⟨hb, 2, none⟩ = some (.pointer none) := S5.out.cell 2
  have z2 := S5.out.frozen 2
  have SV3 : Hid (Sev (wf.setCell ⟨hb, 2, none⟩ (.pointer (some ⟨pd, 0, none⟩))) w.heap.size a c) := ((Ov.grown gF).trans (Ov.set hb wf 2 _)).sev SV2.out hbn
  have S6 : Hid (C.Blk (wf.setCell ⟨hb, 2, none⟩ (.pointer (some ⟨pd, 0, none⟩))) hb 93 (cN (hwOf c) (some ⟨pm, 0, none⟩) (some ⟨pt, 0, none⟩) (some ⟨pd, 0, none⟩) none none)) := S5.out.set 2 _
  have O3 : Hid (Ov hb wf (wf.setCell ⟨hb, 2, none⟩ (.pointer (some ⟨pd, 0, none⟩)))) := Ov.set hb wf 2 _
  have c3 := SV3.out.c3
  have c4 := SV3.out.c4
  clear dF gF dF1 dF2 S4 S5 SV2 CD
  go_wp2_with fail
  clear q2 z2 c3 c4
  generalize wf.setCell ⟨hb, 2, none⟩ (.pointer (some ⟨pd, 0, none⟩)) = wg at *
  refine (CA.out _).mono ?_
  rintro e wh ⟨p1, X4, rfl, aH, kH⟩
  have A0 : Hid (C.Ca wh X4 p1 (hwOf c).s (hwOf c).v (fun _ => []) ∧ C.Kp (fun _ => False) X4 wg wh) := ⟨aH, kH⟩
  have S7 : Hid (C.Blk wh hb 93 (cN (hwOf c) (some ⟨pm, 0, none⟩) (some ⟨pt, 0, none⟩) (some ⟨pd, 0, none⟩) none none)) := S6.out.of_eq (kH.block hb S6.out.lt id)
  have q3 : wh.cell? ⟨hb, 3, none⟩ = some (.pointer none) := S7.out.cell 3
  have z3 := S7.out.frozen 3
  have SV4 : Hid (Sev (wh.setCell ⟨hb, 3, none⟩ (.pointer (some ⟨p1, 0, none⟩))) w.heap.size a c) := ((Ov.kp kH).trans (Ov.set hb wh 3 _)).sev SV3.out hbn
  have S8 : Hid (C.Blk (wh.setCell ⟨hb, 3, none⟩ (.pointer (some ⟨p1, 0, none⟩))) hb 93 (cN (hwOf c) (some ⟨pm, 0, none⟩) (some ⟨pt, 0, none⟩) (some ⟨pd, 0, none⟩) (some ⟨p1, 0, none⟩) none)) := S7.out.set 3 _
  have O4 : Hid (Ov hb wh (wh.setCell ⟨hb, 3, none⟩ (.pointer (some ⟨p1, 0, none⟩)))) := Ov.set hb wh 3 _
  have c1 := SV4.out.c1
  have c2 := SV4.out.c2
  clear aH kH S6 S7 SV3 CA
  go_wp2_with fail
  clear q3 z3 c1 c2
  generalize wh.setCell ⟨hb, 3, none⟩ (.pointer (some ⟨p1, 0, none⟩)) = wi at *
  refine (CB.out _).mono ?_
  rintro e wj ⟨p2, X5, rfl, aJ, kJ⟩
  have B0 : Hid (C.Ca wj X5 p2 ((hwOf c).c * 16) (hwOf c).k (fun _ => []) ∧ C.Kp (fun _ => False) X5 wi wj) := ⟨aJ, kJ⟩
  have S9 : Hid (C.Blk wj hb 93 (cN (hwOf c) (some ⟨pm, 0, none⟩) (some ⟨pt, 0, none⟩) (some ⟨pd, 0, none⟩) (some ⟨p1, 0, none⟩) none)) := S8.out.of_eq (kJ.block hb S8.out.lt id)
  have q4 : wj.cell? ⟨hb, 4, none⟩ = some (.pointer none) := S9.out.cell 4
  have z4 := S9.out.frozen 4
  have FIN : Hid (∃ X, Cr pK (wj.setCell ⟨hb, 4, none⟩ (.pointer (some ⟨p2, 0, none⟩))) X hb (hwOf c) s0 ∧ C.Kp (fun _ => False) X w (wj.setCell ⟨hb, 4, none⟩ (.pointer (some ⟨p2, 0, none⟩)))) :=
    new_core HOK.out HBE.out hhb hhb' M0.out M1.out.1 M1.out.2.1 M1.out.2.2 O1.out T0.out.1 T0.out.2 O2.out D0.out D1.out.1 D1.out.2.1 D1.out.2.2 O3.out A0.out.1 A0.out.2 O4.out B0.out.1 B0.out.2 (Ov.set hb wj 4 _) (S9.out.set 4 _)
  clear aJ kJ S8 S9 SV4 CB O1 O2 O3 O4 T0 D0 D1 A0 B0 M0 M1 HBE
  go_wp2
  go_ret2
  obtain ⟨X, hX⟩ := FIN.out
  exact ⟨hb, X, rfl, hX⟩
end Go.Proofs.YtkbpnkjjmipjfaaGreat.E
