/- What the document's New gives back; no condition but those named. -/
import Derived.Test.YtokaohlgncmoaaaGreatWJg
namespace Go.Proofs.YtokaohlgncmoaaaGreat.E
open Go.ChangeShapes Go.WideShapes Go.ChangeAt Go.RowKit
set_option linter.unusedVariables false
set_option maxRecDepth 8192

def rN (L : Nat → Value) (h : Hw) (m t d a b : Option Addr) : List Value :=
  [.int .i64 h.n, .int .i64 h.c, L 2, .int .i64 h.s, L 4, L 5, .int .u64 h.co.l1, .int .u64 h.co.llc, .int .u64 h.co.mi, .int .u64 h.co.fa, .int .u64 h.co.st, .int .u64 h.co.di, L 12, L 13, L 14, L 15, L 16,
   .pointer m, .pointer t, .pointer d, .pointer a, .pointer b, .int .u64 0]
theorem new_rcore {L : Nat → Value} {w w9 : World} {h : Hw} {hb pm gm pt pd bd p1 p2 : Nat} {X2 X4 X5 : Nat → Prop} (ok : h.Ok) {wa wb wc wd we wf wg wh wi wj : World}
    (b0 : Below w.heap.size w wa) (hlt : w.heap.size ≤ hb) (hlt' : hb < wa.heap.size)
    (m : F.Mem wb pm gm h.n (fun _ => 0)) (gm' : wa.grownBy wb none) (m1 : wa.heap.size ≤ pm) (m2 : wa.heap.size ≤ gm) (o1 : Ov hb wb wc)
    (t : T.Ca wd X2 pt h.t []) (kt : T.Kp (fun _ => False) X2 wc wd) (o2 : Ov hb wd we)
    (d : D.Rk wf pd bd h.d (fun _ => none) wf.heap.size (List.range we.heap.size)) (gd : we.grownBy wf none) (d1 : we.heap.size ≤ pd) (d2 : we.heap.size ≤ bd) (o3 : Ov hb wf wg)
    (l1 : C.Ca wh X4 p1 h.s h.v (fun _ => [])) (k1 : C.Kp (fun _ => False) X4 wg wh) (o4 : Ov hb wh wi)
    (l2 : C.Ca wj X5 p2 (h.c * 16) h.k (fun _ => [])) (k2 : C.Kp (fun _ => False) X5 wi wj) (o5 : Ov hb wj w9)
    (st : C.Blk w9 hb 89 (rN L h (some ⟨pm, 0, none⟩) (some ⟨pt, 0, none⟩) (some ⟨pd, 0, none⟩) (some ⟨p1, 0, none⟩) (some ⟨p2, 0, none⟩))) :
    ∃ X, Cr (rK L) w9 X hb h s0 ∧ C.Kp (fun _ => False) X w w9 := by
  have n2 := fun k q => ((kpT kt).new k q).resolve_left id
  have n4 := fun k q => (k1.new k q).resolve_left id
  have n5 := fun k q => (k2.new k q).resolve_left id
  have oj : Ov hb wj w9 := o5
  have oi : Ov hb wi w9 := (Ov.kp k2).trans oj
  have oh : Ov hb wh w9 := o4.trans oi
  have og : Ov hb wg w9 := (Ov.kp k1).trans oh
  have of : Ov hb wf w9 := o3.trans og
  have oe : Ov hb we w9 := (Ov.grown gd).trans of
  have od : Ov hb wd w9 := o2.trans oe
  have oc : Ov hb wc w9 := (Ov.kp (kpT kt)).trans od
  have ob : Ov hb wb w9 := o1.trans oc
  have oa : Ov hb wa w9 := (Ov.grown gm').trans ob
  have z1 := gm'.size; have z2 := o1.size; have z3 := kt.size; have z4 := o2.size; have z5 := gd.size; have z6 := o3.size; have z7 := k1.size; have z8 := o4.size; have z9 := k2.size; have z10 := o5.size
  have y1 := m.lt; have y2 := m.by'.1; have y3 := t.lt; have y4 := d.st.lt; have y5 : bd < wf.heap.size := d.g'.1; have y6 := l1.1; have y7 := l2.1
  let G : Nat → Nat → Prop := fun i k => (i = 0 ∧ k = hb) ∨ (i = 1 ∧ (k = pm ∨ k = gm)) ∨ (i = 2 ∧ X2 k) ∨ (i = 3 ∧ we.heap.size ≤ k ∧ k < wf.heap.size) ∨ (i = 4 ∧ X4 k) ∨ (i = 5 ∧ X5 k)
  have g2 : G 2 = X2 := by funext k; simp [G]
  have g4 : G 4 = X4 := by funext k; simp [G]
  have g5 : G 5 = X5 := by funext k; simp [G]
  have rng : ∀ i k, G i k → (i = 0 ∧ k = hb) ∨ (i = 1 ∧ wa.heap.size ≤ k ∧ k < wb.heap.size) ∨ (i = 2 ∧ wc.heap.size ≤ k ∧ k < wd.heap.size) ∨ (i = 3 ∧ we.heap.size ≤ k ∧ k < wf.heap.size) ∨ (i = 4 ∧ wg.heap.size ≤ k ∧ k < wh.heap.size) ∨ (i = 5 ∧ wi.heap.size ≤ k ∧ k < wj.heap.size) := by
    intro i k hg
    rcases hg with ⟨e, q⟩ | ⟨e, q⟩ | ⟨e, q⟩ | ⟨e, q⟩ | ⟨e, q⟩ | ⟨e, q⟩
    · exact Or.inl ⟨e, q⟩
    · exact Or.inr (Or.inl ⟨e, by omega, by omega⟩)
    · exact Or.inr (Or.inr (Or.inl ⟨e, n2 k q, y3 k q⟩))
    · exact Or.inr (Or.inr (Or.inr (Or.inl ⟨e, by omega, by omega⟩)))
    · exact Or.inr (Or.inr (Or.inr (Or.inr (Or.inl ⟨e, n4 k q, y6 k q⟩))))
    · exact Or.inr (Or.inr (Or.inr (Or.inr (Or.inr ⟨e, n5 k q, y7 k q⟩))))
  refine ⟨un G, ⟨G, ⟨hb, pm, gm, pt, pd, bd, p1, p2⟩, ⟨?_, ?_, ok, st, Or.inl ⟨rfl, rfl⟩, m.of_eq ob.size (ob.block _ y1 (by omega)) (ob.block _ y2 (by omega)), Or.inr (Or.inl ⟨rfl, Or.inl rfl⟩), Or.inr (Or.inl ⟨rfl, Or.inr rfl⟩), ?_, ?_, ?_, ?_, by decide, by decide⟩, rfl, rfl⟩, ?_⟩
  · intro i k hg
    rcases rng i k hg with q | q | q | q | q | q <;> omega
  · intro i j k hne hg hg'
    rcases rng i k hg with q | q | q | q | q | q <;> rcases rng j k hg' with r | r | r | r | r | r <;> omega
  · rw [g2]
    exact t.of_eq od.size (fun k q => od.block k (y3 k q) (by have := n2 k q; omega))
  · refine Rs.stay (w := wf) ⟨Or.inr (Or.inr (Or.inr (Or.inl ⟨rfl, d1, y4⟩))), Or.inr (Or.inr (Or.inr (Or.inl ⟨rfl, d2, y5⟩))), _, _, d, fun k hk hn => Or.inr (Or.inr (Or.inr (Or.inl ⟨rfl, ?_, hk⟩)))⟩ of.size (fun k hk => ?_)
    · rw [List.mem_range] at hn; omega
    · rcases rng 3 k hk with q | q | q | q | q | q
      · omega
      · omega
      · omega
      · exact of.block k q.2.2 (by omega)
      · omega
      · omega
  · rw [g4]
    exact l1.of_eq oh.size (fun k q => oh.block k (y6 k q) (by have := n4 k q; omega))
  · rw [g5]
    exact l2.of_eq oj.size (fun k q => oj.block k (y7 k q) (by have := n5 k q; omega))
  · have zb := b0.size
    refine ⟨oa.os.trans b0.os, oa.tape.trans b0.tape, oa.output.trans b0.output, by omega, fun k hk _ => (oa.block k (by omega) (by omega)).trans (b0.block k hk), fun k q => Or.inr ?_⟩
    obtain ⟨i, hg⟩ := q
    rcases rng i k hg with q | q | q | q | q | q <;> omega
def cfL (a : Ad) (c : Cf) (i : Nat) : Value := match i with
  | 2 => .int .i64 c.W
  | 4 => .int .i64 c.V
  | 5 => .int .i64 c.T
  | 12 => .int .u64 c.sl
  | 13 => .int .u64 c.pd
  | 14 => .int .u64 c.ft
  | 15 => .slice a.ta c.tn a.tc
  | _ => .slice a.pa c.pn a.pc
theorem rNew_no {w : World} {a : Ad} {c : Cf} (hc : Cin w a c) (hm : may c = false) : Calls Tryz.prog 7 #[.agg #[.int .i64 c.F, .int .i64 c.C, .int .i64 c.W, .int .i64 c.S, .int .i64 c.V, .int .i64 c.T, .int .u64 c.k.l1, .int .u64 c.k.llc, .int .u64 c.k.mi, .int .u64 c.k.fa, .int .u64 c.k.st, .int .u64 c.k.di, .int .u64 c.sl, .int .u64 c.pd, .int .u64 c.ft, .slice a.ta c.tn a.tc, .slice a.pa c.pn a.pc]] w fun e w' => e = .returned (.tuple #[.pointer none, .int .i64 5]) ∧ Below w.heap.size w w' := by
  have HB0 := cb_new hc
  have C1 : Hid (∀ w', Cin w' a c → Calls Tryz.prog 32 #[.agg #[.int .i64 c.F, .int .i64 c.C, .int .i64 c.W, .int .i64 c.S, .int .i64 c.V, .int .i64 c.T, .int .u64 c.k.l1, .int .u64 c.k.llc, .int .u64 c.k.mi, .int .u64 c.k.fa, .int .u64 c.k.st, .int .u64 c.k.di, .int .u64 c.sl, .int .u64 c.pd, .int .u64 c.ft, .slice a.ta c.tn a.tc, .slice a.pa c.pn a.pc]] w' (One (.bool false) w')) := fun w' h => by rw [← hm]; exact rMay_all h
  have hld := HB0.bx.ld
  clear hc
  go_enter Tryz.func7, Tryz.ntmps7
  go_upto_region 1 with fail
  obtain ⟨W, hW, HB⟩ : ∃ W, (w.alloc (.cells #[.int .i64 c.F, .int .i64 c.C, .int .i64 c.W, .int .i64 c.S, .int .i64 c.V, .int .i64 c.T, .int .u64 c.k.l1, .int .u64 c.k.llc, .int .u64 c.k.mi, .int .u64 c.k.fa, .int .u64 c.k.st, .int .u64 c.k.di, .int .u64 c.sl, .int .u64 c.pd, .int .u64 c.ft, .slice a.ta c.tn a.tc, .slice a.pa c.pn a.pc] 28)) = W ∧ Hid (Cb w W w.heap.size a c) := ⟨_, rfl, HB0⟩
  rw [hW] at hld
  rw [hW]
  clear hW HB0
  go_wp2_with (refine wpList_load_at rfl 28 (.tmp 1) rfl _ _ rfl hld ?_)
  refine (C1.out _ HB.out.ci).mono ?_
  rintro _ w1 ⟨rfl, k1⟩
  have H1 : Hid (Cb w w1 w.heap.size a c) := HB.out.below k1
  clear HB k1 hld C1
  go_wp2
  go_ret2
  exact ⟨rfl, H1.out.be⟩
set_option maxHeartbeats 2000000 in
theorem rNew_ok {w : World} {a : Ad} {c : Cf} (hc : Cin w a c) (hm : may c = true) : Calls Tryz.prog 7 #[.agg #[.int .i64 c.F, .int .i64 c.C, .int .i64 c.W, .int .i64 c.S, .int .i64 c.V, .int .i64 c.T, .int .u64 c.k.l1, .int .u64 c.k.llc, .int .u64 c.k.mi, .int .u64 c.k.fa, .int .u64 c.k.st, .int .u64 c.k.di, .int .u64 c.sl, .int .u64 c.pd, .int .u64 c.ft, .slice a.ta c.tn a.tc, .slice a.pa c.pn a.pc]] w fun e w' => ∃ p X, e = .returned (.tuple #[.pointer (some ⟨p, 0, none⟩), .int .i64 0]) ∧ (∃ L, Cr (rK L) w' X p (hwOf c) s0) ∧ C.Kp (fun _ => False) X w w' := by
  have HB0 := cb_new hc
  have hO := may_iff.1 hm
  have ok := hwOf_ok hO
  have C1 : Hid (∀ w', Cin w' a c → Calls Tryz.prog 33 #[.agg #[.int .i64 c.F, .int .i64 c.C, .int .i64 c.W, .int .i64 c.S, .int .i64 c.V, .int .i64 c.T, .int .u64 c.k.l1, .int .u64 c.k.llc, .int .u64 c.k.mi, .int .u64 c.k.fa, .int .u64 c.k.st, .int .u64 c.k.di, .int .u64 c.sl, .int .u64 c.pd, .int .u64 c.ft, .slice a.ta c.tn a.tc, .slice a.pa c.pn a.pc]] w' (Ti (zs c c.pn) 0 w')) := fun w' h => rSlots_ok h hm
  have CM : Hid (∀ w', Cin w' a c → Calls Tryz.prog 32 #[.agg #[.int .i64 c.F, .int .i64 c.C, .int .i64 c.W, .int .i64 c.S, .int .i64 c.V, .int .i64 c.T, .int .u64 c.k.l1, .int .u64 c.k.llc, .int .u64 c.k.mi, .int .u64 c.k.fa, .int .u64 c.k.st, .int .u64 c.k.di, .int .u64 c.sl, .int .u64 c.pd, .int .u64 c.ft, .slice a.ta c.tn a.tc, .slice a.pa c.pn a.pc]] w' (One (.bool true) w')) := fun w' h => by rw [← hm]; exact rMay_all h
  have CC : Hid (∀ w', Cin w' a c → Calls Tryz.prog 6 #[.agg #[.int .i64 c.F, .int .i64 c.C, .int .i64 c.W, .int .i64 c.S, .int .i64 c.V, .int .i64 c.T, .int .u64 c.k.l1, .int .u64 c.k.llc, .int .u64 c.k.mi, .int .u64 c.k.fa, .int .u64 c.k.st, .int .u64 c.k.di, .int .u64 c.sl, .int .u64 c.pd, .int .u64 c.ft, .slice a.ta c.tn a.tc, .slice a.pa c.pn a.pc]] w' fun e w2 => ∃ a', e = .returned (.agg #[.int .i64 c.F, .int .i64 c.C, .int .i64 c.W, .int .i64 c.S, .int .i64 c.V, .int .i64 c.T, .int .u64 c.k.l1, .int .u64 c.k.llc, .int .u64 c.k.mi, .int .u64 c.k.fa, .int .u64 c.k.st, .int .u64 c.k.di, .int .u64 c.sl, .int .u64 c.pd, .int .u64 c.ft, .slice a'.ta c.tn a'.tc, .slice a'.pa c.pn a'.pc]) ∧ Cpd w' c w2 a') := fun w' h => Copy_any h
  have hC : 1 ≤ c.C ∧ c.C ≤ 16 := by rcases hO.m.C with e | e | e | e | e <;> omega
  have hz := zs_le hO c.pn (Nat.le_refl _)
  have F1 := hO.m.F1; have F2 := hO.m.F2; have S1 := hO.m.S1; have S2 := hO.m.S2; have W1 := hO.m.W1; have W2 := hO.m.W2; have V1 := hO.m.V1; have V2 := hO.m.V2; have T1 := hO.m.T1; have T2 := hO.m.T2
  have eF : c.F = ((hwOf c).n : Int) := by simp only [hwOf]; omega
  have eT : c.T = ((hwOf c).t : Int) := by simp only [hwOf]; omega
  have eZ : zs c c.pn = ((hwOf c).d : Int) := by simp only [hwOf]; omega
  have eS : c.S = ((hwOf c).s : Int) := by simp only [hwOf]; omega
  have eV : c.V = ((hwOf c).v : Int) := by simp only [hwOf]; omega
  have eC : c.C = ((hwOf c).c : Int) := by simp only [hwOf]; omega
  have eW : c.W = ((hwOf c).k : Int) := by simp only [hwOf]; omega
  have CF : Hid (∀ w : World, Calls Tryz.prog 34 #[.int .i64 c.F] w fun e w' => ∃ p g, e = .returned (.tuple #[.pointer (some ⟨p, 0, none⟩), .int .i64 0]) ∧ F.Mem w' p g (hwOf c).n (fun _ => 0) ∧ w.grownBy w' none ∧ w.heap.size ≤ p ∧ w.heap.size ≤ g) := fun w => by rw [eF]; exact F.rNew_ok _ ok.n1 ok.n2 w
  have CT : Hid (∀ w : World, Calls Tryz.prog 35 #[.int .i64 c.T] w fun e w' => ∃ p X, e = .returned (.tuple #[.pointer (some ⟨p, 0, none⟩), .int .i64 0]) ∧ T.Ca w' X p (hwOf c).t [] ∧ T.Kp (fun _ => False) X w w') := fun w => by rw [eT]; exact T.RNew_ok _ ok.t1 ok.t2 w
  have CD : Hid (∀ w : World, Calls Tryz.prog 36 #[.int .i64 (zs c c.pn)] w fun e w' => ∃ p b, e = .returned (.tuple #[.pointer (some ⟨p, 0, none⟩), .int .i64 0]) ∧ D.Rk w' p b (hwOf c).d (fun _ => none) w'.heap.size (List.range w.heap.size) ∧ w.grownBy w' none ∧ w.heap.size ≤ p ∧ w.heap.size ≤ b) := fun w => by rw [eZ]; exact D.rNew_ok _ ok.d2 _ w (fun x hx => by simpa using hx)
  have CA : Hid (∀ w : World, Calls Tryz.prog 37 #[.int .i64 c.S, .int .i64 c.V] w fun e w' => ∃ p X, e = .returned (.tuple #[.pointer (some ⟨p, 0, none⟩), .bool true]) ∧ C.Ca w' X p (hwOf c).s (hwOf c).v (fun _ => []) ∧ C.Kp (fun _ => False) X w w') := fun w => by
    have hb := pow2_bits hO.m.S
    rw [eS] at hb
    rw [eS, eV]
    exact C.rNew_ok _ _ ok.s1 ok.s2 ok.v1 ok.v2 hb w
  have CB : Hid (∀ w : World, Calls Tryz.prog 37 #[.int .i64 (c.C * 16), .int .i64 c.W] w fun e w' => ∃ p X, e = .returned (.tuple #[.pointer (some ⟨p, 0, none⟩), .bool true]) ∧ C.Ca w' X p ((hwOf c).c * 16) (hwOf c).k (fun _ => []) ∧ C.Kp (fun _ => False) X w w') := fun w => by
    have hb : bits .and .i64 (((hwOf c).c * 16 : Nat) : Int) ((((hwOf c).c * 16 : Nat) : Int) - 1) = 0 := by
      have e : (((hwOf c).c * 16 : Nat) : Int) = c.C * 16 := by rw [eC]; push_cast; rfl
      rw [e]
      rcases hO.m.C with e | e | e | e | e <;> rw [e] <;> decide
    have c1 := ok.c1
    have c2 := ok.c2
    have := C.rNew_ok ((hwOf c).c * 16) (hwOf c).k (by omega) (by omega) ok.k1 ok.k2 hb w
    rw [eW, eC]
    simpa using this
  have HOK : Hid (hwOf c).Ok := ok
  have HES : Hid (c.S = ((hwOf c).s : Int)) := eS
  have HEF : Hid (c.F = ((hwOf c).n : Int)) := eF
  have HEC : Hid (c.C = ((hwOf c).c : Int)) := eC
  have HCO : Hid (c.k = (hwOf c).co) := rfl
  have hld := HB0.bx.ld
  clear hc hO ok eF eT eZ eS eV eC eW
  go_enter Tryz.func7, Tryz.ntmps7
  go_upto_region 1 with fail
  obtain ⟨W, hW, HB⟩ : ∃ W, (w.alloc (.cells #[.int .i64 c.F, .int .i64 c.C, .int .i64 c.W, .int .i64 c.S, .int .i64 c.V, .int .i64 c.T, .int .u64 c.k.l1, .int .u64 c.k.llc, .int .u64 c.k.mi, .int .u64 c.k.fa, .int .u64 c.k.st, .int .u64 c.k.di, .int .u64 c.sl, .int .u64 c.pd, .int .u64 c.ft, .slice a.ta c.tn a.tc, .slice a.pa c.pn a.pc] 28)) = W ∧ Hid (Cb w W w.heap.size a c) := ⟨_, rfl, HB0⟩
  rw [hW] at hld
  rw [hW]
  clear hW HB0
  go_wp2_with (refine wpList_load_at rfl 28 (.tmp 1) rfl _ _ rfl hld ?_)
  refine (CM.out _ HB.out.ci).mono ?_
  rintro _ w0 ⟨rfl, k0⟩
  have H0 : Hid (Cb w w0 w.heap.size a c) := HB.out.below k0
  clear HB k0 hld CM
  have hld := H0.out.bx.ld
  go_wp2_with (refine wpList_load_at rfl 28 (.tmp 1) rfl _ _ rfl hld ?_)
  refine (CC.out _ H0.out.ci).mono ?_
  rintro _ w1 ⟨a2, rfl, hcp⟩
  have H1 : Hid (Cb w w1 w.heap.size a c) := H0.out.below hcp.be
  clear H0 hcp hld CC
  have hst00 : Hid (C.Blk (w1.alloc (.cells #[.int .i64 c.F, .int .i64 c.C, .int .i64 c.W, .int .i64 c.S, .int .i64 c.V, .int .i64 c.T, .int .u64 c.k.l1, .int .u64 c.k.llc, .int .u64 c.k.mi, .int .u64 c.k.fa, .int .u64 c.k.st, .int .u64 c.k.di, .int .u64 c.sl, .int .u64 c.pd, .int .u64 c.ft, .slice a2.ta c.tn a2.tc, .slice a2.pa c.pn a2.pc, .pointer none, .pointer none, .pointer none, .pointer none, .pointer none, .int .u64 0] 89)) w1.heap.size 89 (rN (cfL a2 c) (hwOf c) none none none none none)) := by
    unfold Hid rN cfL
    simp only
    rw [← HES.out, ← HEC.out, ← HCO.out, ← HEF.out]
    exact C.blk_new w1 _ _
  have hsz := H1.out.be.size
  have HBE0 : Hid (Cb w (w1.alloc (.cells #[.int .i64 c.F, .int .i64 c.C, .int .i64 c.W, .int .i64 c.S, .int .i64 c.V, .int .i64 c.T, .int .u64 c.k.l1, .int .u64 c.k.llc, .int .u64 c.k.mi, .int .u64 c.k.fa, .int .u64 c.k.st, .int .u64 c.k.di, .int .u64 c.sl, .int .u64 c.pd, .int .u64 c.ft, .slice a2.ta c.tn a2.tc, .slice a2.pa c.pn a2.pc, .pointer none, .pointer none, .pointer none, .pointer none, .pointer none, .int .u64 0] 89)) w.heap.size a c) := H1.out.below ((Below.refl _ _).alloc (Nat.le_refl _) _)
  have hld := HBE0.out.bx.ld
  go_wp2_with (refine wpList_load_at rfl 28 (.tmp 1) rfl _ _ rfl hld ?_)
  generalize hwa : (w1.alloc (.cells #[.int .i64 c.F, .int .i64 c.C, .int .i64 c.W, .int .i64 c.S, .int .i64 c.V, .int .i64 c.T, .int .u64 c.k.l1, .int .u64 c.k.llc, .int .u64 c.k.mi, .int .u64 c.k.fa, .int .u64 c.k.st, .int .u64 c.k.di, .int .u64 c.sl, .int .u64 c.pd, .int .u64 c.ft, .slice a2.ta c.tn a2.tc, .slice a2.pa c.pn a2.pc, .pointer none, .pointer none, .pointer none, .pointer none, .pointer none, .int .u64 0] 89)) = w2 at *
  refine (C1.out _ HBE0.out.ci).mono ?_
  rintro _ wa ⟨rfl, ka⟩
  have hst0 : Hid (C.Blk wa w1.heap.size 89 (rN (cfL a2 c) (hwOf c) none none none none none)) := hst00.out.of_eq (ka.block _ hst00.out.lt)
  have HCa : Hid (Cb w wa w.heap.size a c) := HBE0.out.below ka
  have HBE : Hid (Below w.heap.size w wa) := HCa.out.be
  have HS0 : Hid (Sev wa w.heap.size a c) := HCa.out.bx
  have hlt := H1.out.bx.lt
  clear hwa hst00 HBE0 H1 hld C1 ka HCa
  have hbn : w.heap.size ≠ w1.heap.size := by omega
  have hhb : w.heap.size ≤ w1.heap.size := hsz
  have hhb' := hst0.out.lt
  generalize w1.heap.size = hb at *
  clear hsz hlt
  have c0 := HS0.out.c0
  go_wp2_with fail
  clear c0
  refine (CF.out _).mono ?_
  rintro e wb ⟨pm, gm, rfl, mB, gB, mB1, mB2⟩
  have M0 : Hid (F.Mem wb pm gm (hwOf c).n (fun _ => 0)) := mB
  have M1 : Hid (wa.grownBy wb none ∧ wa.heap.size ≤ pm ∧ wa.heap.size ≤ gm) := ⟨gB, mB1, mB2⟩
  have S1 : Hid (C.Blk wb hb 89 (rN (cfL a2 c) (hwOf c) none none none none none)) := hst0.out.kept gB (by simp)
  have q0 : wb.cell? ⟨hb, 17, none⟩ = some (.pointer none) := S1.out.cell 17
  have z0 := S1.out.frozen 17
  have SV1 : Hid (Sev (wb.setCell ⟨hb, 17, none⟩ (.pointer (some ⟨pm, 0, none⟩))) w.heap.size a c) := ((Ov.grown gB).trans (Ov.set hb wb 17 _)).sev HS0.out hbn
  have S2 : Hid (C.Blk (wb.setCell ⟨hb, 17, none⟩ (.pointer (some ⟨pm, 0, none⟩))) hb 89 (rN (cfL a2 c) (hwOf c) (some ⟨pm, 0, none⟩) none none none none)) := S1.out.set 17 _
  have O1 : Hid (Ov hb wb (wb.setCell ⟨hb, 17, none⟩ (.pointer (some ⟨pm, 0, none⟩)))) := Ov.set hb wb 17 _
  have c5 := SV1.out.c5
  clear mB gB mB1 mB2 HS0 S1 CF
  go_wp2_with fail
  clear q0 z0 c5
  generalize wb.setCell ⟨hb, 17, none⟩ (.pointer (some ⟨pm, 0, none⟩)) = wc at *
  refine (CT.out _).mono ?_
  rintro e wd ⟨pt, X2, rfl, tD, kD⟩
  have T0 : Hid (T.Ca wd X2 pt (hwOf c).t [] ∧ T.Kp (fun _ => False) X2 wc wd) := ⟨tD, kD⟩
  have S3 : Hid (C.Blk wd hb 89 (rN (cfL a2 c) (hwOf c) (some ⟨pm, 0, none⟩) none none none none)) := S2.out.of_eq (kD.block hb S2.out.lt id)
  have q1 : wd.cell? ⟨hb, 18, none⟩ = some (.pointer none) := S3.out.cell 18
  have z1 := S3.out.frozen 18
  have SV2 : Hid (Sev (wd.setCell ⟨hb, 18, none⟩ (.pointer (some ⟨pt, 0, none⟩))) w.heap.size a c) := ((Ov.kp (kpT kD)).trans (Ov.set hb wd 18 _)).sev SV1.out hbn
  have S4 : Hid (C.Blk (wd.setCell ⟨hb, 18, none⟩ (.pointer (some ⟨pt, 0, none⟩))) hb 89 (rN (cfL a2 c) (hwOf c) (some ⟨pm, 0, none⟩) (some ⟨pt, 0, none⟩) none none none)) := S3.out.set 18 _
  have O2 : Hid (Ov hb wd (wd.setCell ⟨hb, 18, none⟩ (.pointer (some ⟨pt, 0, none⟩)))) := Ov.set hb wd 18 _
  clear tD kD S3 S2 SV1 CT
  go_wp2_with fail
  clear q1 z1
  generalize wd.setCell ⟨hb, 18, none⟩ (.pointer (some ⟨pt, 0, none⟩)) = we at *
  refine (CD.out _).mono ?_
  rintro e wf ⟨pd, bd, rfl, dF, gF, dF1, dF2⟩
  have D0 : Hid (D.Rk wf pd bd (hwOf c).d (fun _ => none) wf.heap.size (List.range we.heap.size)) := dF
  have D1 : Hid (we.grownBy wf none ∧ we.heap.size ≤ pd ∧ we.heap.size ≤ bd) := ⟨gF, dF1, dF2⟩
  have S5 : Hid (C.Blk wf hb 89 (rN (cfL a2 c) (hwOf c) (some ⟨pm, 0, none⟩) (some ⟨pt, 0, none⟩) none none none)) := S4.out.kept gF (by simp)
  have q2 : wf.cell? ⟨hb, 19, none⟩ = some (.pointer none) := S5.out.cell 19
  have z2 := S5.out.frozen 19
  have SV3 : Hid (Sev (wf.setCell ⟨hb, 19, none⟩ (.pointer (some ⟨pd, 0, none⟩))) w.heap.size a c) := ((Ov.grown gF).trans (Ov.set hb wf 19 _)).sev SV2.out hbn
  have S6 : Hid (C.Blk (wf.setCell ⟨hb, 19, none⟩ (.pointer (some ⟨pd, 0, none⟩))) hb 89 (rN (cfL a2 c) (hwOf c) (some ⟨pm, 0, none⟩) (some ⟨pt, 0, none⟩) (some ⟨pd, 0, none⟩) none none)) := S5.out.set 19 _
  have O3 : Hid (Ov hb wf (wf.setCell ⟨hb, 19, none⟩ (.pointer (some ⟨pd, 0, none⟩)))) := Ov.set hb wf 19 _
  have c3 := SV3.out.c3
  have c4 := SV3.out.c4
  clear dF gF dF1 dF2 S4 S5 SV2 CD
  go_wp2_with fail
  clear q2 z2 c3 c4
  generalize wf.setCell ⟨hb, 19, none⟩ (.pointer (some ⟨pd, 0, none⟩)) = wg at *
  refine (CA.out _).mono ?_
  rintro e wh ⟨p1, X4, rfl, aH, kH⟩
  have A0 : Hid (C.Ca wh X4 p1 (hwOf c).s (hwOf c).v (fun _ => []) ∧ C.Kp (fun _ => False) X4 wg wh) := ⟨aH, kH⟩
  have S7 : Hid (C.Blk wh hb 89 (rN (cfL a2 c) (hwOf c) (some ⟨pm, 0, none⟩) (some ⟨pt, 0, none⟩) (some ⟨pd, 0, none⟩) none none)) := S6.out.of_eq (kH.block hb S6.out.lt id)
  have q3 : wh.cell? ⟨hb, 20, none⟩ = some (.pointer none) := S7.out.cell 20
  have z3 := S7.out.frozen 20
  have SV4 : Hid (Sev (wh.setCell ⟨hb, 20, none⟩ (.pointer (some ⟨p1, 0, none⟩))) w.heap.size a c) := ((Ov.kp kH).trans (Ov.set hb wh 20 _)).sev SV3.out hbn
  have S8 : Hid (C.Blk (wh.setCell ⟨hb, 20, none⟩ (.pointer (some ⟨p1, 0, none⟩))) hb 89 (rN (cfL a2 c) (hwOf c) (some ⟨pm, 0, none⟩) (some ⟨pt, 0, none⟩) (some ⟨pd, 0, none⟩) (some ⟨p1, 0, none⟩) none)) := S7.out.set 20 _
  have O4 : Hid (Ov hb wh (wh.setCell ⟨hb, 20, none⟩ (.pointer (some ⟨p1, 0, none⟩)))) := Ov.set hb wh 20 _
  have c1 := SV4.out.c1
  have c2 := SV4.out.c2
  clear aH kH S6 S7 SV3 CA
  go_wp2_with fail
  clear q3 z3 c1 c2
  generalize wh.setCell ⟨hb, 20, none⟩ (.pointer (some ⟨p1, 0, none⟩)) = wi at *
  refine (CB.out _).mono ?_
  rintro e wj ⟨p2, X5, rfl, aJ, kJ⟩
  have B0 : Hid (C.Ca wj X5 p2 ((hwOf c).c * 16) (hwOf c).k (fun _ => []) ∧ C.Kp (fun _ => False) X5 wi wj) := ⟨aJ, kJ⟩
  have S9 : Hid (C.Blk wj hb 89 (rN (cfL a2 c) (hwOf c) (some ⟨pm, 0, none⟩) (some ⟨pt, 0, none⟩) (some ⟨pd, 0, none⟩) (some ⟨p1, 0, none⟩) none)) := S8.out.of_eq (kJ.block hb S8.out.lt id)
  have q4 : wj.cell? ⟨hb, 21, none⟩ = some (.pointer none) := S9.out.cell 21
  have z4 := S9.out.frozen 21
  have FIN : Hid (∃ X, Cr (rK (cfL a2 c)) (wj.setCell ⟨hb, 21, none⟩ (.pointer (some ⟨p2, 0, none⟩))) X hb (hwOf c) s0 ∧ C.Kp (fun _ => False) X w (wj.setCell ⟨hb, 21, none⟩ (.pointer (some ⟨p2, 0, none⟩)))) :=
    new_rcore HOK.out HBE.out hhb hhb' M0.out M1.out.1 M1.out.2.1 M1.out.2.2 O1.out T0.out.1 T0.out.2 O2.out D0.out D1.out.1 D1.out.2.1 D1.out.2.2 O3.out A0.out.1 A0.out.2 O4.out B0.out.1 B0.out.2 (Ov.set hb wj 21 _) (S9.out.set 21 _)
  clear aJ kJ S8 S9 SV4 CB O1 O2 O3 O4 T0 D0 D1 A0 B0 M0 M1 HBE
  go_wp2
  go_ret2
  obtain ⟨X, hX1, hX2⟩ := FIN.out
  exact ⟨hb, X, rfl, ⟨_, hX1⟩, hX2⟩
end Go.Proofs.YtokaohlgncmoaaaGreat.E
