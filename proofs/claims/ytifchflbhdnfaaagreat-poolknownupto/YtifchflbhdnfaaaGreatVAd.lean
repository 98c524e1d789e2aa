/- What adds of the statements gives back: true of every pool; no condition but those that each theorem names. -/
import Derived.Test.YtifchflbhdnfaaaGreatVQo
namespace Go.Proofs.YtifchflbhdnfaaaGreat.P
open Go.ChangeShapes Go.WideShapes Go.ChangeAt Go.RowKit
set_option linter.unusedVariables false
set_option maxRecDepth 8192

/-- The first j together. -/
def sc (v : Nat → Nat) : Nat → Nat
  | 0 => 0
  | j + 1 => sc v j + v j
theorem sc_le {v : Nat → Nat} {B0 : Nat} (h : ∀ i, v i ≤ B0) : ∀ j, sc v j ≤ j * B0
  | 0 => by simp [sc]
  | j + 1 => by
    have := sc_le h j
    have := h j
    rw [sc, Nat.add_mul]
    omega
theorem sc_all {P : Par} {us : Us} (h : Va P us) : sc (cN P us) 7 = P.k * P.N := by
  have := h.tot
  have e0 : cN P us 0 = sf P us P.k := rfl
  have e : ∀ u, u ≠ 0 → cN P us u = cU us u 4096 := fun u hu => if_neg hu
  simp only [sc]
  rw [e0, e 1 (by omega), e 2 (by omega), e 3 (by omega), e 4 (by omega), e 5 (by omega), e 6 (by omega)]
  unfold tU at this
  omega
theorem q_of {c : Cf} (h : c.Ok) {n : Nat} (hn : n < c.pn) {u : Nat} (h2 : 2 ≤ u) (h6 : u ≤ 6) : ((par c n).q u : Int) = qv (c.pf n) u := by
  have r := prn_of h hn
  rcases (show u = 2 ∨ u = 3 ∨ u = 4 ∨ u = 5 ∨ u = 6 by omega) with rfl | rfl | rfl | rfl | rfl
  · exact r.q2
  · exact r.q3
  · exact r.q4
  · exact r.q5
  · exact r.q6
/-- What is read of a frame that is taken. -/
theorem us_at {c : Cf} (h : c.Ok) {n : Nat} (hn : n < c.pn) {us : Us} (hv : Va (par c n) us) {i g : Nat} (hg : (B.us 4096 us)[i]? = some g) :
    (∃ u : Nat, (us g).getD 0 = u ∧ 1 ≤ u ∧ u ≤ 6) ∧ (g : Int) < c.F ∧ ∃ j, j < (c.pf n).n ∧ (c.pf n).f j = (g : Int) % c.C := by
  obtain ⟨u, hu⟩ := us_get hg
  obtain ⟨u1, u6, j, x, hj, hx, rfl⟩ := hv.us1 g u hu
  have hP := par_ok h hn
  have r := prn_of h hn
  have hd := div_frames h.m
  refine ⟨⟨u, by rw [hu]; rfl, u1, u6⟩, ?_, j, hj, ?_⟩
  · have h1 := Nat.mul_le_mul_right (par c n).C (show x + 1 ≤ (par c n).N from hx)
    have h2 := hP.fC j hj
    have h3 : (((par c n).N * (par c n).C : Nat) : Int) = c.F := by rw [Int.natCast_mul, r.N, r.C]; exact hd.2
    rw [Nat.add_mul] at h1
    unfold fm
    omega
  · rw [← r.C, ← Int.natCast_emod, fm_mod (hP.fC j hj), (r.f j hj).1]
theorem us_rise {N : Nat} {m : Us} {i j x y : Nat} (h : i < j) (hx : (B.us N m)[i]? = some x) (hy : (B.us N m)[j]? = some y) : x < y := by
  have hp : (B.us N m).Pairwise (· < ·) := by
    unfold B.us
    exact List.Pairwise.filter _ List.pairwise_lt_range
  obtain ⟨h1, rfl⟩ := List.getElem?_eq_some_iff.1 hx
  obtain ⟨h2, rfl⟩ := List.getElem?_eq_some_iff.1 hy
  exact (List.pairwise_iff_getElem.1 hp) i j h1 h2 h
set_option maxHeartbeats 8000000 in
theorem adds_ok {w : World} {a : Ad} {c : Cf} (hc : Cin w a c) (n : Nat) (hm : may c = true) (hn : n < c.pn) {F : Nat → Prop} {p : Nat} {us : Us} (h : Po w F p (par c n) us) :
    Calls Tryz.prog 22 #[.agg #[.int .i64 c.F, .int .i64 c.C, .int .i64 c.W, .int .i64 c.S, .int .i64 c.V, .int .i64 c.T, .int .u64 c.k.l1, .int .u64 c.k.llc, .int .u64 c.k.mi, .int .u64 c.k.fa, .int .u64 c.k.st, .int .u64 c.k.di, .int .u64 c.sl, .int .u64 c.pd, .int .u64 c.ft, .slice a.ta c.tn a.tc, .slice a.pa c.pn a.pc], .int .i64 n, .pointer (some ⟨p, 0, none⟩)] w (One (.bool true) w) := by
  have HB0 := cb_new hc
  have hO := may_iff.1 hm
  have HO : Hid c.Ok := hO
  have hpl := hc.pl
  have hp1 : (n : Int) < (c.pn : Int) := by omega
  have hp0 : (0 : Int) ≤ (n : Int) := by omega
  have HPo : Hid (∀ W, Below w.heap.size w W → Po W F p (par c n) us) := fun W hW => h.below hW
  have HVa : Hid (Va (par c n) us) := h.va
  have C1 : Hid (∀ w', Cin w' a c → Calls Tryz.prog 29 #[.agg #[.int .i64 c.F, .int .i64 c.C, .int .i64 c.W, .int .i64 c.S, .int .i64 c.V, .int .i64 c.T, .int .u64 c.k.l1, .int .u64 c.k.llc, .int .u64 c.k.mi, .int .u64 c.k.fa, .int .u64 c.k.st, .int .u64 c.k.di, .int .u64 c.sl, .int .u64 c.pd, .int .u64 c.ft, .slice a.ta c.tn a.tc, .slice a.pa c.pn a.pc], .int .i64 n] w' (Ti (((par c n).k * (par c n).N : Nat) : Int) 0 w')) := fun w' h => by
    rw [Int.natCast_mul, (prn_of hO hn).N]
    exact Total_ok h n hm hn
  have hld := HB0.bx.ld
  obtain ⟨P, hP⟩ : ∃ P, par c n = P := ⟨_, rfl⟩
  have HPP : Hid (par c n = P) := hP
  have HPk : Hid P.Ok := by have := par_ok hO hn; rw [hP] at this; exact this
  rw [hP] at HPo HVa C1
  obtain ⟨TN, hTN⟩ : ∃ TN, P.k * P.N = TN := ⟨_, rfl⟩
  rw [hTN] at C1
  have HTN : Hid (P.k * P.N = TN) := hTN
  have hTb : TN ≤ 65536 := by rw [← hTN]; exact Nat.mul_le_mul HPk.out.k2 HPk.out.N2
  clear hc hm hO h hP hTN
  go_enter Tryz.func22, Tryz.ntmps22
  go_upto_region 1 with fail
  obtain ⟨W, hW, HB⟩ : ∃ W, (w.alloc (.cells #[.int .i64 c.F, .int .i64 c.C, .int .i64 c.W, .int .i64 c.S, .int .i64 c.V, .int .i64 c.T, .int .u64 c.k.l1, .int .u64 c.k.llc, .int .u64 c.k.mi, .int .u64 c.k.fa, .int .u64 c.k.st, .int .u64 c.k.di, .int .u64 c.sl, .int .u64 c.pd, .int .u64 c.ft, .slice a.ta c.tn a.tc, .slice a.pa c.pn a.pc] 28)) = W ∧ Hid (Cb w W w.heap.size a c) := ⟨_, rfl, HB0⟩
  rw [hW] at hld
  rw [hW]
  clear hW HB0
  go_wp2_with (refine wpList_load_at rfl 28 (.tmp 3) rfl _ _ rfl hld ?_)
  refine (C1.out _ HB.out.ci).mono ?_
  rintro _ w1 ⟨rfl, k1⟩
  have H1 : Hid (Cb w w1 w.heap.size a c) := HB.out.below k1
  have CC : Hid (Calls _ _ _ _ _) := Counts_p (HPo.out w1 H1.out.be)
  clear HB k1 hld C1
  go_wp2_with fail
  refine CC.out.mono ?_
  rintro _ w2 ⟨rfl, k2⟩
  have H2 : Hid (Cb w w2 w.heap.size a c) := H1.out.below k2
  obtain ⟨cn, hcn⟩ : ∃ cn, cN P us = cn := ⟨_, rfl⟩
  have HCN : Hid (cN P us = cn) := hcn
  have hcb : ∀ u, cn u ≤ 65536 := fun u => by rw [← hcn]; exact cN_le HPk.out us u
  rw [hcn]
  have HC3 : Hid (Cb w (w2.alloc (.cells #[.int .i64 (cn 0 : Nat), .int .i64 (cn 1 : Nat), .int .i64 (cn 2 : Nat), .int .i64 (cn 3 : Nat), .int .i64 (cn 4 : Nat), .int .i64 (cn 5 : Nat), .int .i64 (cn 6 : Nat)] 58)) w.heap.size a c) := H2.out.alloc _
  have HK3 : Hid (∀ u, u < 7 → (w2.alloc (.cells #[.int .i64 (cn 0 : Nat), .int .i64 (cn 1 : Nat), .int .i64 (cn 2 : Nat), .int .i64 (cn 3 : Nat), .int .i64 (cn 4 : Nat), .int .i64 (cn 5 : Nat), .int .i64 (cn 6 : Nat)] 58)).cell? ⟨w2.heap.size, u, none⟩ = some (.int .i64 (cn u : Nat))) := fun u hu => by
    rw [(B.blk_new w2 [.int .i64 (cn 0 : Nat), .int .i64 (cn 1 : Nat), .int .i64 (cn 2 : Nat), .int .i64 (cn 3 : Nat), .int .i64 (cn 4 : Nat), .int .i64 (cn 5 : Nat), .int .i64 (cn 6 : Nat)] 58).cell u]
    rcases (show u = 0 ∨ u = 1 ∨ u = 2 ∨ u = 3 ∨ u = 4 ∨ u = 5 ∨ u = 6 by omega) with rfl | rfl | rfl | rfl | rfl | rfl | rfl <;> rfl
  have HL3 : Hid (w2.heap.size < (w2.alloc (.cells #[.int .i64 (cn 0 : Nat), .int .i64 (cn 1 : Nat), .int .i64 (cn 2 : Nat), .int .i64 (cn 3 : Nat), .int .i64 (cn 4 : Nat), .int .i64 (cn 5 : Nat), .int .i64 (cn 6 : Nat)] 58)).heap.size) := by show _ < _; simp
  clear CC k2 H1 hcn
  go_upto_region 4 with fail
  generalize w2.alloc (.cells #[.int .i64 (cn 0 : Nat), .int .i64 (cn 1 : Nat), .int .i64 (cn 2 : Nat), .int .i64 (cn 3 : Nat), .int .i64 (cn 4 : Nat), .int .i64 (cn 5 : Nat), .int .i64 (cn 6 : Nat)] 58) = w3 at *
  generalize w2.heap.size = gc at *
  clear H2
  obtain ⟨b, off, hq, HEg⟩ := HC3.out.ci.p.at' hn
  have HQ : Hid (a.pa = some ⟨b, off, none⟩) := hq
  have HEG : Hid (Eig w3 b (off + n * 8) (a.ca n) (a.cc n) (c.pf n)) := HEg
  clear hq HEg
  go_wp2
  go_loopw [10, 11] (fun s z wr => ∃ u : Nat, u ≤ 7 ∧ z = .int .u8 u ∧ s = .int .i64 (sc cn u : Nat) ∧ Below w3.heap.size w3 wr) (fun _ z _ => 7 - (B.iv z).toNat)
  case atStart => exact ⟨0, by omega, rfl, rfl, Below.refl _ _⟩
  case round =>
    obtain ⟨u, hu, rfl, rfl, hb⟩ := hrel
    have HBr : Hid (Below w3.heap.size w3 wr) := hb
    have hsb : sc cn u ≤ 7 * 65536 := Nat.le_trans (sc_le hcb u) (Nat.mul_le_mul_right _ hu)
    by_cases hu7 : u < 7
    · have c1 := (hb.cell (p := ⟨gc, u, none⟩) HL3.out).trans (HK3.out u hu7)
      have hcu := hcb u
      have HS : Hid (sc cn (u + 1) = sc cn u + cn u) := rfl
      have i1 : (0 : Int) ≤ (u : Int) := by omega
      have i2 : (u : Int) < 7 := by omega
      clear hb
      by_cases hu2 : 2 ≤ u
      · have hqu : decide (qv (c.pf n) u < (cn u : Int)) = false := by
          have h1 := HVa.out.qu u hu2 (by omega)
          have h2 := q_of HO.out hn hu2 (show u ≤ 6 by omega)
          rw [HPP.out] at h2
          have h3 : cn u = cU us u 4096 := by rw [← HCN.out]; exact if_neg (by omega)
          simp
          omega
        have hg2 : decide ((1 : Int) < (u : Int)) = true := by simp; omega
        have QC : Hid (∀ W, Calls Tryz.prog 24 #[.agg #[.slice (a.ca n) (c.pf n).n (a.cc n), .int .i64 (c.pf n).o, .int .i64 (c.pf n).u, .int .i64 (c.pf n).t, .int .i64 (c.pf n).s, .int .i64 (c.pf n).r, .int .i64 (c.pf n).d, .int .i64 (c.pf n).z], .int .u8 u] W (One (.int .i64 (qv (c.pf n) u)) W)) := fun W => quota_any _ _ _ u hu7
        go_upto_region 8 with fail
        clear c1
        have hF1 : ∀ i : Idx (fun W => Below w3.heap.size w3 W), i.W.cell? ⟨gc, u, none⟩ = some (.int .i64 (cn u : Nat)) := fun i => (i.h.cell (p := ⟨gc, u, none⟩) HL3.out).trans (HK3.out u hu7)
        have hF16 : ∀ i : Idx (fun W => Below w3.heap.size w3 W), i.W.cell? ⟨w.heap.size, 16, none⟩ = some (.slice (some ⟨b, off, none⟩) c.pn a.pc) := fun i => by rw [← HQ.out]; exact (HC3.out.below i.h).bx.c16
        have hE0 : ∀ i : Idx (fun W => Below w3.heap.size w3 W), i.W.cell? ⟨b, off + n * 8, none⟩ = some (.slice (a.ca n) (c.pf n).n (a.cc n)) := fun i => (HEG.out.below i.h).c0
        have hE1 : ∀ i : Idx (fun W => Below w3.heap.size w3 W), i.W.cell? ⟨b, off + n * 8 + 1, none⟩ = some (.int .i64 (c.pf n).o) := fun i => (HEG.out.below i.h).c1
        have hE2 : ∀ i : Idx (fun W => Below w3.heap.size w3 W), i.W.cell? ⟨b, off + n * 8 + 2, none⟩ = some (.int .i64 (c.pf n).u) := fun i => (HEG.out.below i.h).c2
        have hE3 : ∀ i : Idx (fun W => Below w3.heap.size w3 W), i.W.cell? ⟨b, off + n * 8 + 3, none⟩ = some (.int .i64 (c.pf n).t) := fun i => (HEG.out.below i.h).c3
        have hE4 : ∀ i : Idx (fun W => Below w3.heap.size w3 W), i.W.cell? ⟨b, off + n * 8 + 4, none⟩ = some (.int .i64 (c.pf n).s) := fun i => (HEG.out.below i.h).c4
        have hE5 : ∀ i : Idx (fun W => Below w3.heap.size w3 W), i.W.cell? ⟨b, off + n * 8 + 5, none⟩ = some (.int .i64 (c.pf n).r) := fun i => (HEG.out.below i.h).c5
        have hE6 : ∀ i : Idx (fun W => Below w3.heap.size w3 W), i.W.cell? ⟨b, off + n * 8 + 6, none⟩ = some (.int .i64 (c.pf n).d) := fun i => (HEG.out.below i.h).c6
        have hE7 : ∀ i : Idx (fun W => Below w3.heap.size w3 W), i.W.cell? ⟨b, off + n * 8 + 7, none⟩ = some (.int .i64 (c.pf n).z) := fun i => (HEG.out.below i.h).c7
        have hne : Nonempty (Idx (fun W => Below w3.heap.size w3 W)) := ⟨⟨wr, HBr.out⟩⟩
        generalize qv (c.pf n) u = qq at *
        refine wp_region_cls (fun W => Below w3.heap.size w3 W) (by kernel_rfl) (by kernel_rfl) (HBr.out.drew) ?_
        repeat (go_big_quiet_step (first | (go_at_call 24; exact Calls.cls (QC.out _) (fun _ _ h k => h.trans (k.mono h.size)))))
        refine wpQuiet_nil ?_
        rintro w5 ⟨⟨_, hS5⟩, rfl⟩
        have HB5 : Hid (Below w3.heap.size w3 w5) := hS5
        clear hS5 hF1 hF16 hE0 hE1 hE2 hE3 hE4 hE5 hE6 hE7 hne QC
        go_wp2
        go_roundw
        case rel => exact ⟨u + 1, by omega, by go_num, by rw [HS.out]; go_num, HB5.out⟩
        case measure => simp [B.iv]; omega
      · have hg2 : decide ((1 : Int) < (u : Int)) = false := by simp; omega
        go_wp2
        go_big_quiet (fail)
        go_wp2
        go_roundw
        case rel => exact ⟨u + 1, by omega, by go_num, by rw [HS.out]; go_num, HBr.out.trans ((B.below_of (B.grown_drewN wr _ none) _ (Nat.le_refl _) (by simp)).mono HBr.out.size)⟩
        case measure => simp [B.iv]; omega
    · obtain rfl : u = 7 := by omega
      have HSum : Hid (sc cn 7 = TN) := by rw [← HCN.out, sc_all HVa.out]; exact HTN.out
      rw [HSum.out]
      have HWr : Hid (Below w.heap.size w wr) := HC3.out.be.trans (HBr.out.mono HC3.out.be.size)
      have CF : Hid (Calls _ _ _ _ _) := Free_p (HPo.out wr HWr.out)
      clear hb hsb
      go_wp2_with fail
      refine CF.out.mono ?_
      rintro _ w6 ⟨v6, rfl, hI6, hb6⟩
      obtain ⟨va, vc, rfl, hcell⟩ := hI6.cell
      rw [frs_len] at hcell ⊢
      have HC6 : Hid (∀ W, Below w6.heap.size w6 W → ∀ i, i < P.k → ∃ g, va = some ⟨g, 0, none⟩ ∧ W.cell? ⟨g, i, none⟩ = some (.int .i64 (fre P us i))) := fun W hW i hi => by
        obtain ⟨g, h1, h2⟩ := hcell W hW i hi
        exact ⟨g, h1, by rw [h2, frs_getD hi]⟩
      have HB6 : Hid (Below w3.heap.size w3 w6) := HBr.out.trans (hb6.mono HBr.out.size)
      clear CF hI6 hb6 hcell HBr HWr
      have hk1 := HPk.out.k1
      have hk2 := HPk.out.k2
      go_wp2
      go_loopw [12, 52] (fun s z wr => ∃ j : Nat, j ≤ P.k ∧ z = .int .i64 j ∧ s = .int .i64 (sf P us j : Nat) ∧ Below w6.heap.size w6 wr) (fun _ z _ => P.k - (B.iv z).toNat)
      case atStart => exact ⟨0, by omega, rfl, rfl, Below.refl _ _⟩
      case round =>
        obtain ⟨j, hj, rfl, rfl, hb⟩ := hrel
        have HBj : Hid (Below w6.heap.size w6 wr) := hb
        have hsj : sf P us j ≤ 65536 := by
          have h1 := sf_le P us j
          have h2 := Nat.mul_le_mul (show j ≤ 16 by omega) HPk.out.N2
          omega
        by_cases hjk : j < P.k
        · obtain ⟨gv, rfl, c1⟩ := HC6.out wr hb j hjk
          have hfb : fre P us j ≤ 4096 := Nat.le_trans (fre_le P us j) HPk.out.N2
          have HS : Hid (sf P us (j + 1) = sf P us j + fre P us j) := rfl
          have hjI : (j : Int) < (P.k : Int) := by omega
          generalize fre P us j = x at *
          generalize sf P us j = y at *
          clear hb
          go_wp2
          go_roundw
          case rel => exact ⟨j + 1, by omega, by go_num, by rw [HS.out]; go_num, HBj.out⟩
          case measure => simp [B.iv]; omega
        · obtain ⟨K, hK⟩ : ∃ K, P.k = K := ⟨_, rfl⟩
          obtain rfl : K = j := by omega
          have HB7 : Hid (Below w3.heap.size w3 wr) := HB6.out.trans (hb.mono HB6.out.size)
          have HWr : Hid (Below w.heap.size w wr) := HC3.out.be.trans (HB7.out.mono HC3.out.be.size)
          have CO : Hid (Calls _ _ _ _ _) := Owned_p (HPo.out wr HWr.out)
          have HTot : Hid (sf P us K + tU us = TN ∧ cn 0 = sf P us K ∧ (B.us 4096 us).length = tU us) := by
            refine ⟨?_, ?_, us_count (fun g u hg => ⟨(HVa.out.us1 g u hg).1, (HVa.out.us1 g u hg).2.1⟩) 4096⟩
            · rw [← hK, ← HTN.out]; exact HVa.out.tot
            · rw [← HCN.out, ← hK]; rfl
          clear hb HC6 HB6 HBj
          rw [hK]
          go_wp2_with fail
          refine CO.out.mono ?_
          rintro _ w8 ⟨v8, rfl, hO8, hb8⟩
          obtain ⟨oa, oc, rfl, hcell⟩ := hO8.cell
          have HC8 : Hid (∀ W, Below w8.heap.size w8 W → ∀ i x, (B.us 4096 us)[i]? = some x → ∃ g, oa = some ⟨g, 0, none⟩ ∧ W.cell? ⟨g, i * 2, none⟩ = some (.int .i64 (x : Nat)) ∧ W.cell? ⟨g, i * 2 + 1, none⟩ = some (.int .u8 ((us x).getD 0 : Nat))) := fun W hW i x hx => by
            obtain ⟨g, h1, _, h2, h3⟩ := hcell W hW i x hx
            exact ⟨g, h1, h2, h3⟩
          have HB8 : Hid (Below w3.heap.size w3 w8) := HB7.out.trans (hb8.mono HB7.out.size)
          obtain ⟨M, hM⟩ : ∃ M, (B.us 4096 us).length = M := ⟨_, rfl⟩
          have HM : Hid ((B.us 4096 us).length = M) := hM
          rw [hM]
          have hM4 : M ≤ 4096 := by
            have := B.us_len 4096 us
            unfold B.usI at this
            rw [List.length_map] at this
            omega
          clear CO hO8 hb8 hcell HB7 hM HWr
          go_wp2
          go_loopw [16] (fun z wr => ∃ i : Nat, i ≤ M ∧ z = .int .i64 i ∧ Below w8.heap.size w8 wr) (fun z _ => M - (B.iv z).toNat)
          case atStart => exact ⟨0, by omega, rfl, Below.refl _ _⟩
          case round =>
            obtain ⟨i, hi, rfl, hb⟩ := hrel
            have HBi : Hid (Below w8.heap.size w8 wr) := hb
            by_cases hiM : i < M
            · obtain ⟨x, hx⟩ : ∃ x, (B.us 4096 us)[i]? = some x := ⟨_, List.getElem?_eq_getElem (by rw [HM.out]; exact hiM)⟩
              have hva := HVa.out
              rw [← HPP.out] at hva
              obtain ⟨⟨uu, hu1, hu2, hu3⟩, hxF, hcolx⟩ := us_at HO.out hn hva hx
              obtain ⟨gv, hgv, c1, c2⟩ := HC8.out wr hb i x hx
              rw [hu1] at c2
              have HBf : Hid (Below w3.heap.size w3 wr) := HB8.out.trans (hb.mono HB8.out.size)
              have HCb : Hid (Cb w wr w.heap.size a c) := HC3.out.below HBf.out
              have b0 := HCb.out.bx.c0
              have b1 := HCb.out.bx.c1
              have b16 := HCb.out.bx.c16
              rw [HQ.out] at b16
              have e0 := (HEG.out.below HBf.out).c0
              have hC : 1 ≤ c.C ∧ c.C ≤ 16 := by rcases HO.out.m.C with e | e | e | e | e <;> omega
              have hF2 := HO.out.m.F2
              have hmod : (x : Int).tmod c.C = (x : Int) % c.C := Int.tmod_eq_emod_of_nonneg (by omega)
              have CH : Hid (∀ m, Calls Tryz.prog 55 #[.slice (a.ca n) (c.pf n).n (a.cc n), .int .i64 ((x : Int) % c.C)] (wr.drewN m) fun e w' => e = .returned (.bool true) ∧ w' = wr.drewN m) := fun m =>
                has_yes (by have := HPk.out.k2; rw [← HPP.out] at this; exact this) (((HCb.out.ci.p.col hn)).below (B.below_of (B.grown_drewN wr m none) _ (Nat.le_refl _) (by simp))) hcolx
              have hm0 := Int.emod_nonneg (x : Int) (show c.C ≠ 0 by omega)
              have hm1 := Int.emod_lt_of_pos (x : Int) (show 0 < c.C by omega)
              have hC0 : ¬ c.C = 0 := by omega
              have g1 : decide ((x : Int) < 0) = false := by simp
              have g2 : decide (c.F ≤ (x : Int)) = false := by simp; omega
              have g3 : decide ((uu : Int) < 1) = false := by simp; omega
              have g4 : decide ((6 : Int) < (uu : Int)) = false := by simp; omega
              have hiI : (i : Int) < (M : Int) := by omega
              have hx4 : (x : Int) ≤ 4096 := by omega
              by_cases hi0 : 0 < i
              · obtain ⟨k, hk⟩ : ∃ k, i - 1 = k := ⟨_, rfl⟩
                obtain ⟨y, hy⟩ : ∃ y, (B.us 4096 us)[k]? = some y := ⟨_, List.getElem?_eq_getElem (by rw [HM.out]; omega)⟩
                have hyx := us_rise (show k < i by omega) hy hx
                obtain ⟨gv', hgv', c3, _⟩ := HC8.out wr hb k y hy
                rw [hgv] at hgv'
                cases hgv'
                subst hgv
                have g0 : decide ((0 : Int) < (i : Int)) = true := by simp; omega
                have g0' : decide (0 < i) = true := by simp; omega
                have g5 : decide ((x : Int) ≤ (y : Int)) = false := by simp; omega
                have g5' : decide (x ≤ y) = false := by simp; omega
                have hkw : IntKind.i64.wrap ((i : Int) - 1) = (k : Int) := by rw [show (i : Int) - 1 = (k : Int) by omega]; exact IntWalk.i64_in _ (by omega)
                have hkI : (k : Int) < (M : Int) := by omega
                have hkM : k < M := by omega
                generalize (x : Int) % c.C = xm at *
                clear hb HC8 HCb hcolx hva hx hy hu1 hk
                go_upto_region 20 with fail
                conv => arg 2; arg 2; simp only [List.append]
                go_big_quiet ((go_at_call 55; exact Calls.quiet_of_same (CH.out _)))
                go_wp2
                go_roundw
                case rel => exact ⟨i + 1, by omega, by go_num, HBi.out.trans ((B.below_of (B.grown_drewN wr _ none) _ (Nat.le_refl _) (by simp)).mono HBi.out.size)⟩
                case measure => simp [B.iv]; omega
              · obtain rfl : i = 0 := by omega
                subst hgv
                have g0 : decide ((0 : Int) < ((0 : Nat) : Int)) = false := by simp
                generalize (x : Int) % c.C = xm at *
                clear hb HC8 HCb hcolx hva hx hu1 hi0
                rw [show ((0 : Nat) : Int) = 0 from rfl] at *
                rw [Nat.zero_mul] at c1 c2
                go_upto_region 20 with fail
                conv => arg 2; arg 2; simp only [List.append]
                go_big_quiet ((go_at_call 55; exact Calls.quiet_of_same (CH.out _)))
                go_wp2
                go_roundw
                case rel => exact ⟨1, by omega, by go_num, HBi.out.trans ((B.below_of (B.grown_drewN wr _ none) _ (Nat.le_refl _) (by simp)).mono HBi.out.size)⟩
                case measure => simp [B.iv]; omega
            · obtain rfl : i = M := by omega
              obtain ⟨t1, t2, t3⟩ := HTot.out
              have HBf : Hid (Below w3.heap.size w3 wr) := HB8.out.trans (hb.mono HB8.out.size)
              have d0 := (HBf.out.cell (p := ⟨gc, 0, none⟩) HL3.out).trans (HK3.out 0 (by omega))
              have hMt : i = tU us := by rw [← t3, HM.out]
              rw [t2] at d0
              generalize sf P us K = y at *
              generalize tU us = t at *
              subst hMt
              have hsub : IntKind.i64.wrap ((TN : Int) - (y : Int)) = (i : Int) := by rw [show (TN : Int) - (y : Int) = (i : Int) by omega]; exact IntWalk.i64_in _ (by omega)
              have FIN : Hid (Below w.heap.size w wr) := HC3.out.be.trans (HBf.out.mono HC3.out.be.size)
              clear hb HC8 HB8 HBi
              go_wp2
              go_ret
              exact ⟨rfl, FIN.out⟩
end Go.Proofs.YtifchflbhdnfaaaGreat.P
