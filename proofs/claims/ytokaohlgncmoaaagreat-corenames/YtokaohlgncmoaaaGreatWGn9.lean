/- The statement's 'beside': a call of a part's own is answered alike by both, and leaves both alike; no condition but those named. -/
import Derived.Test.YtokaohlgncmoaaaGreatWJl
import Derived.Test.YtokaohlgncmoaaaGreatWHe
import Derived.Deep.QuietTactic
import Derived.Deep.RegionHeld3
namespace Go.Proofs.YtokaohlgncmoaaaGreat.E
open Go.ChangeShapes Go.WideShapes Go.ChangeAt Go.RowKit
set_option linter.unusedVariables false
set_option linter.unusedSimpArgs false
set_option maxRecDepth 100000
set_option maxHeartbeats 4000000 in
theorem beside9z {Z : Nat → Prop} {w : World} {p q : Nat} {L : Nat → Value} {h : Hw} {s : Sc} {x : Dx} (K : Bo Z w p q L h s s) (d : Din Z w x) (hr : x.k % 11 = 9) (hy : x.ln = 0) :
    Calls Tryz.prog 10 #[.pointer (some ⟨p, 0, none⟩), .pointer (some ⟨q, 0, none⟩), .agg #[.int .i64 x.k, .slice x.la x.ln x.lc, .int .i64 x.f, .int .i64 x.g, .slice x.ba x.bn x.bc, .int .u64 x.n, .int .i64 x.t.a, .int .i64 x.t.p, .int .i64 x.t.f, .bool x.t.r, .bool x.t.w, .bool x.t.d]] w (Lv Z w p q L h) := by
  have G0 : Hid (Go0 _ _ _ _ _ _ _ _ _ _ _) := Go0.box K d
  have hx : x.ce.toArray = #[.int .i64 x.k, .slice x.la x.ln x.lc, .int .i64 x.f, .int .i64 x.g, .slice x.ba x.bn x.bc, .int .u64 x.n, .int .i64 x.t.a, .int .i64 x.t.p, .int .i64 x.t.f, .bool x.t.r, .bool x.t.w, .bool x.t.d] := rfl
  rw [hx] at G0
  clear hx
  have CK : Hid (∀ W, Calls Tryz.prog 39 #[.int .i64 x.k, .int .i64 11] W fun e w' => e = .returned (.int .i64 (x.k % 11)) ∧ w' = W) := fun W => Within_any x.k 11 (by omega) (by omega) d.k0 d.k1 W
  clear K d
  have HHY : Hid (x.ln = 0) := hy
  clear hy
  go_enter Tryz.func10, Tryz.ntmps10
  go_upto_region 1 with fail
  generalize w.alloc (.cells #[.int .i64 x.k, .slice x.la x.ln x.lc, .int .i64 x.f, .int .i64 x.g, .slice x.ba x.bn x.bc, .int .u64 x.n, .int .i64 x.t.a, .int .i64 x.t.p, .int .i64 x.t.f, .bool x.t.r, .bool x.t.w, .bool x.t.d] 45) = W0 at *
  generalize w.heap.size = b0 at *
  obtain ⟨Q, hQ⟩ : ∃ Q, Q = (fun k => Z k ∨ (b0 ≤ k ∧ k < W0.heap.size)) := ⟨_, rfl⟩
  rw [← hQ] at G0
  clear hQ
  have d0 : W0.cell? ⟨b0, 0, none⟩ = _ := G0.out.r.bx.cell 0
  simp only [Dx.ce, List.getElem?_cons_zero] at d0
  go_wp2_with fail
  refine (CK.out _).mono ?_
  rintro e w' ⟨rfl, hw'⟩
  obtain rfl := hw'.symm
  rw [hr]
  clear CK d0
  obtain ⟨pm, pt, pd, qm, qt, qd, hP⟩ := G0.out.bo.pts
  have HPT : Hid (∀ W, Kz (Zp Q p q) W0 W → Pts W p q pm pt pd qm qt qd) := fun W k => hP.kz k
  have HZ : Hid (∀ W, Below W0.heap.size W0 W → Kz (Zp Q p q) W0 W) := fun W b => Kz.of_below b G0.out.bo.zp
  have HLV : Hid (∀ s' W W', Bo Q W p q L h s' s' → Kz (Zp Q p q) W0 W → Below W.heap.size W W' → Lv Z w p q L h (.returned (.bool true)) W') := fun s' W W' b k l => G0.out.lv (b.below l) ((k.less (fun _ z => Or.inl z)).trans (Kz.of_below l b.z))
  have HBX : Hid (∀ W, Kz (Zp Q p q) W0 W → Rdy Q W b0 x) := fun W k => G0.out.r.kz (k.less (fun _ z => Or.inl z))
  clear hP
  have e1 : W0.cell? ⟨b0, 1, none⟩ = some (.slice x.la 0 x.lc) := by
    have := (HBX.out W0 (HZ.out _ (Below.refl _ _))).bx.cell 1
    rw [this]
    simp [Dx.ce, HHY.out]
  have FI : Hid (Lv Z w p q L h (.returned (.bool true)) W0) := HLV.out _ W0 W0 G0.out.bo (HZ.out _ (Below.refl _ _)) (Below.refl _ _)
  clear G0 HLV HBX HPT hr HHY
  go_wp2
  go_ret
  exact FI.out
set_option maxHeartbeats 4000000 in
theorem beside9s {Z : Nat → Prop} {w : World} {p q : Nat} {L : Nat → Value} {h : Hw} {s : Sc} {x : Dx} (K : Bo Z w p q L h s s) (d : Din Z w x) (hr : x.k % 11 = 9) (hy : ¬ x.ln = 0) :
    Calls Tryz.prog 10 #[.pointer (some ⟨p, 0, none⟩), .pointer (some ⟨q, 0, none⟩), .agg #[.int .i64 x.k, .slice x.la x.ln x.lc, .int .i64 x.f, .int .i64 x.g, .slice x.ba x.bn x.bc, .int .u64 x.n, .int .i64 x.t.a, .int .i64 x.t.p, .int .i64 x.t.f, .bool x.t.r, .bool x.t.w, .bool x.t.d]] w (Lv Z w p q L h) := by
  have G0 : Hid (Go0 _ _ _ _ _ _ _ _ _ _ _) := Go0.box K d
  have hx : x.ce.toArray = #[.int .i64 x.k, .slice x.la x.ln x.lc, .int .i64 x.f, .int .i64 x.g, .slice x.ba x.bn x.bc, .int .u64 x.n, .int .i64 x.t.a, .int .i64 x.t.p, .int .i64 x.t.f, .bool x.t.r, .bool x.t.w, .bool x.t.d] := rfl
  rw [hx] at G0
  clear hx
  have CK : Hid (∀ W, Calls Tryz.prog 39 #[.int .i64 x.k, .int .i64 11] W fun e w' => e = .returned (.int .i64 (x.k % 11)) ∧ w' = W) := fun W => Within_any x.k 11 (by omega) (by omega) d.k0 d.k1 W
  clear K d
  have HHY : Hid (¬ x.ln = 0) := hy
  clear hy
  go_enter Tryz.func10, Tryz.ntmps10
  go_upto_region 1 with fail
  generalize w.alloc (.cells #[.int .i64 x.k, .slice x.la x.ln x.lc, .int .i64 x.f, .int .i64 x.g, .slice x.ba x.bn x.bc, .int .u64 x.n, .int .i64 x.t.a, .int .i64 x.t.p, .int .i64 x.t.f, .bool x.t.r, .bool x.t.w, .bool x.t.d] 45) = W0 at *
  generalize w.heap.size = b0 at *
  obtain ⟨Q, hQ⟩ : ∃ Q, Q = (fun k => Z k ∨ (b0 ≤ k ∧ k < W0.heap.size)) := ⟨_, rfl⟩
  rw [← hQ] at G0
  clear hQ
  have d0 : W0.cell? ⟨b0, 0, none⟩ = _ := G0.out.r.bx.cell 0
  simp only [Dx.ce, List.getElem?_cons_zero] at d0
  go_wp2_with fail
  refine (CK.out _).mono ?_
  rintro e w' ⟨rfl, hw'⟩
  obtain rfl := hw'.symm
  rw [hr]
  clear CK d0
  obtain ⟨pm, pt, pd, qm, qt, qd, hP⟩ := G0.out.bo.pts
  have HPT : Hid (∀ W, Kz (Zp Q p q) W0 W → Pts W p q pm pt pd qm qt qd) := fun W k => hP.kz k
  have HZ : Hid (∀ W, Below W0.heap.size W0 W → Kz (Zp Q p q) W0 W) := fun W b => Kz.of_below b G0.out.bo.zp
  have HLV : Hid (∀ s' W W', Bo Q W p q L h s' s' → Kz (Zp Q p q) W0 W → Below W.heap.size W W' → Lv Z w p q L h (.returned (.bool true)) W') := fun s' W W' b k l => G0.out.lv (b.below l) ((k.less (fun _ z => Or.inl z)).trans (Kz.of_below l b.z))
  have HBX : Hid (∀ W, Kz (Zp Q p q) W0 W → Rdy Q W b0 x) := fun W k => G0.out.r.kz (k.less (fun _ z => Or.inl z))
  clear hP
  have D0 := G0.out.r.d
  have hf0 := D0.hf 0 (by have := HHY.out; omega)
  have hzl := D0.hl
  have HNN : Hid (0 < x.ln) := by have := HHY.out; unfold Hid; omega
  obtain ⟨lb, lo, hla, _⟩ := D0.al.resolve_left HHY.out
  have HLA : Hid (∀ W, Kz (Zp Q p q) W0 W → W.cell? ⟨lb, lo, none⟩ = some (.int .u64 (x.lf 0 : Nat))) := fun W k => by
    obtain ⟨b, o, e, _, hc⟩ := (HBX.out W k).d.al.resolve_left HHY.out
    rw [hla] at e
    cases e
    exact hc 0 HNN.out
  have HSS : Hid (∀ s t W, Bo Q W p q L h s t → Kz (Zp Q p q) W0 W → ∀ W', Below W.heap.size W W' → Calls Tryz.prog 50 #[.pointer (some ⟨pm, 0, none⟩), .int .u64 (x.lf 0 : Nat), .int .i64 x.f, .int .u64 x.n] W' fun e w' => e = .returned (.int .i64 (F.runE h.n (x.lf 0 : Nat) x.f)) ∧ Bo Q w' p q L h (stS h s (x.lf 0) x.f x.n) t ∧ Kz (Zp Q p q) W0 w') := fun s t W b k W' l =>
    ((b.below l).store (HPT.out W' (k.trans (Kz.of_below l b.zp))).m (x.lf 0) x.f x.n hf0 D0.f0 D0.f1 D0.n0 D0.n1).mono fun e w' ⟨he, hB, hK⟩ => ⟨he, hB, (k.trans (Kz.of_below l b.zp)).trans hK⟩
  have HSR : Hid (∀ s t W, Bo Q W p q L h s t → Kz (Zp Q p q) W0 W → ∀ W', Below W.heap.size W W' → Calls Tryz.prog 51 #[.pointer (some ⟨qm, 0, none⟩), .int .u64 (x.lf 0 : Nat), .int .i64 x.f, .int .u64 x.n] W' fun e w' => e = .returned (.int .i64 (F.runE h.n (x.lf 0 : Nat) x.f)) ∧ Bo Q w' p q L h s (stS h t (x.lf 0) x.f x.n) ∧ Kz (Zp Q p q) W0 w') := fun s t W b k W' l =>
    ((b.below l).rstore (HPT.out W' (k.trans (Kz.of_below l b.zp))).rm (x.lf 0) x.f x.n hf0 D0.f0 D0.f1 D0.n0 D0.n1).mono fun e w' ⟨he, hB, hK⟩ => ⟨he, hB, (k.trans (Kz.of_below l b.zp)).trans hK⟩
  have HLS : Hid (∀ s t W, Bo Q W p q L h s t → Kz (Zp Q p q) W0 W → ∀ W', Below W.heap.size W W' → Calls Tryz.prog 18 #[.pointer (some ⟨pm, 0, none⟩), .int .u64 (x.lf 0 : Nat), .int .i64 8] W' fun e w' => e = .returned (.tuple #[.int .u64 (ldV h s (x.lf 0)), .int .i64 (F.runE h.n (x.lf 0 : Nat) 8)]) ∧ Bo Q w' p q L h s t ∧ Kz (Zp Q p q) W0 w') := fun s t W b k W' l =>
    ((b.below l).load (HPT.out W' (k.trans (Kz.of_below l b.zp))).m (x.lf 0) hf0).mono fun e w' ⟨he, hw⟩ => ⟨he, by subst hw; exact b.below l, by subst hw; exact k.trans (Kz.of_below l b.zp)⟩
  have HLR : Hid (∀ s t W, Bo Q W p q L h s t → Kz (Zp Q p q) W0 W → ∀ W', Below W.heap.size W W' → Calls Tryz.prog 52 #[.pointer (some ⟨qm, 0, none⟩), .int .u64 (x.lf 0 : Nat), .int .i64 8] W' fun e w' => e = .returned (.tuple #[.int .u64 (ldV h t (x.lf 0)), .int .i64 (F.runE h.n (x.lf 0 : Nat) 8)]) ∧ Bo Q w' p q L h s t ∧ Kz (Zp Q p q) W0 w') := fun s t W b k W' l =>
    ((b.below l).rload (HPT.out W' (k.trans (Kz.of_below l b.zp))).rm (x.lf 0) hf0).mono fun e w' ⟨he, hw⟩ => ⟨he, by subst hw; exact b.below l, by subst hw; exact k.trans (Kz.of_below l b.zp)⟩
  have CE : Hid (∀ W, Kz (Zp Q p q) W0 W → (W.cell? ⟨b0, 1, none⟩ = some (.slice (some ⟨lb, lo, none⟩) x.ln x.lc) ∧ W.cell? ⟨b0, 2, none⟩ = some (.int .i64 x.f) ∧ W.cell? ⟨b0, 5, none⟩ = some (.int .u64 x.n) ∧ W.cell? ⟨lb, lo, none⟩ = some (.int .u64 (x.lf 0 : Nat)) ∧ W.cell? ⟨p, 0, none⟩ = some (.pointer (some ⟨pm, 0, none⟩)) ∧ W.cell? ⟨q, 17, none⟩ = some (.pointer (some ⟨qm, 0, none⟩)))) := fun W k => ⟨by rw [← hla]; exact (HBX.out W k).bx.cell 1, (HBX.out W k).bx.cell 2, (HBX.out W k).bx.cell 5, HLA.out W k, (HPT.out W k).m, (HPT.out W k).rm⟩
  have HB0 : Hid (Bo _ _ _ _ _ _ _ _) := G0.out.bo
  have hn0 : ¬ (x.ln : Int) = 0 := by have := HNN.out; omega
  have hn1 : ((x.ln : Int) == 0) = false := by simpa using hn0
  have hn2 : 0 < x.ln := HNN.out
  have hn3 : (0 : Int) < (x.ln : Int) := by omega
  clear G0 HBX HPT hr HHY HLA hla D0 HNN
  generalize x.lf 0 = pa at *
  obtain ⟨e1, _⟩ := CE.out _ (HZ.out _ (Below.refl _ _))
  go_wp2_with fail
  clear e1
  have H2a : Hid (Kz (Zp Q p q) W0 W0.drew) := HZ.out _ (Below.refl _ _).drew
  go_region_held3 (fun W => W.cell? ⟨b0, 1, none⟩ = some (.slice (some ⟨lb, lo, none⟩) x.ln x.lc) ∧ W.cell? ⟨b0, 2, none⟩ = some (.int .i64 x.f) ∧ W.cell? ⟨b0, 5, none⟩ = some (.int .u64 x.n) ∧ W.cell? ⟨lb, lo, none⟩ = some (.int .u64 (pa : Nat)) ∧ W.cell? ⟨p, 0, none⟩ = some (.pointer (some ⟨pm, 0, none⟩)) ∧ W.cell? ⟨q, 17, none⟩ = some (.pointer (some ⟨qm, 0, none⟩)))
    (first | exact CE.out _ (HZ.out _ (Below.refl _ _)) | exact CE.out _ H2a.out | exact CE.out _ HKa.out)
    (first | (go_at_call 50; refine (HSS.out _ _ _ HB0.out (HZ.out _ (Below.refl _ _)) _ (by first | exact (Below.refl _ _).drew | exact Below.refl _ _)).mono ?_; rintro e wa ⟨rfl, hBa, hKa⟩; have HBa : Hid (Bo _ _ _ _ _ _ _ _) := hBa; have HKa : Hid (Kz _ _ _) := hKa; clear hBa hKa))
  go_wp2_with fail
  have H2b : Hid (Kz (Zp Q p q) W0 wa.drew) := HKa.out.trans (Kz.of_below (Below.refl _ _).drew HBa.out.zp)
  go_region_held3 (fun W => W.cell? ⟨b0, 1, none⟩ = some (.slice (some ⟨lb, lo, none⟩) x.ln x.lc) ∧ W.cell? ⟨b0, 2, none⟩ = some (.int .i64 x.f) ∧ W.cell? ⟨b0, 5, none⟩ = some (.int .u64 x.n) ∧ W.cell? ⟨lb, lo, none⟩ = some (.int .u64 (pa : Nat)) ∧ W.cell? ⟨p, 0, none⟩ = some (.pointer (some ⟨pm, 0, none⟩)) ∧ W.cell? ⟨q, 17, none⟩ = some (.pointer (some ⟨qm, 0, none⟩)))
    (first | exact CE.out _ HKa.out | exact CE.out _ H2b.out | exact CE.out _ HKb.out)
    (first | (go_at_call 51; refine (HSR.out _ _ _ HBa.out HKa.out _ (by first | exact (Below.refl _ _).drew | exact Below.refl _ _)).mono ?_; rintro e wb ⟨rfl, hBb, hKb⟩; have HBb : Hid (Bo _ _ _ _ _ _ _ _) := hBb; have HKb : Hid (Kz _ _ _) := hKb; clear hBb hKb))
  go_wp2_with fail
  have H2c : Hid (Kz (Zp Q p q) W0 wb.drew) := HKb.out.trans (Kz.of_below (Below.refl _ _).drew HBb.out.zp)
  go_region_held3 (fun W => W.cell? ⟨b0, 1, none⟩ = some (.slice (some ⟨lb, lo, none⟩) x.ln x.lc) ∧ W.cell? ⟨b0, 2, none⟩ = some (.int .i64 x.f) ∧ W.cell? ⟨b0, 5, none⟩ = some (.int .u64 x.n) ∧ W.cell? ⟨lb, lo, none⟩ = some (.int .u64 (pa : Nat)) ∧ W.cell? ⟨p, 0, none⟩ = some (.pointer (some ⟨pm, 0, none⟩)) ∧ W.cell? ⟨q, 17, none⟩ = some (.pointer (some ⟨qm, 0, none⟩)))
    (first | exact CE.out _ HKb.out | exact CE.out _ H2c.out | exact CE.out _ HKc.out)
    (first | (go_at_call 18; refine (HLS.out _ _ _ HBb.out HKb.out _ (by first | exact (Below.refl _ _).drew | exact Below.refl _ _)).mono ?_; rintro e wc ⟨rfl, hBc, hKc⟩; have HBc : Hid (Bo _ _ _ _ _ _ _ _) := hBc; have HKc : Hid (Kz _ _ _) := hKc; clear hBc hKc))
  go_wp2_with fail
  have H2d : Hid (Kz (Zp Q p q) W0 wc.drew) := HKc.out.trans (Kz.of_below (Below.refl _ _).drew HBc.out.zp)
  go_region_held3 (fun W => W.cell? ⟨b0, 1, none⟩ = some (.slice (some ⟨lb, lo, none⟩) x.ln x.lc) ∧ W.cell? ⟨b0, 2, none⟩ = some (.int .i64 x.f) ∧ W.cell? ⟨b0, 5, none⟩ = some (.int .u64 x.n) ∧ W.cell? ⟨lb, lo, none⟩ = some (.int .u64 (pa : Nat)) ∧ W.cell? ⟨p, 0, none⟩ = some (.pointer (some ⟨pm, 0, none⟩)) ∧ W.cell? ⟨q, 17, none⟩ = some (.pointer (some ⟨qm, 0, none⟩)))
    (first | exact CE.out _ HKc.out | exact CE.out _ H2d.out | exact CE.out _ HKd.out)
    (first | (go_at_call 52; refine (HLR.out _ _ _ HBc.out HKc.out _ (by first | exact (Below.refl _ _).drew | exact Below.refl _ _)).mono ?_; rintro e wd ⟨rfl, hBd, hKd⟩; have HBd : Hid (Bo _ _ _ _ _ _ _ _) := hBd; have HKd : Hid (Kz _ _ _) := hKd; clear hBd hKd))
  have FI : Hid (Lv Z w p q L h (.returned (.bool true)) wd) := HLV.out _ wd wd HBd.out HKd.out (Below.refl _ _)
  clear H2a H2b H2c H2d HBa HKa HBb HKb HBc HKc HBd HKd HSS HSR HLS HLR HLV CE HZ HB0
  generalize F.runE h.n (pa : Nat) x.f = r1 at *
  generalize F.runE h.n (pa : Nat) 8 = r2 at *
  generalize ldV h (stS h s pa x.f x.n) pa = r3 at *
  have h1 : (r1 == r1) = true := by simp
  have h2 : (r2 == r2) = true := by simp
  have h3 : (r3 == r3) = true := by simp
  go_wp2
  go_ret
  exact FI.out
end Go.Proofs.YtokaohlgncmoaaaGreat.E
