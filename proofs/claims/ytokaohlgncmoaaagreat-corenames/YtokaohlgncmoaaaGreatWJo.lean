/- The statement's 'beside': a call of a part's own is answered alike by both, and leaves both alike; no condition but those named. -/
import Derived.Test.YtokaohlgncmoaaaGreatWJl
import Derived.Test.YtokaohlgncmoaaaGreatWHe
import Derived.Deep.QuietTactic
import Derived.Deep.RegionHeld3
namespace Go.Proofs.YtokaohlgncmoaaaGreat.E
open Go.ChangeShapes Go.WideShapes Go.ChangeAt Go.RowKit
set_option linter.unusedVariables false
set_option linter.unusedSimpArgs false
set_option maxRecDepth 100000
set_option maxHeartbeats 4000000 in
theorem beside10 {Z : Nat → Prop} {w : World} {p q : Nat} {L : Nat → Value} {h : Hw} {s : Sc} {x : Dx} (K : Bo Z w p q L h s s) (d : Din Z w x) (hr : x.k % 11 = 10) :
    Calls Tryz.prog 10 #[.pointer (some ⟨p, 0, none⟩), .pointer (some ⟨q, 0, none⟩), .agg #[.int .i64 x.k, .slice x.la x.ln x.lc, .int .i64 x.f, .int .i64 x.g, .slice x.ba x.bn x.bc, .int .u64 x.n, .int .i64 x.t.a, .int .i64 x.t.p, .int .i64 x.t.f, .bool x.t.r, .bool x.t.w, .bool x.t.d]] w (Lv Z w p q L h) := by
  have G0 : Hid (Go0 _ _ _ _ _ _ _ _ _ _ _) := Go0.box K d
  have hx : x.ce.toArray = #[.int .i64 x.k, .slice x.la x.ln x.lc, .int .i64 x.f, .int .i64 x.g, .slice x.ba x.bn x.bc, .int .u64 x.n, .int .i64 x.t.a, .int .i64 x.t.p, .int .i64 x.t.f, .bool x.t.r, .bool x.t.w, .bool x.t.d] := rfl
  rw [hx] at G0
  clear hx
  have CK : Hid (∀ W, Calls Tryz.prog 39 #[.int .i64 x.k, .int .i64 11] W fun e w' => e = .returned (.int .i64 (x.k % 11)) ∧ w' = W) := fun W => Within_any x.k 11 (by omega) (by omega) d.k0 d.k1 W
  clear K d
  go_enter Tryz.func10, Tryz.ntmps10
  go_upto_region 1 with fail
  generalize w.alloc (.cells #[.int .i64 x.k, .slice x.la x.ln x.lc, .int .i64 x.f, .int .i64 x.g, .slice x.ba x.bn x.bc, .int .u64 x.n, .int .i64 x.t.a, .int .i64 x.t.p, .int .i64 x.t.f, .bool x.t.r, .bool x.t.w, .bool x.t.d] 45) = W0 at *
  generalize w.heap.size = b0 at *
  obtain ⟨Q, hQ⟩ : ∃ Q, Q = (fun k => Z k ∨ (b0 ≤ k ∧ k < W0.heap.size)) := ⟨_, rfl⟩
  rw [← hQ] at G0
  clear hQ
  have d0 : W0.cell? ⟨b0, 0, none⟩ = _ := G0.out.r.bx.cell 0
  simp only [Dx.ce, List.getElem?_cons_zero] at d0
  go_wp2_with (go_at_call 39; refine (CK.out _).mono ?_; rintro e w' ⟨rfl, hw'⟩; obtain rfl := hw'.symm; rw [hr])
  clear CK d0
  obtain ⟨pm, pt, pd, qm, qt, qd, hP⟩ := G0.out.bo.pts
  have HPT : Hid (∀ W, Kz (Zp Q p q) W0 W → Pts W p q pm pt pd qm qt qd) := fun W k => hP.kz k
  have HZ : Hid (∀ W, Below W0.heap.size W0 W → Kz (Zp Q p q) W0 W) := fun W b => Kz.of_below b G0.out.bo.zp
  have HLV : Hid (∀ s' W W', Bo Q W p q L h s' s' → Kz (Zp Q p q) W0 W → Below W.heap.size W W' → Lv Z w p q L h (.returned (.bool true)) W') := fun s' W W' b k l => G0.out.lv (b.below l) ((k.less (fun _ z => Or.inl z)).trans (Kz.of_below l b.z))
  have HBX : Hid (∀ W, Kz (Zp Q p q) W0 W → Rdy Q W b0 x) := fun W k => G0.out.r.kz (k.less (fun _ z => Or.inl z))
  clear hP
  have D0 := G0.out.r.d
  have hbl := D0.hb
  have hlm : x.bn ≤ maxLen := by unfold maxLen; omega
  obtain ⟨er, s', hP, hR⟩ := write_both h s x.f x.bn x.bu hlm D0.ok
  obtain ⟨l, u, er2, hl2, gP, gR⟩ := read_both h s' x.f
  have CC : Hid (∀ W, Below W0.heap.size W0 W → Calls Tryz.prog 38 #[.slice x.ba x.bn x.bc] W (CpB W x.bn x.bu)) := fun W b => CopyB_any (c := x.bc) hbl (HBX.out W (HZ.out W b)).d.ab D0.nb
  have P1 : Hid (∀ W V a c, Below W0.heap.size W0 W → CpB W x.bn x.bu (.returned (.slice a x.bn c)) V → Calls Tryz.prog 53 #[.pointer (some ⟨pd, 0, none⟩), .int .i64 x.f, .slice a x.bn c] V fun e w' => e = .returned (.int .i64 er) ∧ Bo Q w' p q L h s' s ∧ Kz (Zp Q p q) W0 w') := fun W V a c b cp => by
    obtain ⟨a', c', e, hA, hb, hn, hg⟩ := cp
    injection e with e
    injection e with e1 e2 e3
    subst e1
    have BW := G0.out.bo.below b
    have BV := BW.more hb
    have KV : Kz (Zp Q p q) W0 V := (HZ.out W b).trans (Kz.of_below hb BW.zp)
    refine (hP _ V p q L s pd a c BV (HPT.out V KV).d hA (Or.inr fun g o ea => ?_)).mono ?_
    · obtain ⟨g', eg, h1, h2⟩ := hg _ ea
      cases eg
      exact Or.inr ⟨h1, h2⟩
    · rintro e w' ⟨he, hB, hK⟩
      exact ⟨he, hB.less (fun k hk => Or.inl hk), KV.trans (hK.less (Zp.mono (fun k hk => Or.inl hk)))⟩
  have P2 : Hid (∀ W, Bo Q W p q L h s' s → Kz (Zp Q p q) W0 W → ∀ W', Below W.heap.size W W' → Calls Tryz.prog 54 #[.pointer (some ⟨qd, 0, none⟩), .int .i64 x.f, .slice x.ba x.bn x.bc] W' fun e w' => e = .returned (.int .i64 er) ∧ Bo Q w' p q L h s' s' ∧ Kz (Zp Q p q) W0 w') := fun W b k W' m => by
    have KV : Kz (Zp Q p q) W0 W' := k.trans (Kz.of_below m b.zp)
    refine (hR _ W' p q L s' qd x.ba x.bc (b.below m) (HPT.out W' KV).rd (HBX.out W' KV).d.ab).mono ?_
    rintro e w' ⟨he, hB, hK⟩
    exact ⟨he, hB, KV.trans hK⟩
  have P3 : Hid (∀ W, Bo Q W p q L h s' s' → Kz (Zp Q p q) W0 W → Calls Tryz.prog 55 #[.pointer (some ⟨pd, 0, none⟩), .int .i64 x.f] W (Tld W l u er2)) := fun W b k => gP Q W p q L s' pd b (HPT.out W k).d
  have P4 : Hid (∀ W, Bo Q W p q L h s' s' → Kz (Zp Q p q) W0 W → Calls Tryz.prog 56 #[.pointer (some ⟨qd, 0, none⟩), .int .i64 x.f] W (Tld W l u er2)) := fun W b k => gR Q W p q L s' qd b (HPT.out W k).rd
  have CE : Hid (∀ W, Kz (Zp Q p q) W0 W → (W.cell? ⟨p, 2, none⟩ = some (.pointer (some ⟨pd, 0, none⟩)) ∧ W.cell? ⟨b0, 4, none⟩ = some (.slice x.ba x.bn x.bc) ∧ W.cell? ⟨b0, 2, none⟩ = some (.int .i64 x.f)) ∧ W.cell? ⟨q, 19, none⟩ = some (.pointer (some ⟨qd, 0, none⟩))) := fun W k => ⟨⟨(HPT.out W k).d, (HBX.out W k).bx.cell 4, (HBX.out W k).bx.cell 2⟩, (HPT.out W k).rd⟩
  have FIN : Hid (∀ W W', Bo Q W p q L h s' s' → Kz (Zp Q p q) W0 W → Below W.heap.size W W' → Lv Z w p q L h (.returned (.bool true)) W') := fun W W' b k m => HLV.out _ W W' b k m
  have HKW : Hid (∀ W V, Below W0.heap.size W0 W → Below W.heap.size W V → Kz (Zp Q p q) W0 V) := fun W V b m => (HZ.out W b).trans (Kz.of_below m (G0.out.bo.below b).zp)
  have hlm2 : l ≤ maxLen := by unfold maxLen; omega
  clear G0 HLV HBX HPT hr hP hR gP gR D0 hl2
  have he : (er == er) = true := by simp
  have he2 : (er2 == er2) = true := by simp
  have hwd : Below W0.heap.size W0 W0.drew := (Below.refl _ _).drew
  go_region_held3 (fun W => W.cell? ⟨p, 2, none⟩ = some (.pointer (some ⟨pd, 0, none⟩)) ∧ W.cell? ⟨b0, 4, none⟩ = some (.slice x.ba x.bn x.bc) ∧ W.cell? ⟨b0, 2, none⟩ = some (.int .i64 x.f))
    (first | exact (CE.out _ (HZ.out _ (Below.refl _ _).drew)).1 | exact (CE.out _ HKc.out).1 | exact (CE.out _ HK1.out).1 | exact (CE.out _ (HZ.out _ (Below.refl _ _))).1)
    (first
      | (go_at_call 38; refine (CC.out _ (by first | exact (Below.refl _ _).drew | exact Below.refl _ _)).mono ?_; rintro e wc hcp; have hcp0 := hcp; obtain ⟨ca, cc, rfl, hA, hbc, _⟩ := hcp0; have HKc : Hid (Kz (Zp Q p q) W0 wc) := HKW.out _ _ (by first | exact (Below.refl _ _).drew | exact Below.refl _ _) hbc; have HCP : Hid (CpB _ _ _ _ _) := hcp; clear hcp hA hbc)
      | (go_at_call 53; refine (P1.out _ _ _ _ (by first | exact (Below.refl _ _).drew | exact Below.refl _ _) HCP.out).mono ?_; rintro e wl ⟨rfl, hB1, hK1⟩; have HB1 : Hid (Bo _ _ _ _ _ _ _ _) := hB1; have HK1 : Hid (Kz _ _ _) := hK1; clear hB1 hK1))
  all_goals
    go_wp2_with fail
    have H21 : Hid (Kz (Zp Q p q) W0 wl.drew) := HK1.out.trans (Kz.of_below (Below.refl _ _).drew HB1.out.zp)
    go_region_held3 (fun W => (W.cell? ⟨p, 2, none⟩ = some (.pointer (some ⟨pd, 0, none⟩)) ∧ W.cell? ⟨b0, 4, none⟩ = some (.slice x.ba x.bn x.bc) ∧ W.cell? ⟨b0, 2, none⟩ = some (.int .i64 x.f)) ∧ W.cell? ⟨q, 19, none⟩ = some (.pointer (some ⟨qd, 0, none⟩)))
      (first | exact CE.out _ H21.out | exact CE.out _ HK1.out | exact CE.out _ HK2.out)
      (first | (go_at_call 54; refine (P2.out _ HB1.out HK1.out _ (by first | exact (Below.refl _ _).drew | exact Below.refl _ _)).mono ?_; rintro e wb ⟨rfl, hB2, hK2⟩; have HB2 : Hid (Bo _ _ _ _ _ _ _ _) := hB2; have HK2 : Hid (Kz _ _ _) := hK2; clear hB2 hK2))
    go_wp2_with fail
    have H22 : Hid (Kz (Zp Q p q) W0 wb.drew) := HK2.out.trans (Kz.of_below (Below.refl _ _).drew HB2.out.zp)
    go_region_held3 (fun W => (W.cell? ⟨p, 2, none⟩ = some (.pointer (some ⟨pd, 0, none⟩)) ∧ W.cell? ⟨b0, 4, none⟩ = some (.slice x.ba x.bn x.bc) ∧ W.cell? ⟨b0, 2, none⟩ = some (.int .i64 x.f)) ∧ W.cell? ⟨q, 19, none⟩ = some (.pointer (some ⟨qd, 0, none⟩)))
      (first | exact CE.out _ H22.out | exact CE.out _ HK2.out | exact CE.out _ HK3.out)
      (first | (go_at_call 55; refine (P3.out _ (HB2.out.below (by first | exact (Below.refl _ _).drew | exact Below.refl _ _)) (HK2.out.trans (Kz.of_below (by first | exact (Below.refl _ _).drew | exact Below.refl _ _) HB2.out.zp))).mono ?_; rintro e wd ⟨a1, c1, rfl, hA1, hb1⟩; have hb1' : Below wb.heap.size wb wd := (Below.refl _ wb).drew.trans hb1; have HB3 : Hid (Bo Q wd p q L h s' s') := HB2.out.below hb1'; have HK3 : Hid (Kz (Zp Q p q) W0 wd) := HK2.out.trans (Kz.of_below hb1' HB2.out.zp); have HA1 : Hid (D.Arg wd a1 l u) := hA1; clear hA1 hb1 hb1'))
    go_wp2_with fail
    have H23 : Hid (Kz (Zp Q p q) W0 wd.drew) := HK3.out.trans (Kz.of_below (Below.refl _ _).drew HB3.out.zp)
    go_region_held3 (fun W => (W.cell? ⟨p, 2, none⟩ = some (.pointer (some ⟨pd, 0, none⟩)) ∧ W.cell? ⟨b0, 4, none⟩ = some (.slice x.ba x.bn x.bc) ∧ W.cell? ⟨b0, 2, none⟩ = some (.int .i64 x.f)) ∧ W.cell? ⟨q, 19, none⟩ = some (.pointer (some ⟨qd, 0, none⟩)))
      (first | exact CE.out _ H23.out | exact CE.out _ HK3.out | exact CE.out _ HK4.out)
      (first | (go_at_call 56; refine (P4.out _ (HB3.out.below (by first | exact (Below.refl _ _).drew | exact Below.refl _ _)) (HK3.out.trans (Kz.of_below (by first | exact (Below.refl _ _).drew | exact Below.refl _ _) HB3.out.zp))).mono ?_; rintro e we ⟨a2, c2, rfl, hA2, hb2⟩; have hb2' : Below wd.heap.size wd we := (Below.refl _ wd).drew.trans hb2; have HQ : Hid (Calls _ _ _ _ _) := D.same_any (c1 := c1) (c2 := c2) hlm2 (argB_below HA1.out hb2') hA2; have HB4 : Hid (Below wd.heap.size wd we) := hb2'; have HK4 : Hid (Kz (Zp Q p q) W0 we) := HK3.out.trans (Kz.of_below hb2' HB3.out.zp); clear hA2 hb2 hb2'))
    go_wp2_with (go_at_call 44; refine HQ.out.mono ?_; rintro e wf ⟨rfl, hgf⟩; have HB5 : Hid (Below wd.heap.size wd wf) := HB4.out.trans ((below_grown hgf).mono HB4.out.size); clear hgf)
    go_ret
    exact FIN.out _ _ HB3.out HK3.out HB5.out
end Go.Proofs.YtokaohlgncmoaaaGreat.E
namespace Go.Proofs.YtokaohlgncmoaaaGreat.E
open Go.ChangeShapes Go.WideShapes Go.ChangeAt Go.RowKit
set_option linter.unusedVariables false
set_option linter.unusedSimpArgs false
set_option maxRecDepth 100000
set_option maxHeartbeats 4000000 in
theorem besided {Z : Nat → Prop} {w : World} {p q : Nat} {L : Nat → Value} {h : Hw} {s : Sc} {x : Dx} (K : Bo Z w p q L h s s) (d : Din Z w x) (hr : 0 ≤ x.k % 11 ∧ x.k % 11 < 7) :
    Calls Tryz.prog 10 #[.pointer (some ⟨p, 0, none⟩), .pointer (some ⟨q, 0, none⟩), .agg #[.int .i64 x.k, .slice x.la x.ln x.lc, .int .i64 x.f, .int .i64 x.g, .slice x.ba x.bn x.bc, .int .u64 x.n, .int .i64 x.t.a, .int .i64 x.t.p, .int .i64 x.t.f, .bool x.t.r, .bool x.t.w, .bool x.t.d]] w (Lv Z w p q L h) := by
  have G0 : Hid (Go0 _ _ _ _ _ _ _ _ _ _ _) := Go0.box K d
  have hx : x.ce.toArray = #[.int .i64 x.k, .slice x.la x.ln x.lc, .int .i64 x.f, .int .i64 x.g, .slice x.ba x.bn x.bc, .int .u64 x.n, .int .i64 x.t.a, .int .i64 x.t.p, .int .i64 x.t.f, .bool x.t.r, .bool x.t.w, .bool x.t.d] := rfl
  rw [hx] at G0
  clear hx
  have CK : Hid (∀ W, Calls Tryz.prog 39 #[.int .i64 x.k, .int .i64 11] W fun e w' => e = .returned (.int .i64 (x.k % 11)) ∧ w' = W) := fun W => Within_any x.k 11 (by omega) (by omega) d.k0 d.k1 W
  clear K d
  go_enter Tryz.func10, Tryz.ntmps10
  go_upto_region 1 with fail
  generalize w.alloc (.cells #[.int .i64 x.k, .slice x.la x.ln x.lc, .int .i64 x.f, .int .i64 x.g, .slice x.ba x.bn x.bc, .int .u64 x.n, .int .i64 x.t.a, .int .i64 x.t.p, .int .i64 x.t.f, .bool x.t.r, .bool x.t.w, .bool x.t.d] 45) = W0 at *
  generalize w.heap.size = b0 at *
  obtain ⟨Q, hQ⟩ : ∃ Q, Q = (fun k => Z k ∨ (b0 ≤ k ∧ k < W0.heap.size)) := ⟨_, rfl⟩
  rw [← hQ] at G0
  clear hQ
  have d0 : W0.cell? ⟨b0, 0, none⟩ = _ := G0.out.r.bx.cell 0
  simp only [Dx.ce, List.getElem?_cons_zero] at d0
  go_wp2_with (go_at_call 39; refine (CK.out _).mono ?_; rintro e w' ⟨rfl, hw'⟩; obtain rfl := hw'.symm; generalize x.k % 11 = kk at hr)
  clear CK d0
  obtain ⟨pm, pt, pd, qm, qt, qd, hP⟩ := G0.out.bo.pts
  have HPT : Hid (∀ W, Kz (Zp Q p q) W0 W → Pts W p q pm pt pd qm qt qd) := fun W k => hP.kz k
  have HZ : Hid (∀ W, Below W0.heap.size W0 W → Kz (Zp Q p q) W0 W) := fun W b => Kz.of_below b G0.out.bo.zp
  have HLV : Hid (∀ s' W W', Bo Q W p q L h s' s' → Kz (Zp Q p q) W0 W → Below W.heap.size W W' → Lv Z w p q L h (.returned (.bool true)) W') := fun s' W W' b k l => G0.out.lv (b.below l) ((k.less (fun _ z => Or.inl z)).trans (Kz.of_below l b.z))
  have HBX : Hid (∀ W, Kz (Zp Q p q) W0 W → Rdy Q W b0 x) := fun W k => G0.out.r.kz (k.less (fun _ z => Or.inl z))
  clear hP
  obtain ⟨l, u, er, hl, hP, hR⟩ := page_both h s x.f
  have P1 : Hid (∀ W, Below W0.heap.size W0 W → Calls Tryz.prog 57 #[.pointer (some ⟨pm, 0, none⟩), .int .i64 x.f] W (Tld W l u er)) := fun W b => hP Q W p q L s pm (G0.out.bo.below b) (HPT.out W (HZ.out W b)).m
  have P2 : Hid (∀ W, Below W0.heap.size W0 W → Calls Tryz.prog 58 #[.pointer (some ⟨qm, 0, none⟩), .int .i64 x.f] W (Tld W l u er)) := fun W b => hR Q W p q L s qm (G0.out.bo.below b) (HPT.out W (HZ.out W b)).rm
  have CE : Hid (∀ W, Below W0.heap.size W0 W → (W.cell? ⟨b0, 2, none⟩ = some (.int .i64 x.f) ∧ W.cell? ⟨p, 0, none⟩ = some (.pointer (some ⟨pm, 0, none⟩)) ∧ W.cell? ⟨q, 17, none⟩ = some (.pointer (some ⟨qm, 0, none⟩)))) := fun W b => ⟨(HBX.out W (HZ.out W b)).bx.cell 2, (HPT.out W (HZ.out W b)).m, (HPT.out W (HZ.out W b)).rm⟩
  have FIN : Hid (∀ W, Below W0.heap.size W0 W → Lv Z w p q L h (.returned (.bool true)) W) := fun W b => HLV.out _ W0 W G0.out.bo (HZ.out _ (Below.refl _ _)) b
  have k7 : (kk == 7) = false := by simp; omega
  have k8 : (kk == 8) = false := by simp; omega
  have k9 : (kk == 9) = false := by simp; omega
  have k10 : (kk == 10) = false := by simp; omega
  have hlm : l ≤ maxLen := by unfold maxLen; omega
  clear G0 HLV HBX HPT hr hP hR HZ hl
  have he : (er == er) = true := by simp
  go_region_held3 (fun W => W.cell? ⟨b0, 2, none⟩ = some (.int .i64 x.f) ∧ W.cell? ⟨p, 0, none⟩ = some (.pointer (some ⟨pm, 0, none⟩)) ∧ W.cell? ⟨q, 17, none⟩ = some (.pointer (some ⟨qm, 0, none⟩)))
    (first | exact CE.out _ (Below.refl _ _).drew | exact CE.out _ (Below.refl _ _) | exact CE.out _ HBa.out)
    (first | (go_at_call 57; refine (P1.out _ (by first | exact (Below.refl _ _).drew | exact Below.refl _ _)).mono ?_; rintro e wa ⟨a1, c1, rfl, hA1, hb1⟩; have HBa : Hid (Below W0.heap.size W0 wa) := (Below.refl _ W0).drew.trans hb1; have HA1 : Hid (D.Arg wa a1 l u) := hA1; clear hb1 hA1))
  go_wp2_with fail
  go_region_held3 (fun W => W.cell? ⟨b0, 2, none⟩ = some (.int .i64 x.f) ∧ W.cell? ⟨p, 0, none⟩ = some (.pointer (some ⟨pm, 0, none⟩)) ∧ W.cell? ⟨q, 17, none⟩ = some (.pointer (some ⟨qm, 0, none⟩)))
    (first | exact CE.out _ HBa.out.drew | exact CE.out _ HBa.out | exact CE.out _ HBb.out)
    (first | (go_at_call 58; refine (P2.out _ (by first | exact HBa.out.drew | exact HBa.out)).mono ?_; rintro e wb ⟨a2, c2, rfl, hA2, hb2⟩; have hb2' : Below wa.heap.size wa wb := (Below.refl _ wa).drew.trans hb2; have HQ : Hid (Calls _ _ _ _ _) := D.same_any (c1 := c1) (c2 := c2) hlm (argB_below HA1.out hb2') hA2; have HBb : Hid (Below W0.heap.size W0 wb) := HBa.out.trans (hb2'.mono HBa.out.size); clear hb2 hb2' hA2))
  go_wp2_with (go_at_call 44; refine HQ.out.mono ?_; rintro e wc ⟨rfl, hgc⟩; have HBc : Hid (Below W0.heap.size W0 wc) := HBb.out.trans ((below_grown hgc).mono HBb.out.size); clear hgc)
  go_ret
  exact FIN.out _ HBc.out
end Go.Proofs.YtokaohlgncmoaaaGreat.E
