/- The statement's 'beside': a call of a part's own is answered alike by both, and leaves both alike; no condition but those named. -/
import Derived.Test.YtokaohlgncmoaaaGreatWJl
import Derived.Test.YtokaohlgncmoaaaGreatWHe
import Derived.Deep.QuietTactic
import Derived.Deep.RegionHeld3
namespace Go.Proofs.YtokaohlgncmoaaaGreat.E
open Go.ChangeShapes Go.WideShapes Go.ChangeAt Go.RowKit
set_option linter.unusedVariables false
set_option linter.unusedSimpArgs false
set_option maxRecDepth 100000
set_option maxHeartbeats 4000000 in
theorem beside7 {Z : Nat → Prop} {w : World} {p q : Nat} {L : Nat → Value} {h : Hw} {s : Sc} {x : Dx} (K : Bo Z w p q L h s s) (d : Din Z w x) (hr : x.k % 11 = 7) :
    Calls Tryz.prog 10 #[.pointer (some ⟨p, 0, none⟩), .pointer (some ⟨q, 0, none⟩), .agg #[.int .i64 x.k, .slice x.la x.ln x.lc, .int .i64 x.f, .int .i64 x.g, .slice x.ba x.bn x.bc, .int .u64 x.n, .int .i64 x.t.a, .int .i64 x.t.p, .int .i64 x.t.f, .bool x.t.r, .bool x.t.w, .bool x.t.d]] w (Lv Z w p q L h) := by
  have G0 : Hid (Go0 _ _ _ _ _ _ _ _ _ _ _) := Go0.box K d
  have hx : x.ce.toArray = #[.int .i64 x.k, .slice x.la x.ln x.lc, .int .i64 x.f, .int .i64 x.g, .slice x.ba x.bn x.bc, .int .u64 x.n, .int .i64 x.t.a, .int .i64 x.t.p, .int .i64 x.t.f, .bool x.t.r, .bool x.t.w, .bool x.t.d] := rfl
  rw [hx] at G0
  clear hx
  have CK : Hid (∀ W, Calls Tryz.prog 39 #[.int .i64 x.k, .int .i64 11] W fun e w' => e = .returned (.int .i64 (x.k % 11)) ∧ w' = W) := fun W => Within_any x.k 11 (by omega) (by omega) d.k0 d.k1 W
  clear K d
  go_enter Tryz.func10, Tryz.ntmps10
  go_upto_region 1 with fail
  generalize w.alloc (.cells #[.int .i64 x.k, .slice x.la x.ln x.lc, .int .i64 x.f, .int .i64 x.g, .slice x.ba x.bn x.bc, .int .u64 x.n, .int .i64 x.t.a, .int .i64 x.t.p, .int .i64 x.t.f, .bool x.t.r, .bool x.t.w, .bool x.t.d] 45) = W0 at *
  generalize w.heap.size = b0 at *
  obtain ⟨Q, hQ⟩ : ∃ Q, Q = (fun k => Z k ∨ (b0 ≤ k ∧ k < W0.heap.size)) := ⟨_, rfl⟩
  rw [← hQ] at G0
  clear hQ
  have d0 : W0.cell? ⟨b0, 0, none⟩ = _ := G0.out.r.bx.cell 0
  simp only [Dx.ce, List.getElem?_cons_zero] at d0
  go_wp2_with (go_at_call 39; refine (CK.out _).mono ?_; rintro e w' ⟨rfl, hw'⟩; obtain rfl := hw'.symm; rw [hr])
  clear CK d0
  obtain ⟨pm, pt, pd, qm, qt, qd, hP⟩ := G0.out.bo.pts
  have HPT : Hid (∀ W, Kz (Zp Q p q) W0 W → Pts W p q pm pt pd qm qt qd) := fun W k => hP.kz k
  have HZ : Hid (∀ W, Below W0.heap.size W0 W → Kz (Zp Q p q) W0 W) := fun W b => Kz.of_below b G0.out.bo.zp
  have HLV : Hid (∀ s' W W', Bo Q W p q L h s' s' → Kz (Zp Q p q) W0 W → Below W.heap.size W W' → Lv Z w p q L h (.returned (.bool true)) W') := fun s' W W' b k l => G0.out.lv (b.below l) ((k.less (fun _ z => Or.inl z)).trans (Kz.of_below l b.z))
  have HBX : Hid (∀ W, Kz (Zp Q p q) W0 W → Rdy Q W b0 x) := fun W k => G0.out.r.kz (k.less (fun _ z => Or.inl z))
  clear hP
  have P1 : ∀ W, Below W0.heap.size W0 W → Calls Tryz.prog 47 #[.pointer (some ⟨pt, 0, none⟩), .agg #[.int .i64 x.t.a, .int .i64 x.t.p, .int .i64 x.t.f, .bool x.t.r, .bool x.t.w, .bool x.t.d]] W fun e w' => e = .returned (.int .i64 (T.filE x.t)) ∧ Bo Q w' p q L h { s with l := T.filL h.t x.t s.l } s ∧ Kz (Zp Q p q) W0 w' := fun W b =>
    ((G0.out.bo.below b).fill (HPT.out W (HZ.out W b)).t x.t).mono fun e w' ⟨he, hB, hK⟩ => ⟨he, hB, (HZ.out W b).trans hK⟩
  have P2 : ∀ W, Bo Q W p q L h { s with l := T.filL h.t x.t s.l } s → Kz (Zp Q p q) W0 W → Calls Tryz.prog 48 #[.pointer (some ⟨qt, 0, none⟩), .agg #[.int .i64 x.t.a, .int .i64 x.t.p, .int .i64 x.t.f, .bool x.t.r, .bool x.t.w, .bool x.t.d]] W fun e w' => e = .returned (.int .i64 (T.filE x.t)) ∧ Bo Q w' p q L h { s with l := T.filL h.t x.t s.l } { s with l := T.filL h.t x.t s.l } ∧ Kz (Zp Q p q) W0 w' := fun W b k =>
    (b.rfill (HPT.out W k).rt x.t).mono fun e w' ⟨he, hB, hK⟩ => ⟨he, hB, k.trans hK⟩
  have CE : Hid (∀ W, Kz (Zp Q p q) W0 W → (W.cell? ⟨b0, 6, none⟩ = some (.int .i64 x.t.a) ∧ W.cell? ⟨b0, 7, none⟩ = some (.int .i64 x.t.p) ∧ W.cell? ⟨b0, 8, none⟩ = some (.int .i64 x.t.f) ∧ W.cell? ⟨b0, 9, none⟩ = some (.bool x.t.r) ∧ W.cell? ⟨b0, 10, none⟩ = some (.bool x.t.w) ∧ W.cell? ⟨b0, 11, none⟩ = some (.bool x.t.d) ∧ W.cell? ⟨p, 1, none⟩ = some (.pointer (some ⟨pt, 0, none⟩)) ∧ W.cell? ⟨q, 18, none⟩ = some (.pointer (some ⟨qt, 0, none⟩)))) := fun W k => ⟨(HBX.out W k).bx.cell 6, (HBX.out W k).bx.cell 7, (HBX.out W k).bx.cell 8, (HBX.out W k).bx.cell 9, (HBX.out W k).bx.cell 10, (HBX.out W k).bx.cell 11, (HPT.out W k).t, (HPT.out W k).rt⟩
  have FIN : Hid (∀ W, Bo Q W p q L h { s with l := T.filL h.t x.t s.l } { s with l := T.filL h.t x.t s.l } → Kz (Zp Q p q) W0 W → Lv Z w p q L h (.returned (.bool true)) W) := fun W b k => HLV.out _ W W b k (Below.refl _ _)
  have HP1 : Hid _ := P1
  have HP2 : Hid _ := P2
  clear P1 P2 G0 HLV HBX HPT hr
  generalize ({ s with l := T.filL h.t x.t s.l } : Sc) = s' at *
  generalize T.filE x.t = v at *
  have hv : (v == v) = true := by simp
  go_region_held3 (fun W => W.cell? ⟨b0, 6, none⟩ = some (.int .i64 x.t.a) ∧ W.cell? ⟨b0, 7, none⟩ = some (.int .i64 x.t.p) ∧ W.cell? ⟨b0, 8, none⟩ = some (.int .i64 x.t.f) ∧ W.cell? ⟨b0, 9, none⟩ = some (.bool x.t.r) ∧ W.cell? ⟨b0, 10, none⟩ = some (.bool x.t.w) ∧ W.cell? ⟨b0, 11, none⟩ = some (.bool x.t.d) ∧ W.cell? ⟨p, 1, none⟩ = some (.pointer (some ⟨pt, 0, none⟩)) ∧ W.cell? ⟨q, 18, none⟩ = some (.pointer (some ⟨qt, 0, none⟩)))
    (first | exact CE.out _ (HZ.out _ (Below.refl _ _).drew) | exact CE.out _ HK1.out | exact CE.out _ HK2.out | exact CE.out _ (HZ.out _ (Below.refl _ _)))
    (first
      | (go_at_call 47; refine (HP1.out _ (by first | exact (Below.refl _ _).drew | exact Below.refl _ _)).mono ?_; rintro e wl ⟨rfl, hB1, hK1⟩; have HB1 : Hid (Bo _ _ _ _ _ _ _ _) := hB1; have HK1 : Hid (Kz _ _ _) := hK1; clear hB1 hK1)
      | (go_at_call 48; refine (HP2.out _ HB1.out HK1.out).mono ?_; rintro e wq ⟨rfl, hB2, hK2⟩; have HB2 : Hid (Bo _ _ _ _ _ _ _ _) := hB2; have HK2 : Hid (Kz _ _ _) := hK2; clear hB2 hK2))
  all_goals
    go_wp2
    go_ret
    exact FIN.out _ HB2.out HK2.out
end Go.Proofs.YtokaohlgncmoaaaGreat.E
namespace Go.Proofs.YtokaohlgncmoaaaGreat.E
open Go.ChangeShapes Go.WideShapes Go.ChangeAt Go.RowKit
set_option linter.unusedVariables false
set_option linter.unusedSimpArgs false
set_option maxRecDepth 100000
structure Fz (Q : Nat → Prop) (W0 : World) (p q : Nat) (L : Nat → Value) (h : Hw) (s t : Sc) (l : List Value) (wx : World) (b : Nat) (Q5 : Nat → Prop) : Prop where
  sub : ∀ k, Q k → Q5 k
  own : Q5 b
  bx : C.Blk wx b 43 l
  bo : Bo Q5 wx p q L h s t
  kz : Kz (Zp Q p q) W0 wx
theorem fz_new {Q Qa : Nat → Prop} {W0 wl : World} {p q : Nat} {L : Nat → Value} {h : Hw} {s t : Sc} (l : List Value) (hs : ∀ k, Q k → Qa k) (B : Bo Qa wl p q L h s t) (K : Kz (Zp Q p q) W0 wl) :
    ∃ Q5, Fz Q W0 p q L h s t l (wl.alloc (.cells l.toArray 43)) wl.heap.size Q5 := by
  have hb : Below wl.heap.size wl (wl.alloc (.cells l.toArray 43)) := (Below.refl _ _).alloc (Nat.le_refl _) _
  exact ⟨_, fun k hk => Or.inl (hs k hk), Or.inr ⟨Nat.le_refl _, by simp⟩, C.blk_new wl _ _, B.more hb, K.trans (Kz.of_below hb (fun k hk => B.zp k (Zp.mono hs k hk)))⟩
theorem Bo.grown {Z : Nat → Prop} {w w' : World} {p q : Nat} {L : Nat → Value} {h : Hw} {s t : Sc} (K : Bo Z w p q L h s t) {g : Nat} (gr : w.grownBy w' (some g)) (hg : Z g) : Bo Z w' p q L h s t := by
  obtain ⟨X, Y, c, d, ds, zx, zy⟩ := K.c
  have k : C.Kp (fun k => k = g) (fun k => k = g) w w' := C.Kp.of_grown gr (fun x hx => by cases hx; rfl) (fun _ z => Or.inl z)
  exact ⟨⟨X, Y, c.kept k (fun i hx e => zx i hx (e ▸ hg)), d.kept k (fun i hy e => zy i hy (e ▸ hg)), ds, zx, zy⟩, fun i hi => Nat.lt_of_lt_of_le (K.z i hi) gr.size⟩
theorem fz_set {Q Qa : Nat → Prop} {W0 wl : World} {p q : Nat} {L : Nat → Value} {h : Hw} {s t : Sc} (v0 v1 v2 v3 v4 v5 : Value) (hs : ∀ k, Q k → Qa k) (B : Bo Qa wl p q L h s t) (K : Kz (Zp Q p q) W0 wl) {g : Nat} (hg : Qa g) (hn : ¬ Zp Q p q g) {u0 u1 u2 u3 u4 u5 : Value} (X : C.Blk wl g 43 [u0, u1, u2, u3, u4, u5]) :
    ∃ Q5, Fz Q W0 p q L h s t [v0, v1, v2, v3, v4, v5] ((((((wl.setCell ⟨g, 0, none⟩ v0).setCell ⟨g, 1, none⟩ v1).setCell ⟨g, 2, none⟩ v2).setCell ⟨g, 3, none⟩ v3).setCell ⟨g, 4, none⟩ v4).setCell ⟨g, 5, none⟩ v5) g Q5 := by
  have gr := ((((((C.grown_setCell' wl g 0 v0).trans (C.grown_setCell' _ g 1 v1)).trans (C.grown_setCell' _ g 2 v2)).trans (C.grown_setCell' _ g 3 v3)).trans (C.grown_setCell' _ g 4 v4)).trans (C.grown_setCell' _ g 5 v5))
  refine ⟨Qa, hs, hg, (((((X.set 0 v0).set 1 v1).set 2 v2).set 3 v3).set 4 v4).set 5 v5, B.grown gr hg, K.trans ⟨gr.os, gr.tape, gr.output, gr.size, fun k hk => gr.block k (B.zp k (Zp.mono hs k hk)) (C.some_ne (fun e => hn (e ▸ hk)))⟩⟩
set_option maxHeartbeats 4000000 in
theorem beside8 {Z : Nat → Prop} {w : World} {p q : Nat} {L : Nat → Value} {h : Hw} {s : Sc} {x : Dx} (K : Bo Z w p q L h s s) (d : Din Z w x) (hr : x.k % 11 = 8) :
    Calls Tryz.prog 10 #[.pointer (some ⟨p, 0, none⟩), .pointer (some ⟨q, 0, none⟩), .agg #[.int .i64 x.k, .slice x.la x.ln x.lc, .int .i64 x.f, .int .i64 x.g, .slice x.ba x.bn x.bc, .int .u64 x.n, .int .i64 x.t.a, .int .i64 x.t.p, .int .i64 x.t.f, .bool x.t.r, .bool x.t.w, .bool x.t.d]] w (Lv Z w p q L h) := by
  have G0 : Hid (Go0 _ _ _ _ _ _ _ _ _ _ _) := Go0.box K d
  have hx : x.ce.toArray = #[.int .i64 x.k, .slice x.la x.ln x.lc, .int .i64 x.f, .int .i64 x.g, .slice x.ba x.bn x.bc, .int .u64 x.n, .int .i64 x.t.a, .int .i64 x.t.p, .int .i64 x.t.f, .bool x.t.r, .bool x.t.w, .bool x.t.d] := rfl
  rw [hx] at G0
  clear hx
  have CK : Hid (∀ W, Calls Tryz.prog 39 #[.int .i64 x.k, .int .i64 11] W fun e w' => e = .returned (.int .i64 (x.k % 11)) ∧ w' = W) := fun W => Within_any x.k 11 (by omega) (by omega) d.k0 d.k1 W
  clear K d
  go_enter Tryz.func10, Tryz.ntmps10
  go_upto_region 1 with fail
  generalize w.alloc (.cells #[.int .i64 x.k, .slice x.la x.ln x.lc, .int .i64 x.f, .int .i64 x.g, .slice x.ba x.bn x.bc, .int .u64 x.n, .int .i64 x.t.a, .int .i64 x.t.p, .int .i64 x.t.f, .bool x.t.r, .bool x.t.w, .bool x.t.d] 45) = W0 at *
  generalize w.heap.size = b0 at *
  obtain ⟨Q, hQ⟩ : ∃ Q, Q = (fun k => Z k ∨ (b0 ≤ k ∧ k < W0.heap.size)) := ⟨_, rfl⟩
  rw [← hQ] at G0
  clear hQ
  have d0 : W0.cell? ⟨b0, 0, none⟩ = _ := G0.out.r.bx.cell 0
  simp only [Dx.ce, List.getElem?_cons_zero] at d0
  go_wp2_with (go_at_call 39; refine (CK.out _).mono ?_; rintro e w' ⟨rfl, hw'⟩; obtain rfl := hw'.symm; rw [hr])
  clear CK d0
  obtain ⟨pm, pt, pd, qm, qt, qd, hP⟩ := G0.out.bo.pts
  have HPT : Hid (∀ W, Kz (Zp Q p q) W0 W → Pts W p q pm pt pd qm qt qd) := fun W k => hP.kz k
  have HZ : Hid (∀ W, Below W0.heap.size W0 W → Kz (Zp Q p q) W0 W) := fun W b => Kz.of_below b G0.out.bo.zp
  have HLV : Hid (∀ s' W W', Bo Q W p q L h s' s' → Kz (Zp Q p q) W0 W → Below W.heap.size W W' → Lv Z w p q L h (.returned (.bool true)) W') := fun s' W W' b k l => G0.out.lv (b.below l) ((k.less (fun _ z => Or.inl z)).trans (Kz.of_below l b.z))
  have HBX : Hid (∀ W, Kz (Zp Q p q) W0 W → Rdy Q W b0 x) := fun W k => G0.out.r.kz (k.less (fun _ z => Or.inl z))
  clear hP
  have P1 : ∀ Q2 W, (∀ k, Q k → Q2 k) → Bo Q2 W p q L h s s → Kz (Zp Q p q) W0 W → Calls Tryz.prog 19 #[.pointer (some ⟨pt, 0, none⟩), .int .i64 x.t.a, .int .i64 x.t.p] W fun e w' => e = .returned (.tuple #[.agg #[.int .i64 (T.pk x.t.a x.t.p s.l).1.a, .int .i64 (T.pk x.t.a x.t.p s.l).1.p, .int .i64 (T.pk x.t.a x.t.p s.l).1.f, .bool (T.pk x.t.a x.t.p s.l).1.r, .bool (T.pk x.t.a x.t.p s.l).1.w, .bool (T.pk x.t.a x.t.p s.l).1.d], .bool (T.pk x.t.a x.t.p s.l).2.1, .int .i64 (T.pk x.t.a x.t.p s.l).2.2]) ∧ Bo Q2 w' p q L h { s with l := T.fd x.t.a x.t.p s.l } s ∧ Kz (Zp Q2 p q) W w' := fun Q2 W _ b k =>
    (b.find (HPT.out W k).t x.t.a x.t.p).mono fun e w' ⟨he, hB, hK⟩ => ⟨he, hB, hK⟩
  have P2 : ∀ Q2 W, (∀ k, Q k → Q2 k) → Bo Q2 W p q L h { s with l := T.fd x.t.a x.t.p s.l } s → Kz (Zp Q p q) W0 W → Calls Tryz.prog 49 #[.pointer (some ⟨qt, 0, none⟩), .int .i64 x.t.a, .int .i64 x.t.p] W fun e w' => e = .returned (.tuple #[.agg #[.int .i64 (T.pk x.t.a x.t.p s.l).1.a, .int .i64 (T.pk x.t.a x.t.p s.l).1.p, .int .i64 (T.pk x.t.a x.t.p s.l).1.f, .bool (T.pk x.t.a x.t.p s.l).1.r, .bool (T.pk x.t.a x.t.p s.l).1.w, .bool (T.pk x.t.a x.t.p s.l).1.d], .bool (T.pk x.t.a x.t.p s.l).2.1, .int .i64 (T.pk x.t.a x.t.p s.l).2.2]) ∧ Bo Q2 w' p q L h { s with l := T.fd x.t.a x.t.p s.l } { s with l := T.fd x.t.a x.t.p s.l } ∧ Kz (Zp Q2 p q) W w' := fun Q2 W _ b k =>
    (b.rfind (HPT.out W k).rt x.t.a x.t.p).mono fun e w' ⟨he, hB, hK⟩ => ⟨he, hB, hK⟩
  have CE : Hid (∀ W, Kz (Zp Q p q) W0 W → (W.cell? ⟨b0, 6, none⟩ = some (.int .i64 x.t.a) ∧ W.cell? ⟨b0, 7, none⟩ = some (.int .i64 x.t.p) ∧ W.cell? ⟨p, 1, none⟩ = some (.pointer (some ⟨pt, 0, none⟩)) ∧ W.cell? ⟨q, 18, none⟩ = some (.pointer (some ⟨qt, 0, none⟩)))) := fun W k => ⟨(HBX.out W k).bx.cell 6, (HBX.out W k).bx.cell 7, (HPT.out W k).t, (HPT.out W k).rt⟩
  have HP1 : Hid _ := P1
  have HP2 : Hid _ := P2
  have HB0 : Hid (Bo Q W0 p q L h s s) := G0.out.bo
  have FIN : Hid (∀ W W', Bo Q W p q L h { s with l := T.fd x.t.a x.t.p s.l } { s with l := T.fd x.t.a x.t.p s.l } → Kz (Zp Q p q) W0 W → Below W.heap.size W W' → Lv Z w p q L h (.returned (.bool true)) W') := fun W W' b k l => HLV.out _ W W' b k l
  clear P1 P2 G0 HLV HBX HPT hr
  generalize ({ s with l := T.fd x.t.a x.t.p s.l } : Sc) = s' at *
  obtain ⟨v, y, er, hpk⟩ : ∃ v y er, T.pk x.t.a x.t.p s.l = (v, y, er) := ⟨_, _, _, rfl⟩
  rw [hpk] at HP1 HP2
  clear hpk
  obtain ⟨ta, tp, tf, tr, tw', td⟩ := v
  simp only at HP1 HP2
  have hq := T.eq_run ta tp tf ta tp tf tr tw' td tr tw' td
  rw [T.eqT_self] at hq
  have hv : (er == er) = true := by simp
  have hy : (y == y) = true := by simp
  have HPG : Hid (∀ W, Below W0.heap.size W0 W → Calls Tryz.prog 19 #[.pointer (some ⟨pt, 0, none⟩), .int .i64 x.t.a, .int .i64 x.t.p] W fun e w' => e = .returned (.tuple #[.agg #[.int .i64 ta, .int .i64 tp, .int .i64 tf, .bool tr, .bool tw', .bool td], .bool y, .int .i64 er]) ∧ Bo (fun k => Q k ∨ (W0.heap.size ≤ k ∧ k < W.heap.size)) w' p q L h s' s ∧ Kz (Zp Q p q) W0 w' ∧ Kz (Zp (fun k => Q k ∨ (W0.heap.size ≤ k ∧ k < W.heap.size)) p q) W w') := fun W b =>
    (HP1.out _ W (fun _ h => Or.inl h) (HB0.out.more b) (HZ.out _ b)).mono fun e w' ⟨he, hB, hK⟩ => ⟨he, hB, (HZ.out _ b).trans (hK.less (Zp.mono (fun _ h => Or.inl h))), hK⟩
  clear HP1
  have HDW : Hid (Below W0.heap.size W0 W0.drew) := (Below.refl _ _).drew
  have HAL : Hid (Below W0.heap.size W0 (W0.alloc (Obj.cells #[.int .i64 0, .int .i64 0, .int .i64 0, .bool false, .bool false, .bool false] 43)).drew) := ((Below.refl _ _).alloc (Nat.le_refl _) _).drew
  have HKD : Hid (Kz (Zp Q p q) W0 W0.drew) := Kz.of_below HDW.out HB0.out.zp
  have HKL : Hid (Kz (Zp Q p q) W0 (W0.alloc (Obj.cells #[.int .i64 0, .int .i64 0, .int .i64 0, .bool false, .bool false, .bool false] 43)).drew) := Kz.of_below HAL.out HB0.out.zp
  have HNZ : Hid (¬ Zp Q p q W0.heap.size) := fun z => Nat.lt_irrefl _ (HB0.out.zp _ z)
  have HXB : Hid (C.Blk (W0.alloc (Obj.cells #[.int .i64 0, .int .i64 0, .int .i64 0, .bool false, .bool false, .bool false] 43)).drew W0.heap.size 43 [.int .i64 0, .int .i64 0, .int .i64 0, .bool false, .bool false, .bool false]) := C.blk_new W0 _ _
  go_cut [7, 8, 9] from 51 to 65 (fun ta7 ta8 ta9 wx => ∃ b5 Q5, ta7 = .pointer (some ⟨b5, 0, none⟩) ∧ ta8 = .bool y ∧ ta9 = .int .i64 er ∧ Fz Q W0 p q L h s' s [.int .i64 ta, .int .i64 tp, .int .i64 tf, .bool tr, .bool tw', .bool td] wx b5 Q5)
  case first =>
    go_region_held3 (fun W => W.cell? ⟨b0, 6, none⟩ = some (.int .i64 x.t.a) ∧ W.cell? ⟨b0, 7, none⟩ = some (.int .i64 x.t.p) ∧ W.cell? ⟨p, 1, none⟩ = some (.pointer (some ⟨pt, 0, none⟩)) ∧ W.cell? ⟨q, 18, none⟩ = some (.pointer (some ⟨qt, 0, none⟩)))
      (first | (refine CE.out _ ?_; first | with_reducible exact HKD.out | with_reducible exact HKL.out | with_reducible exact HK1.out | with_reducible exact HA1.out | with_reducible exact HA2.out | with_reducible exact HS6.out))
      (first
        | (go_at_call 19; refine (HPG.out _ (by first | with_reducible exact HDW.out | with_reducible exact HAL.out)).mono ?_; rintro e wl ⟨rfl, hB1, hK1, hK2⟩; have HK1 : Hid (Kz (Zp Q p q) W0 wl) := hK1; have HZ1 : Hid (∀ k, Zp Q p q k → k < wl.heap.size) := fun k hk => hB1.zp k (Zp.mono (fun _ h => Or.inl h) k hk); have HA1 : Hid (Kz (Zp Q p q) W0 (wl.alloc (Obj.cells #[.int .i64 0, .int .i64 0, .int .i64 0, .bool false, .bool false, .bool false] 43))) := hK1.trans (Kz.of_below ((Below.refl _ _).alloc (Nat.le_refl _) _) HZ1.out); obtain ⟨Qx, hFA⟩ := fz_new [.int .i64 ta, .int .i64 tp, .int .i64 tf, .bool tr, .bool tw', .bool td] (fun _ h => Or.inl h) hB1 hK1; have HFA : Hid (∃ Qz, Fz Q W0 p q L h s' s [.int .i64 ta, .int .i64 tp, .int .i64 tf, .bool tr, .bool tw', .bool td] (wl.alloc (Obj.cells #[.int .i64 ta, .int .i64 tp, .int .i64 tf, .bool tr, .bool tw', .bool td] 43)) wl.heap.size Qz) := ⟨Qx, hFA⟩; have HA2 : Hid (Kz (Zp Q p q) W0 (wl.alloc (Obj.cells #[.int .i64 ta, .int .i64 tp, .int .i64 tf, .bool tr, .bool tw', .bool td] 43))) := hFA.kz; clear hFA; (try (have X5 := HXB.out.of_eq (hK2.block W0.heap.size (Or.inl (Or.inr ⟨Nat.le_refl _, by simp⟩))); obtain ⟨Qy, hFB⟩ := fz_set (.int .i64 ta) (.int .i64 tp) (.int .i64 tf) (.bool tr) (.bool tw') (.bool td) (fun _ h => Or.inl h) hB1 hK1 (Or.inr ⟨Nat.le_refl _, by simp⟩) HNZ.out X5; have HFB : Hid (∃ Qz, Fz Q W0 p q L h s' s [.int .i64 ta, .int .i64 tp, .int .i64 tf, .bool tr, .bool tw', .bool td] ((((((wl.setCell ⟨W0.heap.size, 0, none⟩ (.int .i64 ta)).setCell ⟨W0.heap.size, 1, none⟩ (.int .i64 tp)).setCell ⟨W0.heap.size, 2, none⟩ (.int .i64 tf)).setCell ⟨W0.heap.size, 3, none⟩ (.bool tr)).setCell ⟨W0.heap.size, 4, none⟩ (.bool tw')).setCell ⟨W0.heap.size, 5, none⟩ (.bool td)) W0.heap.size Qz) := ⟨Qy, hFB⟩; have HS6 : Hid (Kz (Zp Q p q) W0 ((((((wl.setCell ⟨W0.heap.size, 0, none⟩ (.int .i64 ta)).setCell ⟨W0.heap.size, 1, none⟩ (.int .i64 tp)).setCell ⟨W0.heap.size, 2, none⟩ (.int .i64 tf)).setCell ⟨W0.heap.size, 3, none⟩ (.bool tr)).setCell ⟨W0.heap.size, 4, none⟩ (.bool tw')).setCell ⟨W0.heap.size, 5, none⟩ (.bool td))) := hFB.kz; have c0 := X5.cell 0; have c1 := X5.cell 1; have c2 := X5.cell 2; have c3 := X5.cell 3; have c4 := X5.cell 4; have c5 := X5.cell 5; simp only [List.getElem?_cons_zero, List.getElem?_cons_succ] at c0 c1 c2 c3 c4 c5; have f0 := X5.frozen 0; have f1 := X5.frozen 1; have f2 := X5.frozen 2; have f3 := X5.frozen 3; have f4 := X5.frozen 4; have f5 := X5.frozen 5; clear X5 hFB)); clear hB1 hK1 hK2))
    all_goals
      go_wp2_with fail
      go_meet
      case rel =>
        first
          | (obtain ⟨Qz, hF⟩ := HFB.out; with_reducible exact ⟨_, Qz, rfl, rfl, rfl, hF⟩)
          | (obtain ⟨Qz, hF⟩ := HFA.out; with_reducible exact ⟨_, Qz, rfl, rfl, rfl, hF⟩)
  case rest =>
    obtain ⟨b5, Q5, rfl, rfl, rfl, hF⟩ := hcut
    have HF5 : Hid (Fz Q W0 p q L h s' s [.int .i64 ta, .int .i64 tp, .int .i64 tf, .bool tr, .bool tw', .bool td] wc b5 Q5) := hF
    have HB5 : Hid (Bo Q5 wc p q L h s' s) := hF.bo
    have HPR : Hid (∀ W, Below wc.heap.size wc W → Calls Tryz.prog 49 #[.pointer (some ⟨qt, 0, none⟩), .int .i64 x.t.a, .int .i64 x.t.p] W fun e w' => e = .returned (.tuple #[.agg #[.int .i64 ta, .int .i64 tp, .int .i64 tf, .bool tr, .bool tw', .bool td], .bool y, .int .i64 er]) ∧ Bo (fun k => Q5 k ∨ (wc.heap.size ≤ k ∧ k < W.heap.size)) w' p q L h s' s' ∧ Kz (Zp Q5 p q) wc w' ∧ Kz (Zp (fun k => Q5 k ∨ (wc.heap.size ≤ k ∧ k < W.heap.size)) p q) W w') := fun W b =>
      (HP2.out _ W (fun _ h => Or.inl (HF5.out.sub _ h)) (HB5.out.more b) (HF5.out.kz.trans (Kz.of_below b (fun k hk => HB5.out.zp k (Zp.mono HF5.out.sub k hk))))).mono fun e w' ⟨he, hB, hK⟩ => ⟨he, hB, (Kz.of_below b HB5.out.zp).trans (hK.less (Zp.mono (fun _ h => Or.inl h))), hK⟩
    have CE2 : Hid (∀ W, Kz (Zp Q5 p q) wc W → (W.cell? ⟨b0, 6, none⟩ = some (.int .i64 x.t.a) ∧ W.cell? ⟨b0, 7, none⟩ = some (.int .i64 x.t.p) ∧ W.cell? ⟨p, 1, none⟩ = some (.pointer (some ⟨pt, 0, none⟩)) ∧ W.cell? ⟨q, 18, none⟩ = some (.pointer (some ⟨qt, 0, none⟩)))) := fun W k => CE.out W (HF5.out.kz.trans (k.less (Zp.mono HF5.out.sub)))
    clear HPG HP2 hF HDW HAL HKD HKL HNZ HXB
    go_upto_region 6 with fail
    have HDW2 : Hid (Below wc.heap.size wc wc.drew) := (Below.refl _ _).drew
    have HAL2 : Hid (Below wc.heap.size wc (wc.alloc (Obj.cells #[.int .i64 0, .int .i64 0, .int .i64 0, .bool false, .bool false, .bool false] 43)).drew) := ((Below.refl _ _).alloc (Nat.le_refl _) _).drew
    have HKD2 : Hid (Kz (Zp Q5 p q) wc wc.drew) := Kz.of_below HDW2.out HB5.out.zp
    have HKL2 : Hid (Kz (Zp Q5 p q) wc (wc.alloc (Obj.cells #[.int .i64 0, .int .i64 0, .int .i64 0, .bool false, .bool false, .bool false] 43)).drew) := Kz.of_below HAL2.out HB5.out.zp
    have HNZ2 : Hid (¬ Zp Q5 p q wc.heap.size) := fun z => Nat.lt_irrefl _ (HB5.out.zp _ z)
    have HXB2 : Hid (C.Blk (wc.alloc (Obj.cells #[.int .i64 0, .int .i64 0, .int .i64 0, .bool false, .bool false, .bool false] 43)).drew wc.heap.size 43 [.int .i64 0, .int .i64 0, .int .i64 0, .bool false, .bool false, .bool false]) := C.blk_new wc _ _
    go_cut [10, 11, 12] from 66 to 80 (fun ta7 ta8 ta9 wx => ∃ b6 Q6, ta7 = .pointer (some ⟨b6, 0, none⟩) ∧ ta8 = .bool y ∧ ta9 = .int .i64 er ∧ Fz Q5 wc p q L h s' s' [.int .i64 ta, .int .i64 tp, .int .i64 tf, .bool tr, .bool tw', .bool td] wx b6 Q6)
    case first =>
      go_region_held3 (fun W => W.cell? ⟨b0, 6, none⟩ = some (.int .i64 x.t.a) ∧ W.cell? ⟨b0, 7, none⟩ = some (.int .i64 x.t.p) ∧ W.cell? ⟨p, 1, none⟩ = some (.pointer (some ⟨pt, 0, none⟩)) ∧ W.cell? ⟨q, 18, none⟩ = some (.pointer (some ⟨qt, 0, none⟩)))
        (first | (refine CE2.out _ ?_; first | with_reducible exact HKD2.out | with_reducible exact HKL2.out | with_reducible exact HK1.out | with_reducible exact HA1.out | with_reducible exact HA2.out | with_reducible exact HS6.out))
        (first
          | (go_at_call 49; refine (HPR.out _ (by first | with_reducible exact HDW2.out | with_reducible exact HAL2.out)).mono ?_; rintro e wl ⟨rfl, hB1, hK1, hK2⟩; have HK1 : Hid (Kz (Zp Q5 p q) wc wl) := hK1; have HZ1 : Hid (∀ k, Zp Q5 p q k → k < wl.heap.size) := fun k hk => hB1.zp k (Zp.mono (fun _ h => Or.inl h) k hk); have HA1 : Hid (Kz (Zp Q5 p q) wc (wl.alloc (Obj.cells #[.int .i64 0, .int .i64 0, .int .i64 0, .bool false, .bool false, .bool false] 43))) := hK1.trans (Kz.of_below ((Below.refl _ _).alloc (Nat.le_refl _) _) HZ1.out); obtain ⟨Qx, hFA⟩ := fz_new [.int .i64 ta, .int .i64 tp, .int .i64 tf, .bool tr, .bool tw', .bool td] (fun _ h => Or.inl h) hB1 hK1; have HFA : Hid (∃ Qz, Fz Q5 wc p q L h s' s' [.int .i64 ta, .int .i64 tp, .int .i64 tf, .bool tr, .bool tw', .bool td] (wl.alloc (Obj.cells #[.int .i64 ta, .int .i64 tp, .int .i64 tf, .bool tr, .bool tw', .bool td] 43)) wl.heap.size Qz) := ⟨Qx, hFA⟩; have HA2 : Hid (Kz (Zp Q5 p q) wc (wl.alloc (Obj.cells #[.int .i64 ta, .int .i64 tp, .int .i64 tf, .bool tr, .bool tw', .bool td] 43))) := hFA.kz; clear hFA; (try (have X5 := HXB2.out.of_eq (hK2.block wc.heap.size (Or.inl (Or.inr ⟨Nat.le_refl _, by simp⟩))); obtain ⟨Qy, hFB⟩ := fz_set (.int .i64 ta) (.int .i64 tp) (.int .i64 tf) (.bool tr) (.bool tw') (.bool td) (fun _ h => Or.inl h) hB1 hK1 (Or.inr ⟨Nat.le_refl _, by simp⟩) HNZ2.out X5; have HFB : Hid (∃ Qz, Fz Q5 wc p q L h s' s' [.int .i64 ta, .int .i64 tp, .int .i64 tf, .bool tr, .bool tw', .bool td] ((((((wl.setCell ⟨wc.heap.size, 0, none⟩ (.int .i64 ta)).setCell ⟨wc.heap.size, 1, none⟩ (.int .i64 tp)).setCell ⟨wc.heap.size, 2, none⟩ (.int .i64 tf)).setCell ⟨wc.heap.size, 3, none⟩ (.bool tr)).setCell ⟨wc.heap.size, 4, none⟩ (.bool tw')).setCell ⟨wc.heap.size, 5, none⟩ (.bool td)) wc.heap.size Qz) := ⟨Qy, hFB⟩; have HS6 : Hid (Kz (Zp Q5 p q) wc ((((((wl.setCell ⟨wc.heap.size, 0, none⟩ (.int .i64 ta)).setCell ⟨wc.heap.size, 1, none⟩ (.int .i64 tp)).setCell ⟨wc.heap.size, 2, none⟩ (.int .i64 tf)).setCell ⟨wc.heap.size, 3, none⟩ (.bool tr)).setCell ⟨wc.heap.size, 4, none⟩ (.bool tw')).setCell ⟨wc.heap.size, 5, none⟩ (.bool td))) := hFB.kz; have c0 := X5.cell 0; have c1 := X5.cell 1; have c2 := X5.cell 2; have c3 := X5.cell 3; have c4 := X5.cell 4; have c5 := X5.cell 5; simp only [List.getElem?_cons_zero, List.getElem?_cons_succ] at c0 c1 c2 c3 c4 c5; have f0 := X5.frozen 0; have f1 := X5.frozen 1; have f2 := X5.frozen 2; have f3 := X5.frozen 3; have f4 := X5.frozen 4; have f5 := X5.frozen 5; clear X5 hFB)); clear hB1 hK1 hK2))
      all_goals
        go_wp2_with fail
        go_meet
        case rel =>
          first
            | (obtain ⟨Qz, hF⟩ := HFB.out; with_reducible exact ⟨_, Qz, rfl, rfl, rfl, hF⟩)
            | (obtain ⟨Qz, hF⟩ := HFA.out; with_reducible exact ⟨_, Qz, rfl, rfl, rfl, hF⟩)
    case rest =>
      obtain ⟨b6, Q6, rfl, rfl, rfl, hF⟩ := hcut
      have X6 := HF5.out.bx.of_eq (hF.kz.block b5 (Or.inl HF5.out.own))
      have X7 := hF.bx
      have FI : Hid (Lv Z w p q L h (.returned (.bool true)) wc) := FIN.out wc wc ((hF.bo.less hF.sub).less HF5.out.sub) (HF5.out.kz.trans (hF.kz.less (Zp.mono HF5.out.sub))) (Below.refl _ _)
      have y0 := X6.cell 0
      have y1 := X6.cell 1
      have y2 := X6.cell 2
      have y3 := X6.cell 3
      have y4 := X6.cell 4
      have y5 := X6.cell 5
      have z0 := X7.cell 0
      have z1 := X7.cell 1
      have z2 := X7.cell 2
      have z3 := X7.cell 3
      have z4 := X7.cell 4
      have z5 := X7.cell 5
      simp only [List.getElem?_cons_zero, List.getElem?_cons_succ] at y0 y1 y2 y3 y4 y5 z0 z1 z2 z3 z4 z5
      clear hF X6 X7 HF5 HB5 HPR CE CE2 HDW2 HAL2 HKD2 HKL2 HNZ2 HXB2 FIN
      go_wp2
      go_ret
      exact FI.out
end Go.Proofs.YtokaohlgncmoaaaGreat.E
