/- The statement's 'done': a call of the core's own is answered alike by both, and leaves both alike; no condition but those named. -/
import Derived.Test.YtokaohlgncmoaaaGreatWJi
import Derived.Deep.QuietTactic
import Derived.Deep.RegionHeld3
namespace Go.Proofs.YtokaohlgncmoaaaGreat.E
open Go.ChangeShapes Go.WideShapes Go.ChangeAt Go.RowKit
set_option linter.unusedVariables false
set_option linter.unusedSimpArgs false
set_option maxRecDepth 100000
set_option maxHeartbeats 4000000 in
theorem done1 {Z : Nat → Prop} {w : World} {p q : Nat} {L : Nat → Value} {h : Hw} {s : Sc} {x : Dx} (K : Bo Z w p q L h s s) (d : Din Z w x) (hr : x.k % 11 = 1) :
    Calls Tryz.prog 9 #[.pointer (some ⟨p, 0, none⟩), .pointer (some ⟨q, 0, none⟩), .agg #[.int .i64 x.k, .slice x.la x.ln x.lc, .int .i64 x.f, .int .i64 x.g, .slice x.ba x.bn x.bc, .int .u64 x.n, .int .i64 x.t.a, .int .i64 x.t.p, .int .i64 x.t.f, .bool x.t.r, .bool x.t.w, .bool x.t.d]] w (Lv Z w p q L h) := by
  have G0 : Hid (Go0 _ _ _ _ _ _ _ _ _ _ _) := Go0.box K d
  have hx : x.ce.toArray = #[.int .i64 x.k, .slice x.la x.ln x.lc, .int .i64 x.f, .int .i64 x.g, .slice x.ba x.bn x.bc, .int .u64 x.n, .int .i64 x.t.a, .int .i64 x.t.p, .int .i64 x.t.f, .bool x.t.r, .bool x.t.w, .bool x.t.d] := rfl
  rw [hx] at G0
  clear hx
  have CK : Hid (∀ W, Calls Tryz.prog 39 #[.int .i64 x.k, .int .i64 11] W fun e w' => e = .returned (.int .i64 (x.k % 11)) ∧ w' = W) := fun W => Within_any x.k 11 (by omega) (by omega) d.k0 d.k1 W
  have hbl := d.hb
  have HNB : Hid (x.ba = none → x.bn = 0 ∧ x.bc = 0) := d.nb
  clear K d
  go_enter Tryz.func9, Tryz.ntmps9
  go_upto_region 1 with fail
  generalize w.alloc (.cells #[.int .i64 x.k, .slice x.la x.ln x.lc, .int .i64 x.f, .int .i64 x.g, .slice x.ba x.bn x.bc, .int .u64 x.n, .int .i64 x.t.a, .int .i64 x.t.p, .int .i64 x.t.f, .bool x.t.r, .bool x.t.w, .bool x.t.d] 45) = W0 at *
  generalize w.heap.size = b0 at *
  obtain ⟨Q0, hQ0⟩ : ∃ Q0, Q0 = (fun k => Z k ∨ (b0 ≤ k ∧ k < W0.heap.size)) := ⟨_, rfl⟩
  rw [← hQ0] at G0
  clear hQ0
  have CC : Hid (Calls _ _ _ _ _) := CopyB_any (c := x.bc) hbl G0.out.r.d.ab HNB.out
  have d0 : W0.cell? ⟨b0, 0, none⟩ = _ := G0.out.r.bx.cell 0
  have d4 : W0.cell? ⟨b0, 4, none⟩ = _ := G0.out.r.bx.cell 4
  simp only [Dx.ce, List.getElem?_cons_zero, List.getElem?_cons_succ] at d0 d4
  clear HNB
  go_wp2_with fail
  refine CC.out.mono ?_
  rintro e w1 ⟨ca, cc, rfl, hA, hb1, hn1, hg1⟩
  have G1 : Hid (Go0 _ _ _ _ _ _ _ _ _ _ _) := G0.out.more hb1
  have HI : Hid (∀ b off, ca = some ⟨b, off, none⟩ → (fun k => Q0 k ∨ (W0.heap.size ≤ k ∧ k < w1.heap.size)) b) := fun b off e => by
    obtain ⟨g, e2, h1, h2⟩ := hg1 _ e
    cases e2
    exact Or.inr ⟨h1, h2⟩
  have HA : Hid (D.Arg w1 ca x.bn x.bu) := hA
  obtain ⟨Q, hQ⟩ : ∃ Q, Q = (fun k => Q0 k ∨ (W0.heap.size ≤ k ∧ k < w1.heap.size)) := ⟨_, rfl⟩
  rw [← hQ] at G1 HI
  clear hQ G0 CC d0 d4 hA hb1 hn1 hg1
  have d0 : w1.cell? ⟨b0, 0, none⟩ = _ := G1.out.r.bx.cell 0
  simp only [Dx.ce, List.getElem?_cons_zero] at d0
  go_wp2_with (go_at_call 39; refine (CK.out _).mono ?_; rintro e w' ⟨rfl, hw'⟩; obtain rfl := hw'.symm; rw [hr])
  clear CK d0 hr HA HI
  obtain ⟨v, s', B⟩ := zero_both Q p q L h s x.f
  have P1 := B.one G1.out.bo (fun _ _ => trivial)
  have P2 := B.two (w := w1) (fun _ _ => trivial)
  have HP1 : Hid _ := P1
  have HP2 : Hid _ := P2
  clear P1 P2 B
  have CE : Hid (∀ W, Kz Q w1 W → (W.cell? ⟨b0, 2, none⟩ = some (.int .i64 x.f))) := fun W k => (G1.out.r.kz k).bx.cell 2
  have FIN : Hid (∀ W, Bo Q W p q L h s' s' → Kz Q w1 W → Lv Z w p q L h (.returned (.bool true)) W) := fun W b k => G1.out.lv b k
  have HZ : Hid (∀ W, Below w1.heap.size w1 W → Kz Q w1 W) := fun W b => Kz.of_below b G1.out.bo.z
  clear G1
  have hv : (v == v) = true := by simp
  go_region_held3 (fun W => W.cell? ⟨b0, 2, none⟩ = some (.int .i64 x.f))
    (first | exact CE.out _ (HZ.out _ (Below.refl _ _).drew) | exact CE.out _ HK1.out | exact CE.out _ HK2.out | exact CE.out _ (HZ.out _ (Below.refl _ _)))
    (first
      | (go_at_call 21; refine (HP1.out _ (by first | exact (Below.refl _ _).drew | exact Below.refl _ _)).mono ?_; rintro e wl ⟨rfl, hB1, hK1⟩; have HB1 : Hid (Bo _ _ _ _ _ _ _ _) := hB1; have HK1 : Hid (Kz _ _ _) := hK1; clear hB1 hK1)
      | (go_at_call 41; refine (HP2.out _ HB1.out HK1.out).mono ?_; rintro e wq ⟨rfl, hB2, hK2⟩; have HB2 : Hid (Bo _ _ _ _ _ _ _ _) := hB2; have HK2 : Hid (Kz _ _ _) := hK2; clear hB2 hK2))
  go_wp2
  go_ret
  exact FIN.out _ HB2.out HK2.out
set_option maxHeartbeats 4000000 in
theorem done2 {Z : Nat → Prop} {w : World} {p q : Nat} {L : Nat → Value} {h : Hw} {s : Sc} {x : Dx} (K : Bo Z w p q L h s s) (d : Din Z w x) (hr : x.k % 11 = 2) :
    Calls Tryz.prog 9 #[.pointer (some ⟨p, 0, none⟩), .pointer (some ⟨q, 0, none⟩), .agg #[.int .i64 x.k, .slice x.la x.ln x.lc, .int .i64 x.f, .int .i64 x.g, .slice x.ba x.bn x.bc, .int .u64 x.n, .int .i64 x.t.a, .int .i64 x.t.p, .int .i64 x.t.f, .bool x.t.r, .bool x.t.w, .bool x.t.d]] w (Lv Z w p q L h) := by
  have G0 : Hid (Go0 _ _ _ _ _ _ _ _ _ _ _) := Go0.box K d
  have hx : x.ce.toArray = #[.int .i64 x.k, .slice x.la x.ln x.lc, .int .i64 x.f, .int .i64 x.g, .slice x.ba x.bn x.bc, .int .u64 x.n, .int .i64 x.t.a, .int .i64 x.t.p, .int .i64 x.t.f, .bool x.t.r, .bool x.t.w, .bool x.t.d] := rfl
  rw [hx] at G0
  clear hx
  have CK : Hid (∀ W, Calls Tryz.prog 39 #[.int .i64 x.k, .int .i64 11] W fun e w' => e = .returned (.int .i64 (x.k % 11)) ∧ w' = W) := fun W => Within_any x.k 11 (by omega) (by omega) d.k0 d.k1 W
  have hbl := d.hb
  have HNB : Hid (x.ba = none → x.bn = 0 ∧ x.bc = 0) := d.nb
  clear K d
  go_enter Tryz.func9, Tryz.ntmps9
  go_upto_region 1 with fail
  generalize w.alloc (.cells #[.int .i64 x.k, .slice x.la x.ln x.lc, .int .i64 x.f, .int .i64 x.g, .slice x.ba x.bn x.bc, .int .u64 x.n, .int .i64 x.t.a, .int .i64 x.t.p, .int .i64 x.t.f, .bool x.t.r, .bool x.t.w, .bool x.t.d] 45) = W0 at *
  generalize w.heap.size = b0 at *
  obtain ⟨Q0, hQ0⟩ : ∃ Q0, Q0 = (fun k => Z k ∨ (b0 ≤ k ∧ k < W0.heap.size)) := ⟨_, rfl⟩
  rw [← hQ0] at G0
  clear hQ0
  have CC : Hid (Calls _ _ _ _ _) := CopyB_any (c := x.bc) hbl G0.out.r.d.ab HNB.out
  have d0 : W0.cell? ⟨b0, 0, none⟩ = _ := G0.out.r.bx.cell 0
  have d4 : W0.cell? ⟨b0, 4, none⟩ = _ := G0.out.r.bx.cell 4
  simp only [Dx.ce, List.getElem?_cons_zero, List.getElem?_cons_succ] at d0 d4
  clear HNB
  go_wp2_with fail
  refine CC.out.mono ?_
  rintro e w1 ⟨ca, cc, rfl, hA, hb1, hn1, hg1⟩
  have G1 : Hid (Go0 _ _ _ _ _ _ _ _ _ _ _) := G0.out.more hb1
  have HI : Hid (∀ b off, ca = some ⟨b, off, none⟩ → (fun k => Q0 k ∨ (W0.heap.size ≤ k ∧ k < w1.heap.size)) b) := fun b off e => by
    obtain ⟨g, e2, h1, h2⟩ := hg1 _ e
    cases e2
    exact Or.inr ⟨h1, h2⟩
  have HA : Hid (D.Arg w1 ca x.bn x.bu) := hA
  obtain ⟨Q, hQ⟩ : ∃ Q, Q = (fun k => Q0 k ∨ (W0.heap.size ≤ k ∧ k < w1.heap.size)) := ⟨_, rfl⟩
  rw [← hQ] at G1 HI
  clear hQ G0 CC d0 d4 hA hb1 hn1 hg1
  have d0 : w1.cell? ⟨b0, 0, none⟩ = _ := G1.out.r.bx.cell 0
  simp only [Dx.ce, List.getElem?_cons_zero] at d0
  go_wp2_with (go_at_call 39; refine (CK.out _).mono ?_; rintro e w' ⟨rfl, hw'⟩; obtain rfl := hw'.symm; rw [hr])
  clear CK d0 hr HA HI
  obtain ⟨v, s', B⟩ := copy_both Q p q L h s x.f x.g
  have P1 := B.one G1.out.bo (fun _ _ => trivial)
  have P2 := B.two (w := w1) (fun _ _ => trivial)
  have HP1 : Hid _ := P1
  have HP2 : Hid _ := P2
  clear P1 P2 B
  have CE : Hid (∀ W, Kz Q w1 W → (W.cell? ⟨b0, 2, none⟩ = some (.int .i64 x.f) ∧ W.cell? ⟨b0, 3, none⟩ = some (.int .i64 x.g))) := fun W k => ⟨(G1.out.r.kz k).bx.cell 2, (G1.out.r.kz k).bx.cell 3⟩
  have FIN : Hid (∀ W, Bo Q W p q L h s' s' → Kz Q w1 W → Lv Z w p q L h (.returned (.bool true)) W) := fun W b k => G1.out.lv b k
  have HZ : Hid (∀ W, Below w1.heap.size w1 W → Kz Q w1 W) := fun W b => Kz.of_below b G1.out.bo.z
  clear G1
  have hv : (v == v) = true := by simp
  go_region_held3 (fun W => W.cell? ⟨b0, 2, none⟩ = some (.int .i64 x.f) ∧ W.cell? ⟨b0, 3, none⟩ = some (.int .i64 x.g))
    (first | exact CE.out _ (HZ.out _ (Below.refl _ _).drew) | exact CE.out _ HK1.out | exact CE.out _ HK2.out | exact CE.out _ (HZ.out _ (Below.refl _ _)))
    (first
      | (go_at_call 22; refine (HP1.out _ (by first | exact (Below.refl _ _).drew | exact Below.refl _ _)).mono ?_; rintro e wl ⟨rfl, hB1, hK1⟩; have HB1 : Hid (Bo _ _ _ _ _ _ _ _) := hB1; have HK1 : Hid (Kz _ _ _) := hK1; clear hB1 hK1)
      | (go_at_call 42; refine (HP2.out _ HB1.out HK1.out).mono ?_; rintro e wq ⟨rfl, hB2, hK2⟩; have HB2 : Hid (Bo _ _ _ _ _ _ _ _) := hB2; have HK2 : Hid (Kz _ _ _) := hK2; clear hB2 hK2))
  go_wp2
  go_ret
  exact FIN.out _ HB2.out HK2.out
set_option maxHeartbeats 4000000 in
theorem done4 {Z : Nat → Prop} {w : World} {p q : Nat} {L : Nat → Value} {h : Hw} {s : Sc} {x : Dx} (K : Bo Z w p q L h s s) (d : Din Z w x) (hr : x.k % 11 = 4) :
    Calls Tryz.prog 9 #[.pointer (some ⟨p, 0, none⟩), .pointer (some ⟨q, 0, none⟩), .agg #[.int .i64 x.k, .slice x.la x.ln x.lc, .int .i64 x.f, .int .i64 x.g, .slice x.ba x.bn x.bc, .int .u64 x.n, .int .i64 x.t.a, .int .i64 x.t.p, .int .i64 x.t.f, .bool x.t.r, .bool x.t.w, .bool x.t.d]] w (Lv Z w p q L h) := by
  have G0 : Hid (Go0 _ _ _ _ _ _ _ _ _ _ _) := Go0.box K d
  have hx : x.ce.toArray = #[.int .i64 x.k, .slice x.la x.ln x.lc, .int .i64 x.f, .int .i64 x.g, .slice x.ba x.bn x.bc, .int .u64 x.n, .int .i64 x.t.a, .int .i64 x.t.p, .int .i64 x.t.f, .bool x.t.r, .bool x.t.w, .bool x.t.d] := rfl
  rw [hx] at G0
  clear hx
  have CK : Hid (∀ W, Calls Tryz.prog 39 #[.int .i64 x.k, .int .i64 11] W fun e w' => e = .returned (.int .i64 (x.k % 11)) ∧ w' = W) := fun W => Within_any x.k 11 (by omega) (by omega) d.k0 d.k1 W
  have hbl := d.hb
  have HNB : Hid (x.ba = none → x.bn = 0 ∧ x.bc = 0) := d.nb
  clear K d
  go_enter Tryz.func9, Tryz.ntmps9
  go_upto_region 1 with fail
  generalize w.alloc (.cells #[.int .i64 x.k, .slice x.la x.ln x.lc, .int .i64 x.f, .int .i64 x.g, .slice x.ba x.bn x.bc, .int .u64 x.n, .int .i64 x.t.a, .int .i64 x.t.p, .int .i64 x.t.f, .bool x.t.r, .bool x.t.w, .bool x.t.d] 45) = W0 at *
  generalize w.heap.size = b0 at *
  obtain ⟨Q0, hQ0⟩ : ∃ Q0, Q0 = (fun k => Z k ∨ (b0 ≤ k ∧ k < W0.heap.size)) := ⟨_, rfl⟩
  rw [← hQ0] at G0
  clear hQ0
  have CC : Hid (Calls _ _ _ _ _) := CopyB_any (c := x.bc) hbl G0.out.r.d.ab HNB.out
  have d0 : W0.cell? ⟨b0, 0, none⟩ = _ := G0.out.r.bx.cell 0
  have d4 : W0.cell? ⟨b0, 4, none⟩ = _ := G0.out.r.bx.cell 4
  simp only [Dx.ce, List.getElem?_cons_zero, List.getElem?_cons_succ] at d0 d4
  clear HNB
  go_wp2_with fail
  refine CC.out.mono ?_
  rintro e w1 ⟨ca, cc, rfl, hA, hb1, hn1, hg1⟩
  have G1 : Hid (Go0 _ _ _ _ _ _ _ _ _ _ _) := G0.out.more hb1
  have HI : Hid (∀ b off, ca = some ⟨b, off, none⟩ → (fun k => Q0 k ∨ (W0.heap.size ≤ k ∧ k < w1.heap.size)) b) := fun b off e => by
    obtain ⟨g, e2, h1, h2⟩ := hg1 _ e
    cases e2
    exact Or.inr ⟨h1, h2⟩
  have HA : Hid (D.Arg w1 ca x.bn x.bu) := hA
  obtain ⟨Q, hQ⟩ : ∃ Q, Q = (fun k => Q0 k ∨ (W0.heap.size ≤ k ∧ k < w1.heap.size)) := ⟨_, rfl⟩
  rw [← hQ] at G1 HI
  clear hQ G0 CC d0 d4 hA hb1 hn1 hg1
  have d0 : w1.cell? ⟨b0, 0, none⟩ = _ := G1.out.r.bx.cell 0
  simp only [Dx.ce, List.getElem?_cons_zero] at d0
  go_wp2_with (go_at_call 39; refine (CK.out _).mono ?_; rintro e w' ⟨rfl, hw'⟩; obtain rfl := hw'.symm; rw [hr])
  clear CK d0 hr HA HI
  obtain ⟨v, s', B⟩ := charge_both Q p q L h s x.n G1.out.r.d.n0
  have P1 := B.one G1.out.bo (fun _ _ => trivial)
  have P2 := B.two (w := w1) (fun _ _ => trivial)
  have HP1 : Hid _ := P1
  have HP2 : Hid _ := P2
  clear P1 P2 B
  have CE : Hid (∀ W, Kz Q w1 W → (W.cell? ⟨b0, 5, none⟩ = some (.int .u64 x.n))) := fun W k => (G1.out.r.kz k).bx.cell 5
  have FIN : Hid (∀ W, Bo Q W p q L h s' s' → Kz Q w1 W → Lv Z w p q L h (.returned (.bool true)) W) := fun W b k => G1.out.lv b k
  have HZ : Hid (∀ W, Below w1.heap.size w1 W → Kz Q w1 W) := fun W b => Kz.of_below b G1.out.bo.z
  clear G1
  have hv : (v == v) = true := by simp
  go_region_held3 (fun W => W.cell? ⟨b0, 5, none⟩ = some (.int .u64 x.n))
    (first | exact CE.out _ (HZ.out _ (Below.refl _ _).drew) | exact CE.out _ HK1.out | exact CE.out _ HK2.out | exact CE.out _ (HZ.out _ (Below.refl _ _)))
    (first
      | (go_at_call 20; refine (HP1.out _ (by first | exact (Below.refl _ _).drew | exact Below.refl _ _)).mono ?_; rintro e wl ⟨rfl, hB1, hK1⟩; have HB1 : Hid (Bo _ _ _ _ _ _ _ _) := hB1; have HK1 : Hid (Kz _ _ _) := hK1; clear hB1 hK1)
      | (go_at_call 45; refine (HP2.out _ HB1.out HK1.out).mono ?_; rintro e wq ⟨rfl, hB2, hK2⟩; have HB2 : Hid (Bo _ _ _ _ _ _ _ _) := hB2; have HK2 : Hid (Kz _ _ _) := hK2; clear hB2 hK2))
  go_wp2
  go_ret
  exact FIN.out _ HB2.out HK2.out
end Go.Proofs.YtokaohlgncmoaaaGreat.E
namespace Go.Proofs.YtokaohlgncmoaaaGreat.E
open Go.ChangeShapes Go.WideShapes Go.ChangeAt Go.RowKit
set_option linter.unusedVariables false
set_option linter.unusedSimpArgs false
set_option maxRecDepth 100000
set_option maxHeartbeats 4000000 in
theorem done3 {Z : Nat → Prop} {w : World} {p q : Nat} {L : Nat → Value} {h : Hw} {s : Sc} {x : Dx} (K : Bo Z w p q L h s s) (d : Din Z w x) (hr : x.k % 11 = 3) :
    Calls Tryz.prog 9 #[.pointer (some ⟨p, 0, none⟩), .pointer (some ⟨q, 0, none⟩), .agg #[.int .i64 x.k, .slice x.la x.ln x.lc, .int .i64 x.f, .int .i64 x.g, .slice x.ba x.bn x.bc, .int .u64 x.n, .int .i64 x.t.a, .int .i64 x.t.p, .int .i64 x.t.f, .bool x.t.r, .bool x.t.w, .bool x.t.d]] w (Lv Z w p q L h) := by
  have G0 : Hid (Go0 _ _ _ _ _ _ _ _ _ _ _) := Go0.box K d
  have hx : x.ce.toArray = #[.int .i64 x.k, .slice x.la x.ln x.lc, .int .i64 x.f, .int .i64 x.g, .slice x.ba x.bn x.bc, .int .u64 x.n, .int .i64 x.t.a, .int .i64 x.t.p, .int .i64 x.t.f, .bool x.t.r, .bool x.t.w, .bool x.t.d] := rfl
  rw [hx] at G0
  clear hx
  have CK : Hid (∀ W, Calls Tryz.prog 39 #[.int .i64 x.k, .int .i64 11] W fun e w' => e = .returned (.int .i64 (x.k % 11)) ∧ w' = W) := fun W => Within_any x.k 11 (by omega) (by omega) d.k0 d.k1 W
  have hbl := d.hb
  have HNB : Hid (x.ba = none → x.bn = 0 ∧ x.bc = 0) := d.nb
  clear K d
  go_enter Tryz.func9, Tryz.ntmps9
  go_upto_region 1 with fail
  generalize w.alloc (.cells #[.int .i64 x.k, .slice x.la x.ln x.lc, .int .i64 x.f, .int .i64 x.g, .slice x.ba x.bn x.bc, .int .u64 x.n, .int .i64 x.t.a, .int .i64 x.t.p, .int .i64 x.t.f, .bool x.t.r, .bool x.t.w, .bool x.t.d] 45) = W0 at *
  generalize w.heap.size = b0 at *
  obtain ⟨Q0, hQ0⟩ : ∃ Q0, Q0 = (fun k => Z k ∨ (b0 ≤ k ∧ k < W0.heap.size)) := ⟨_, rfl⟩
  rw [← hQ0] at G0
  clear hQ0
  have CC : Hid (Calls _ _ _ _ _) := CopyB_any (c := x.bc) hbl G0.out.r.d.ab HNB.out
  have d0 : W0.cell? ⟨b0, 0, none⟩ = _ := G0.out.r.bx.cell 0
  have d4 : W0.cell? ⟨b0, 4, none⟩ = _ := G0.out.r.bx.cell 4
  simp only [Dx.ce, List.getElem?_cons_zero, List.getElem?_cons_succ] at d0 d4
  clear HNB
  go_wp2_with fail
  refine CC.out.mono ?_
  rintro e w1 ⟨ca, cc, rfl, hA, hb1, hn1, hg1⟩
  have G1 : Hid (Go0 _ _ _ _ _ _ _ _ _ _ _) := G0.out.more hb1
  have HI : Hid (∀ b off, ca = some ⟨b, off, none⟩ → (fun k => Q0 k ∨ (W0.heap.size ≤ k ∧ k < w1.heap.size)) b) := fun b off e => by
    obtain ⟨g, e2, h1, h2⟩ := hg1 _ e
    cases e2
    exact Or.inr ⟨h1, h2⟩
  have HA : Hid (D.Arg w1 ca x.bn x.bu) := hA
  obtain ⟨Q, hQ⟩ : ∃ Q, Q = (fun k => Q0 k ∨ (W0.heap.size ≤ k ∧ k < w1.heap.size)) := ⟨_, rfl⟩
  rw [← hQ] at G1 HI
  clear hQ G0 CC d0 d4 hA hb1 hn1 hg1
  have d0 : w1.cell? ⟨b0, 0, none⟩ = _ := G1.out.r.bx.cell 0
  simp only [Dx.ce, List.getElem?_cons_zero] at d0
  go_wp2_with (go_at_call 39; refine (CK.out _).mono ?_; rintro e w' ⟨rfl, hw'⟩; obtain rfl := hw'.symm; rw [hr])
  clear CK d0 hr
  have hln : x.bn ≤ maxLen := by unfold maxLen; omega
  obtain ⟨v, s', B⟩ := bring_both Q p q L h s x.f x.bn x.bu hln G1.out.r.d.ok ca x.ba cc x.bc G1.out.r.d.ib
  have HS : ∀ W, Kz Q w1 W → D.Arg W ca x.bn x.bu ∧ D.Arg W x.ba x.bn x.bu := fun W k => ⟨argB_kz HA.out k (Or.inr HI.out), (G1.out.r.d.kz k).ab⟩
  have P1 := B.one G1.out.bo HS
  have P2 := B.two (w := w1) HS
  have HP1 : Hid _ := P1
  have HP2 : Hid _ := P2
  have HQ : Hid (∀ W, Kz Q w1 W → Calls Tryz.prog 44 #[.slice ca x.bn cc, .slice x.ba x.bn x.bc] W fun e w' => e = .returned (.bool true) ∧ Below W.heap.size W w') := fun W k => (D.same_any hln (HS W k).1 (HS W k).2).mono fun e w' ⟨he, hg⟩ => ⟨he, (Below.refl _ W).grown hg (Nat.le_refl _) (fun k hk => by cases hk)⟩
  clear P1 P2 B HS
  have CE : Hid (∀ W, Kz Q w1 W → (W.cell? ⟨b0, 2, none⟩ = some (.int .i64 x.f) ∧ W.cell? ⟨b0, 4, none⟩ = some (.slice x.ba x.bn x.bc))) := fun W k => ⟨(G1.out.r.kz k).bx.cell 2, (G1.out.r.kz k).bx.cell 4⟩
  have FIN : Hid (∀ W W', Bo Q W p q L h s' s' → Kz Q w1 W → Below W.heap.size W W' → Lv Z w p q L h (.returned (.bool true)) W') := fun W W' b k l => G1.out.lv (b.below l) (k.trans (Kz.of_below l b.z))
  have HZ : Hid (∀ W, Below w1.heap.size w1 W → Kz Q w1 W) := fun W b => Kz.of_below b G1.out.bo.z
  have HKB : Hid (∀ W W', Bo Q W p q L h s' s' → Kz Q w1 W → Below W.heap.size W W' → Kz Q w1 W') := fun W W' b k l => k.trans (Kz.of_below l b.z)
  clear G1 HA HI hln
  have hv : (v == v) = true := by simp
  have hd : decide (v = v) = true := by simp
  go_region_held3 (fun W => W.cell? ⟨b0, 2, none⟩ = some (.int .i64 x.f) ∧ W.cell? ⟨b0, 4, none⟩ = some (.slice x.ba x.bn x.bc))
    (first | exact CE.out _ (HZ.out _ (Below.refl _ _).drew) | exact CE.out _ HK1.out | exact CE.out _ HK2.out | exact CE.out _ (HZ.out _ (Below.refl _ _)) | exact CE.out _ (HKB.out _ _ HB2.out HK2.out HB3.out))
    (first
      | (go_at_call 23; refine (HP1.out _ (by first | exact (Below.refl _ _).drew | exact Below.refl _ _)).mono ?_; rintro e wl ⟨rfl, hB1, hK1⟩; have HB1 : Hid (Bo _ _ _ _ _ _ _ _) := hB1; have HK1 : Hid (Kz _ _ _) := hK1; clear hB1 hK1)
      | (go_at_call 43; refine (HP2.out _ HB1.out HK1.out).mono ?_; rintro e wq ⟨rfl, hB2, hK2⟩; have HB2 : Hid (Bo _ _ _ _ _ _ _ _) := hB2; have HK2 : Hid (Kz _ _ _) := hK2; clear hB2 hK2)
      | (go_at_call 44; refine (HQ.out _ HK2.out).mono ?_; rintro e we ⟨rfl, hB3⟩; have HB3 : Hid (Below _ _ _) := hB3; clear hB3))
  all_goals
    go_wp2
    go_ret
    exact FIN.out _ _ HB2.out HK2.out HB3.out
set_option maxHeartbeats 4000000 in
theorem done5 {Z : Nat → Prop} {w : World} {p q : Nat} {L : Nat → Value} {h : Hw} {s : Sc} {x : Dx} (K : Bo Z w p q L h s s) (d : Din Z w x) (hr : x.k % 11 = 5) :
    Calls Tryz.prog 9 #[.pointer (some ⟨p, 0, none⟩), .pointer (some ⟨q, 0, none⟩), .agg #[.int .i64 x.k, .slice x.la x.ln x.lc, .int .i64 x.f, .int .i64 x.g, .slice x.ba x.bn x.bc, .int .u64 x.n, .int .i64 x.t.a, .int .i64 x.t.p, .int .i64 x.t.f, .bool x.t.r, .bool x.t.w, .bool x.t.d]] w (Lv Z w p q L h) := by
  have G0 : Hid (Go0 _ _ _ _ _ _ _ _ _ _ _) := Go0.box K d
  have hx : x.ce.toArray = #[.int .i64 x.k, .slice x.la x.ln x.lc, .int .i64 x.f, .int .i64 x.g, .slice x.ba x.bn x.bc, .int .u64 x.n, .int .i64 x.t.a, .int .i64 x.t.p, .int .i64 x.t.f, .bool x.t.r, .bool x.t.w, .bool x.t.d] := rfl
  rw [hx] at G0
  clear hx
  have CK : Hid (∀ W, Calls Tryz.prog 39 #[.int .i64 x.k, .int .i64 11] W fun e w' => e = .returned (.int .i64 (x.k % 11)) ∧ w' = W) := fun W => Within_any x.k 11 (by omega) (by omega) d.k0 d.k1 W
  have hbl := d.hb
  have HNB : Hid (x.ba = none → x.bn = 0 ∧ x.bc = 0) := d.nb
  clear K d
  go_enter Tryz.func9, Tryz.ntmps9
  go_upto_region 1 with fail
  generalize w.alloc (.cells #[.int .i64 x.k, .slice x.la x.ln x.lc, .int .i64 x.f, .int .i64 x.g, .slice x.ba x.bn x.bc, .int .u64 x.n, .int .i64 x.t.a, .int .i64 x.t.p, .int .i64 x.t.f, .bool x.t.r, .bool x.t.w, .bool x.t.d] 45) = W0 at *
  generalize w.heap.size = b0 at *
  obtain ⟨Q0, hQ0⟩ : ∃ Q0, Q0 = (fun k => Z k ∨ (b0 ≤ k ∧ k < W0.heap.size)) := ⟨_, rfl⟩
  rw [← hQ0] at G0
  clear hQ0
  have CC : Hid (Calls _ _ _ _ _) := CopyB_any (c := x.bc) hbl G0.out.r.d.ab HNB.out
  have d0 : W0.cell? ⟨b0, 0, none⟩ = _ := G0.out.r.bx.cell 0
  have d4 : W0.cell? ⟨b0, 4, none⟩ = _ := G0.out.r.bx.cell 4
  simp only [Dx.ce, List.getElem?_cons_zero, List.getElem?_cons_succ] at d0 d4
  clear HNB
  go_wp2_with fail
  refine CC.out.mono ?_
  rintro e w1 ⟨ca, cc, rfl, hA, hb1, hn1, hg1⟩
  have G1 : Hid (Go0 _ _ _ _ _ _ _ _ _ _ _) := G0.out.more hb1
  have HI : Hid (∀ b off, ca = some ⟨b, off, none⟩ → (fun k => Q0 k ∨ (W0.heap.size ≤ k ∧ k < w1.heap.size)) b) := fun b off e => by
    obtain ⟨g, e2, h1, h2⟩ := hg1 _ e
    cases e2
    exact Or.inr ⟨h1, h2⟩
  have HA : Hid (D.Arg w1 ca x.bn x.bu) := hA
  obtain ⟨Q, hQ⟩ : ∃ Q, Q = (fun k => Q0 k ∨ (W0.heap.size ≤ k ∧ k < w1.heap.size)) := ⟨_, rfl⟩
  rw [← hQ] at G1 HI
  clear hQ G0 CC d0 d4 hA hb1 hn1 hg1
  have d0 : w1.cell? ⟨b0, 0, none⟩ = _ := G1.out.r.bx.cell 0
  simp only [Dx.ce, List.getElem?_cons_zero] at d0
  go_wp2_with (go_at_call 39; refine (CK.out _).mono ?_; rintro e w' ⟨rfl, hw'⟩; obtain rfl := hw'.symm; rw [hr])
  clear CK d0 hr HA HI
  have B := settle_both Q p q L h s
  have P1 := B.one G1.out.bo (fun _ _ => trivial)
  have P2 := B.two (w := w1) (fun _ _ => trivial)
  have HP1 : Hid _ := P1
  have HP2 : Hid _ := P2
  clear P1 P2 B
  have FIN : Hid (∀ W, Bo Q W p q L h { s with z := 0 } { s with z := 0 } → Kz Q w1 W → Lv Z w p q L h (.returned (.bool true)) W) := fun W b k => G1.out.lv b k
  clear G1
  have hv : ((s.z : Int) == s.z) = true := by simp
  go_wp2_with (first
      | (go_at_call 11; refine (HP1.out _ (by first | exact (Below.refl _ _).drew | exact Below.refl _ _)).mono ?_; rintro e wl ⟨rfl, hB1, hK1⟩; have HB1 : Hid (Bo _ _ _ _ _ _ _ _) := hB1; have HK1 : Hid (Kz _ _ _) := hK1; clear hB1 hK1)
      | (go_at_call 12; refine (HP2.out _ HB1.out HK1.out).mono ?_; rintro e wq ⟨rfl, hB2, hK2⟩; have HB2 : Hid (Bo _ _ _ _ _ _ _ _) := hB2; have HK2 : Hid (Kz _ _ _) := hK2; clear hB2 hK2))
  go_ret
  exact FIN.out _ HB2.out HK2.out
set_option maxHeartbeats 4000000 in
theorem doneE {Z : Nat → Prop} {w : World} {p q : Nat} {L : Nat → Value} {h : Hw} {s : Sc} {x : Dx} (K : Bo Z w p q L h s s) (d : Din Z w x) (hr : x.k % 11 = 7 ∨ x.k % 11 = 8 ∨ x.k % 11 = 9 ∨ x.k % 11 = 10) :
    Calls Tryz.prog 9 #[.pointer (some ⟨p, 0, none⟩), .pointer (some ⟨q, 0, none⟩), .agg #[.int .i64 x.k, .slice x.la x.ln x.lc, .int .i64 x.f, .int .i64 x.g, .slice x.ba x.bn x.bc, .int .u64 x.n, .int .i64 x.t.a, .int .i64 x.t.p, .int .i64 x.t.f, .bool x.t.r, .bool x.t.w, .bool x.t.d]] w (Lv Z w p q L h) := by
  have G0 : Hid (Go0 _ _ _ _ _ _ _ _ _ _ _) := Go0.box K d
  have hx : x.ce.toArray = #[.int .i64 x.k, .slice x.la x.ln x.lc, .int .i64 x.f, .int .i64 x.g, .slice x.ba x.bn x.bc, .int .u64 x.n, .int .i64 x.t.a, .int .i64 x.t.p, .int .i64 x.t.f, .bool x.t.r, .bool x.t.w, .bool x.t.d] := rfl
  rw [hx] at G0
  clear hx
  have CK : Hid (∀ W, Calls Tryz.prog 39 #[.int .i64 x.k, .int .i64 11] W fun e w' => e = .returned (.int .i64 (x.k % 11)) ∧ w' = W) := fun W => Within_any x.k 11 (by omega) (by omega) d.k0 d.k1 W
  have hbl := d.hb
  have HNB : Hid (x.ba = none → x.bn = 0 ∧ x.bc = 0) := d.nb
  clear K d
  go_enter Tryz.func9, Tryz.ntmps9
  go_upto_region 1 with fail
  generalize w.alloc (.cells #[.int .i64 x.k, .slice x.la x.ln x.lc, .int .i64 x.f, .int .i64 x.g, .slice x.ba x.bn x.bc, .int .u64 x.n, .int .i64 x.t.a, .int .i64 x.t.p, .int .i64 x.t.f, .bool x.t.r, .bool x.t.w, .bool x.t.d] 45) = W0 at *
  generalize w.heap.size = b0 at *
  obtain ⟨Q0, hQ0⟩ : ∃ Q0, Q0 = (fun k => Z k ∨ (b0 ≤ k ∧ k < W0.heap.size)) := ⟨_, rfl⟩
  rw [← hQ0] at G0
  clear hQ0
  have CC : Hid (Calls _ _ _ _ _) := CopyB_any (c := x.bc) hbl G0.out.r.d.ab HNB.out
  have d0 : W0.cell? ⟨b0, 0, none⟩ = _ := G0.out.r.bx.cell 0
  have d4 : W0.cell? ⟨b0, 4, none⟩ = _ := G0.out.r.bx.cell 4
  simp only [Dx.ce, List.getElem?_cons_zero, List.getElem?_cons_succ] at d0 d4
  clear HNB
  go_wp2_with fail
  refine CC.out.mono ?_
  rintro e w1 ⟨ca, cc, rfl, hA, hb1, hn1, hg1⟩
  have G1 : Hid (Go0 _ _ _ _ _ _ _ _ _ _ _) := G0.out.more hb1
  have HI : Hid (∀ b off, ca = some ⟨b, off, none⟩ → (fun k => Q0 k ∨ (W0.heap.size ≤ k ∧ k < w1.heap.size)) b) := fun b off e => by
    obtain ⟨g, e2, h1, h2⟩ := hg1 _ e
    cases e2
    exact Or.inr ⟨h1, h2⟩
  have HA : Hid (D.Arg w1 ca x.bn x.bu) := hA
  obtain ⟨Q, hQ⟩ : ∃ Q, Q = (fun k => Q0 k ∨ (W0.heap.size ≤ k ∧ k < w1.heap.size)) := ⟨_, rfl⟩
  rw [← hQ] at G1 HI
  clear hQ G0 CC d0 d4 hA hb1 hn1 hg1
  have d0 : w1.cell? ⟨b0, 0, none⟩ = _ := G1.out.r.bx.cell 0
  simp only [Dx.ce, List.getElem?_cons_zero] at d0
  go_wp2_with (go_at_call 39; refine (CK.out _).mono ?_; rintro e w' ⟨rfl, hw'⟩; obtain rfl := hw'.symm; generalize x.k % 11 = kk at hr)
  have FIN : Hid (Lv Z w p q L h (.returned (.bool true)) w1) := G1.out.lv G1.out.bo (Kz.refl _ _)
  clear CK d0 HA HI G1
  rcases hr with rfl | rfl | rfl | rfl
  all_goals
    go_wp2
    go_ret
    exact FIN.out
end Go.Proofs.YtokaohlgncmoaaaGreat.E
namespace Go.Proofs.YtokaohlgncmoaaaGreat.E
open Go.ChangeShapes Go.WideShapes Go.ChangeAt Go.RowKit
set_option linter.unusedVariables false
set_option linter.unusedSimpArgs false
set_option maxRecDepth 100000
set_option maxHeartbeats 4000000 in
theorem done6 {Z : Nat → Prop} {w : World} {p q : Nat} {L : Nat → Value} {h : Hw} {s : Sc} {x : Dx} (K : Bo Z w p q L h s s) (d : Din Z w x) (hr : x.k % 11 = 6) :
    Calls Tryz.prog 9 #[.pointer (some ⟨p, 0, none⟩), .pointer (some ⟨q, 0, none⟩), .agg #[.int .i64 x.k, .slice x.la x.ln x.lc, .int .i64 x.f, .int .i64 x.g, .slice x.ba x.bn x.bc, .int .u64 x.n, .int .i64 x.t.a, .int .i64 x.t.p, .int .i64 x.t.f, .bool x.t.r, .bool x.t.w, .bool x.t.d]] w (Lv Z w p q L h) := by
  have G0 : Hid (Go0 _ _ _ _ _ _ _ _ _ _ _) := Go0.box K d
  have hx : x.ce.toArray = #[.int .i64 x.k, .slice x.la x.ln x.lc, .int .i64 x.f, .int .i64 x.g, .slice x.ba x.bn x.bc, .int .u64 x.n, .int .i64 x.t.a, .int .i64 x.t.p, .int .i64 x.t.f, .bool x.t.r, .bool x.t.w, .bool x.t.d] := rfl
  rw [hx] at G0
  clear hx
  have CK : Hid (∀ W, Calls Tryz.prog 39 #[.int .i64 x.k, .int .i64 11] W fun e w' => e = .returned (.int .i64 (x.k % 11)) ∧ w' = W) := fun W => Within_any x.k 11 (by omega) (by omega) d.k0 d.k1 W
  have hbl := d.hb
  have HNB : Hid (x.ba = none → x.bn = 0 ∧ x.bc = 0) := d.nb
  clear K d
  go_enter Tryz.func9, Tryz.ntmps9
  go_upto_region 1 with fail
  generalize w.alloc (.cells #[.int .i64 x.k, .slice x.la x.ln x.lc, .int .i64 x.f, .int .i64 x.g, .slice x.ba x.bn x.bc, .int .u64 x.n, .int .i64 x.t.a, .int .i64 x.t.p, .int .i64 x.t.f, .bool x.t.r, .bool x.t.w, .bool x.t.d] 45) = W0 at *
  generalize w.heap.size = b0 at *
  obtain ⟨Q0, hQ0⟩ : ∃ Q0, Q0 = (fun k => Z k ∨ (b0 ≤ k ∧ k < W0.heap.size)) := ⟨_, rfl⟩
  rw [← hQ0] at G0
  clear hQ0
  have CC : Hid (Calls _ _ _ _ _) := CopyB_any (c := x.bc) hbl G0.out.r.d.ab HNB.out
  have d0 : W0.cell? ⟨b0, 0, none⟩ = _ := G0.out.r.bx.cell 0
  have d4 : W0.cell? ⟨b0, 4, none⟩ = _ := G0.out.r.bx.cell 4
  simp only [Dx.ce, List.getElem?_cons_zero, List.getElem?_cons_succ] at d0 d4
  clear HNB
  go_wp2_with fail
  refine CC.out.mono ?_
  rintro e w1 ⟨ca, cc, rfl, hA, hb1, hn1, hg1⟩
  have G1 : Hid (Go0 _ _ _ _ _ _ _ _ _ _ _) := G0.out.more hb1
  have HI : Hid (∀ b off, ca = some ⟨b, off, none⟩ → (fun k => Q0 k ∨ (W0.heap.size ≤ k ∧ k < w1.heap.size)) b) := fun b off e => by
    obtain ⟨g, e2, h1, h2⟩ := hg1 _ e
    cases e2
    exact Or.inr ⟨h1, h2⟩
  have HA : Hid (D.Arg w1 ca x.bn x.bu) := hA
  obtain ⟨Q, hQ⟩ : ∃ Q, Q = (fun k => Q0 k ∨ (W0.heap.size ≤ k ∧ k < w1.heap.size)) := ⟨_, rfl⟩
  rw [← hQ] at G1 HI
  clear hQ G0 CC d0 d4 hA hb1 hn1 hg1
  have d0 : w1.cell? ⟨b0, 0, none⟩ = _ := G1.out.r.bx.cell 0
  simp only [Dx.ce, List.getElem?_cons_zero] at d0
  go_wp2_with (go_at_call 39; refine (CK.out _).mono ?_; rintro e w' ⟨rfl, hw'⟩; obtain rfl := hw'.symm; rw [hr])
  clear CK d0 hr HA HI
  have B := leave_both Q p q L h s
  have P1 := B.one G1.out.bo (fun _ _ => trivial)
  have P2 := B.two (w := w1) (fun _ _ => trivial)
  have HP1 : Hid _ := P1
  have HP2 : Hid _ := P2
  clear P1 P2 B
  generalize lft s = s' at *
  generalize lvC h s = lc at *
  have FIN : Hid (∀ W W', Bo Q W p q L h s' s' → Kz Q w1 W → Below W.heap.size W W' → Lv Z w p q L h (.returned (.bool true)) W') := fun W W' b k l => G1.out.lv (b.below l) (k.trans (Kz.of_below l b.z))
  clear G1
  have hv : (lc == lc) = true := by simp
  go_wp2_with (first
      | (go_at_call 17; refine (HP1.out _ (by first | exact (Below.refl _ _).drew | exact Below.refl _ _)).mono ?_; rintro e wl ⟨rfl, hB1, hK1⟩; have HB1 : Hid (Bo _ _ _ _ _ _ _ _) := hB1; have HK1 : Hid (Kz _ _ _) := hK1; clear hB1 hK1)
      | (go_at_call 46; refine (HP2.out _ HB1.out HK1.out).mono ?_; rintro e wq ⟨rfl, hB2, hK2⟩; have HB2 : Hid (Bo _ _ _ _ _ _ _ _) := hB2; have HK2 : Hid (Kz _ _ _) := hK2; have HL1 : Hid (Calls _ _ _ _ _) := hB2.lines; have HLN : Hid ((C.lns s'.b (h.c * 16)).length ≤ 1000000) := hB2.lnl; clear hB2 hK2)
      | (go_at_call 14; refine HL1.out.mono ?_; rintro e w3 ⟨v1, rfl, hl1, hb3⟩; have HN1 : Hid (C.Lns _ _ _ _) := hl1; have HB3 : Hid (Below _ _ _) := hb3; have HL2 : Hid (Calls _ _ _ _ _) := (HB2.out.below hb3).rlines; clear hl1 hb3)
      | (go_at_call 15; refine HL2.out.mono ?_; rintro e w4 ⟨v2, rfl, hl2, hb4⟩; have HS : Hid (Calls _ _ _ _ _) := C.Same_any (HN1.out.below hb4) hl2 HLN.out; have HB4 : Hid (Below wq.heap.size wq w4) := HB3.out.trans (hb4.mono HB3.out.size); clear hl2 hb4)
      | (go_at_call 13; refine HS.out.mono ?_; rintro e w5 ⟨rfl, hb5⟩; have HB5 : Hid (Below wq.heap.size wq w5) := HB4.out.trans (hb5.mono HB4.out.size); clear hb5))
  go_ret
  exact FIN.out _ _ HB2.out HK2.out HB5.out
end Go.Proofs.YtokaohlgncmoaaaGreat.E
namespace Go.Proofs.YtokaohlgncmoaaaGreat.E
open Go.ChangeShapes Go.WideShapes Go.ChangeAt Go.RowKit
set_option linter.unusedVariables false
set_option linter.unusedSimpArgs false
set_option maxRecDepth 100000
set_option maxHeartbeats 4000000 in
theorem done0n {Z : Nat → Prop} {w : World} {p q : Nat} {L : Nat → Value} {h : Hw} {s : Sc} {x : Dx} (K : Bo Z w p q L h s s) (d : Din Z w x) (hr : x.k % 11 = 0) (hla : x.la = none) :
    Calls Tryz.prog 9 #[.pointer (some ⟨p, 0, none⟩), .pointer (some ⟨q, 0, none⟩), .agg #[.int .i64 x.k, .slice x.la x.ln x.lc, .int .i64 x.f, .int .i64 x.g, .slice x.ba x.bn x.bc, .int .u64 x.n, .int .i64 x.t.a, .int .i64 x.t.p, .int .i64 x.t.f, .bool x.t.r, .bool x.t.w, .bool x.t.d]] w (Lv Z w p q L h) := by
  have G0 : Hid (Go0 _ _ _ _ _ _ _ _ _ _ _) := Go0.box K d
  have hx : x.ce.toArray = #[.int .i64 x.k, .slice x.la x.ln x.lc, .int .i64 x.f, .int .i64 x.g, .slice x.ba x.bn x.bc, .int .u64 x.n, .int .i64 x.t.a, .int .i64 x.t.p, .int .i64 x.t.f, .bool x.t.r, .bool x.t.w, .bool x.t.d] := rfl
  rw [hx] at G0
  clear hx
  have CK : Hid (∀ W, Calls Tryz.prog 39 #[.int .i64 x.k, .int .i64 11] W fun e w' => e = .returned (.int .i64 (x.k % 11)) ∧ w' = W) := fun W => Within_any x.k 11 (by omega) (by omega) d.k0 d.k1 W
  have hbl := d.hb
  have HNB : Hid (x.ba = none → x.bn = 0 ∧ x.bc = 0) := d.nb
  clear K d
  have HLA : Hid _ := hla
  clear hla
  go_enter Tryz.func9, Tryz.ntmps9
  go_upto_region 1 with fail
  generalize w.alloc (.cells #[.int .i64 x.k, .slice x.la x.ln x.lc, .int .i64 x.f, .int .i64 x.g, .slice x.ba x.bn x.bc, .int .u64 x.n, .int .i64 x.t.a, .int .i64 x.t.p, .int .i64 x.t.f, .bool x.t.r, .bool x.t.w, .bool x.t.d] 45) = W0 at *
  generalize w.heap.size = b0 at *
  obtain ⟨Q0, hQ0⟩ : ∃ Q0, Q0 = (fun k => Z k ∨ (b0 ≤ k ∧ k < W0.heap.size)) := ⟨_, rfl⟩
  rw [← hQ0] at G0
  clear hQ0
  have CC : Hid (Calls _ _ _ _ _) := CopyB_any (c := x.bc) hbl G0.out.r.d.ab HNB.out
  have d0 : W0.cell? ⟨b0, 0, none⟩ = _ := G0.out.r.bx.cell 0
  have d4 : W0.cell? ⟨b0, 4, none⟩ = _ := G0.out.r.bx.cell 4
  simp only [Dx.ce, List.getElem?_cons_zero, List.getElem?_cons_succ] at d0 d4
  clear HNB
  go_wp2_with fail
  refine CC.out.mono ?_
  rintro e w1 ⟨ca, cc, rfl, hA, hb1, hn1, hg1⟩
  have G1 : Hid (Go0 _ _ _ _ _ _ _ _ _ _ _) := G0.out.more hb1
  have HI : Hid (∀ b off, ca = some ⟨b, off, none⟩ → (fun k => Q0 k ∨ (W0.heap.size ≤ k ∧ k < w1.heap.size)) b) := fun b off e => by
    obtain ⟨g, e2, h1, h2⟩ := hg1 _ e
    cases e2
    exact Or.inr ⟨h1, h2⟩
  have HA : Hid (D.Arg w1 ca x.bn x.bu) := hA
  obtain ⟨Q, hQ⟩ : ∃ Q, Q = (fun k => Q0 k ∨ (W0.heap.size ≤ k ∧ k < w1.heap.size)) := ⟨_, rfl⟩
  rw [← hQ] at G1 HI
  clear hQ G0 CC d0 d4 hA hb1 hn1 hg1
  have d0 : w1.cell? ⟨b0, 0, none⟩ = _ := G1.out.r.bx.cell 0
  simp only [Dx.ce, List.getElem?_cons_zero] at d0
  go_wp2_with fail
  refine (CK.out _).mono ?_
  rintro e w' ⟨rfl, hw'⟩
  obtain rfl := hw'.symm
  rw [hr]
  clear CK d0 hr HA HI
  obtain ⟨i0, hi0, hz0, hz1, hz2⟩ := info_parts Tryz.infoW
  have hln := G1.out.r.d.hl
  have hb1 : b0 < w1.heap.size := G1.out.r.bx.lt
  have G2 : Hid (Go0 _ _ _ (w1.alloc (.cells #[] 22)) _ _ _ _ _ _ _) := G1.out.below ((Below.refl _ _).alloc (Nat.le_refl _) _)
  have d2 : (w1.alloc (.cells #[] 22)).cell? ⟨b0, 1, none⟩ = _ := G2.out.r.bx.cell 1
  simp only [Dx.ce, List.getElem?_cons_zero, List.getElem?_cons_succ] at d2
  have HNW : Hid ((w1.alloc (.cells #[] 22)).ownsRow w1.heap.size 22 1 (.slice (some ⟨w1.heap.size, 0, none⟩) 0 0) 0 []) := own_new w1
  have HBA : Hid (∀ w2, (w1.alloc (.cells #[] 22)).grownBy w2 (some w1.heap.size) → Below w1.heap.size w1 w2) := fun w2 g => ((Below.refl _ w1).alloc (Nat.le_refl _) _).grown g (by simp) (fun k hk => by cases hk; exact Nat.le_refl _)
  have hla := HLA.out
  obtain ⟨hl0, hc0⟩ := G1.out.r.d.nl hla
  rw [hla, hl0, hc0] at d2
  have HD1 : Hid (∀ W, C.Blk W b0 45 x.ce → W.cell? ⟨b0, 1, none⟩ = some (.slice none 0 0)) := fun W b => by have := b.cell 1; rw [this]; simp [Dx.ce, hla, hl0, hc0]
  have HF : Hid (∀ i, i < 0 → x.lf i < 18446744073709551616) := fun i hi => by omega
  have HIL : Hid (In Q (none : Option Addr) 0) := Or.inl rfl
  have HAL : Hid (∀ W, Kz Q w1 W → AU W none 0 x.lf) := fun W k => Or.inl rfl
  have hl8 : (0 : Nat) * 8 ≤ 140737488351232 := by omega
  clear hla
  go_wp2_with (at_builtin; refine wpList_append_own_none rfl (.tmp 30) (.tmp 32) 40 rfl w1.heap.size 22 i0 1 Tryz.underlying40 hi0 _ 0 [] rfl HNW.out rfl ?_)
  have HAU : Hid (AU (w1.alloc (.cells #[] 22)) (some ⟨w1.heap.size, 0, none⟩) 0 x.lf) := Or.inl rfl
  have HIN : Hid (∀ b off, (some ⟨w1.heap.size, 0, none⟩ : Option Addr) = some ⟨b, off, none⟩ → w1.heap.size ≤ b ∧ b < (w1.alloc (.cells #[] 22)).heap.size) := fun b off e => by cases e; simp
  have HBW : Hid (Below w1.heap.size w1 (w1.alloc (.cells #[] 22))) := (Below.refl _ w1).alloc (Nat.le_refl _) _
  obtain ⟨ca2, hca2⟩ : ∃ c, some (⟨w1.heap.size, 0, none⟩ : Addr) = c := ⟨_, rfl⟩
  rw [hca2] at HAU HIN ⊢
  clear hca2 G2 d2 HNW HBA
  generalize w1.alloc (.cells #[] 22) = w4 at *
  obtain ⟨xx, yy, er, s', hT⟩ := touch_both p q L h s 0 x.lf (by unfold maxLen; omega) HF.out ca2 none 0 0
  have G3 : Hid (Go0 _ _ _ _ _ _ _ _ _ _ _) := G1.out.more HBW.out
  obtain ⟨Q2, hQ2⟩ : ∃ Q2, Q2 = (fun k => Q k ∨ (w1.heap.size ≤ k ∧ k < w4.heap.size)) := ⟨_, rfl⟩
  have HI2 : Hid (In Q2 ca2 0) := Or.inr fun b off e => by rw [hQ2]; exact Or.inr (HIN.out b off e)
  have HI3 : Hid (In Q2 none 0) := HIL.out.mono (fun k hk => by rw [hQ2]; exact Or.inl hk)
  rw [← hQ2] at G3
  have HA4 : Hid (AU w4 none 0 x.lf) := HAL.out w4 (Kz.of_below HBW.out G1.out.bo.z)
  clear hQ2 HIN HIL HAL HBW G1 hi0 hz0 hz1 hz2
  have HS : ∀ W, Kz Q2 w4 W → AU W ca2 0 x.lf ∧ AU W none 0 x.lf := fun W k => ⟨au_kz HAU.out k HI2.out, au_kz HA4.out k HI3.out⟩
  have P1 := (hT Q2 HI2.out HI3.out).one G3.out.bo HS _ (Below.refl _ _)
  have HP1 : Hid (Calls _ _ _ _ _) := P1
  have HT : Hid _ := hT
  have HSS : Hid _ := HS
  clear P1 hT HS
  have hq := eqH_run xx yy xx yy
  rw [eqH_self] at hq
  have hv : (er == er) = true := by simp
  go_wp2_with fail
  refine HP1.out.mono ?_
  rintro e wl ⟨rfl, hB1, hK1⟩
  have hbx : Below wl.heap.size wl (wl.alloc (.cells #[.bool xx, .bool yy] 59)) := (Below.refl _ _).alloc (Nat.le_refl _) _
  have HB4 : Hid (Bo _ _ _ _ _ _ _ _) := hB1.more hbx
  have HR4 : Hid (Rdy (fun k => Q2 k ∨ (wl.heap.size ≤ k ∧ k < (wl.alloc (.cells #[.bool xx, .bool yy] 59)).heap.size)) (wl.alloc (.cells #[.bool xx, .bool yy] 59)) b0 x) := ((G3.out.r.kz hK1).kz (Kz.of_below hbx hB1.z)).wide (fun k hk => Or.inl hk)
  have HKW : Hid (Kz Q2 w4 (wl.alloc (.cells #[.bool xx, .bool yy] 59))) := hK1.trans (Kz.of_below hbx hB1.z)
  have HX4 : Hid (C.Blk (wl.alloc (.cells #[.bool xx, .bool yy] 59)) wl.heap.size 59 [.bool xx, .bool yy]) := C.blk_new wl _ _
  have hw4 : wl.heap.size < (wl.alloc (.cells #[.bool xx, .bool yy] 59)).heap.size := by simp
  clear hB1 hK1 hbx HP1
  have d1 := HD1.out _ HR4.out.bx
  go_wp2_with fail
  generalize wl.alloc (.cells #[.bool xx, .bool yy] 59) = w5 at *
  generalize wl.heap.size = b5 at *
  obtain ⟨Q3, hQ3⟩ : ∃ Q3, Q3 = (fun k => Q2 k ∨ (b5 ≤ k ∧ k < w5.heap.size)) := ⟨_, rfl⟩
  have HQ5 : Hid (Q3 b5) := by rw [hQ3]; exact Or.inr ⟨Nat.le_refl _, hw4⟩
  have HQ3 : Hid (∀ k, Q2 k → Q3 k) := fun k hk => by rw [hQ3]; exact Or.inl hk
  rw [← hQ3] at HB4 HR4
  clear hQ3 hw4
  have HA5 := HSS.out w5 HKW.out
  have HS5 : ∀ W, Kz Q3 w5 W → AU W ca2 0 x.lf ∧ AU W none 0 x.lf := fun W k => ⟨au_kz HA5.1 k (HI2.out.mono HQ3.out), au_kz HA5.2 k (HI3.out.mono HQ3.out)⟩
  have P2 := (HT.out Q3 (HI2.out.mono HQ3.out) (HI3.out.mono HQ3.out)).two (w := w5) HS5 w5 HB4.out (Kz.refl _ _)
  have HP2 : Hid (Calls _ _ _ _ _) := P2
  clear P2 HS5 HA5 HT HSS
  refine HP2.out.mono ?_
  rintro e w6 ⟨rfl, hB6, hK6⟩
  have hb6 : Below w6.heap.size w6 (w6.alloc (.cells #[.bool xx, .bool yy] 59)) := (Below.refl _ _).alloc (Nat.le_refl _) _
  have FIN : Hid (Lv Z w p q L h (.returned (.bool true)) (w6.alloc (.cells #[.bool xx, .bool yy] 59))) := G3.out.lv ((hB6.less HQ3.out).below hb6) ((HKW.out.trans (hK6.less HQ3.out)).trans (Kz.of_below hb6 (hB6.less HQ3.out).z))
  have X5 := (HX4.out.of_eq (hK6.block b5 HQ5.out))
  have X6 := X5.of_eq (hb6.block b5 X5.lt)
  have X7 : C.Blk (w6.alloc (.cells #[.bool xx, .bool yy] 59)) w6.heap.size 59 [.bool xx, .bool yy] := C.blk_new w6 _ _
  have y0 : (w6.alloc (.cells #[.bool xx, .bool yy] 59)).cell? ⟨b5, 0, none⟩ = some (.bool xx) := X6.cell 0
  have y1 : (w6.alloc (.cells #[.bool xx, .bool yy] 59)).cell? ⟨b5, 1, none⟩ = some (.bool yy) := X6.cell 1
  have y2 : (w6.alloc (.cells #[.bool xx, .bool yy] 59)).cell? ⟨w6.heap.size, 0, none⟩ = some (.bool xx) := X7.cell 0
  have y3 : (w6.alloc (.cells #[.bool xx, .bool yy] 59)).cell? ⟨w6.heap.size, 1, none⟩ = some (.bool yy) := X7.cell 1
  have hb5 := X5.lt
  clear hB6 hK6 hb6 X5 X6 X7 HP2 HX4 G3 HKW HR4 HB4
  go_wp2
  go_ret
  exact FIN.out
set_option maxHeartbeats 4000000 in
theorem done0s {Z : Nat → Prop} {w : World} {p q : Nat} {L : Nat → Value} {h : Hw} {s : Sc} {x : Dx} (K : Bo Z w p q L h s s) (d : Din Z w x) (hr : x.k % 11 = 0) (ad : Addr) (hla : x.la = some ad) :
    Calls Tryz.prog 9 #[.pointer (some ⟨p, 0, none⟩), .pointer (some ⟨q, 0, none⟩), .agg #[.int .i64 x.k, .slice x.la x.ln x.lc, .int .i64 x.f, .int .i64 x.g, .slice x.ba x.bn x.bc, .int .u64 x.n, .int .i64 x.t.a, .int .i64 x.t.p, .int .i64 x.t.f, .bool x.t.r, .bool x.t.w, .bool x.t.d]] w (Lv Z w p q L h) := by
  have G0 : Hid (Go0 _ _ _ _ _ _ _ _ _ _ _) := Go0.box K d
  have hx : x.ce.toArray = #[.int .i64 x.k, .slice x.la x.ln x.lc, .int .i64 x.f, .int .i64 x.g, .slice x.ba x.bn x.bc, .int .u64 x.n, .int .i64 x.t.a, .int .i64 x.t.p, .int .i64 x.t.f, .bool x.t.r, .bool x.t.w, .bool x.t.d] := rfl
  rw [hx] at G0
  clear hx
  have CK : Hid (∀ W, Calls Tryz.prog 39 #[.int .i64 x.k, .int .i64 11] W fun e w' => e = .returned (.int .i64 (x.k % 11)) ∧ w' = W) := fun W => Within_any x.k 11 (by omega) (by omega) d.k0 d.k1 W
  have hbl := d.hb
  have HNB : Hid (x.ba = none → x.bn = 0 ∧ x.bc = 0) := d.nb
  clear K d
  have HLA : Hid _ := hla
  clear hla
  go_enter Tryz.func9, Tryz.ntmps9
  go_upto_region 1 with fail
  generalize w.alloc (.cells #[.int .i64 x.k, .slice x.la x.ln x.lc, .int .i64 x.f, .int .i64 x.g, .slice x.ba x.bn x.bc, .int .u64 x.n, .int .i64 x.t.a, .int .i64 x.t.p, .int .i64 x.t.f, .bool x.t.r, .bool x.t.w, .bool x.t.d] 45) = W0 at *
  generalize w.heap.size = b0 at *
  obtain ⟨Q0, hQ0⟩ : ∃ Q0, Q0 = (fun k => Z k ∨ (b0 ≤ k ∧ k < W0.heap.size)) := ⟨_, rfl⟩
  rw [← hQ0] at G0
  clear hQ0
  have CC : Hid (Calls _ _ _ _ _) := CopyB_any (c := x.bc) hbl G0.out.r.d.ab HNB.out
  have d0 : W0.cell? ⟨b0, 0, none⟩ = _ := G0.out.r.bx.cell 0
  have d4 : W0.cell? ⟨b0, 4, none⟩ = _ := G0.out.r.bx.cell 4
  simp only [Dx.ce, List.getElem?_cons_zero, List.getElem?_cons_succ] at d0 d4
  clear HNB
  go_wp2_with fail
  refine CC.out.mono ?_
  rintro e w1 ⟨ca, cc, rfl, hA, hb1, hn1, hg1⟩
  have G1 : Hid (Go0 _ _ _ _ _ _ _ _ _ _ _) := G0.out.more hb1
  have HI : Hid (∀ b off, ca = some ⟨b, off, none⟩ → (fun k => Q0 k ∨ (W0.heap.size ≤ k ∧ k < w1.heap.size)) b) := fun b off e => by
    obtain ⟨g, e2, h1, h2⟩ := hg1 _ e
    cases e2
    exact Or.inr ⟨h1, h2⟩
  have HA : Hid (D.Arg w1 ca x.bn x.bu) := hA
  obtain ⟨Q, hQ⟩ : ∃ Q, Q = (fun k => Q0 k ∨ (W0.heap.size ≤ k ∧ k < w1.heap.size)) := ⟨_, rfl⟩
  rw [← hQ] at G1 HI
  clear hQ G0 CC d0 d4 hA hb1 hn1 hg1
  have d0 : w1.cell? ⟨b0, 0, none⟩ = _ := G1.out.r.bx.cell 0
  simp only [Dx.ce, List.getElem?_cons_zero] at d0
  go_wp2_with fail
  refine (CK.out _).mono ?_
  rintro e w' ⟨rfl, hw'⟩
  obtain rfl := hw'.symm
  rw [hr]
  clear CK d0 hr HA HI
  obtain ⟨i0, hi0, hz0, hz1, hz2⟩ := info_parts Tryz.infoW
  have hln := G1.out.r.d.hl
  have hb1 : b0 < w1.heap.size := G1.out.r.bx.lt
  have G2 : Hid (Go0 _ _ _ (w1.alloc (.cells #[] 22)) _ _ _ _ _ _ _) := G1.out.below ((Below.refl _ _).alloc (Nat.le_refl _) _)
  have d2 : (w1.alloc (.cells #[] 22)).cell? ⟨b0, 1, none⟩ = _ := G2.out.r.bx.cell 1
  simp only [Dx.ce, List.getElem?_cons_zero, List.getElem?_cons_succ] at d2
  have HNW : Hid ((w1.alloc (.cells #[] 22)).ownsRow w1.heap.size 22 1 (.slice (some ⟨w1.heap.size, 0, none⟩) 0 0) 0 []) := own_new w1
  have HBA : Hid (∀ w2, (w1.alloc (.cells #[] 22)).grownBy w2 (some w1.heap.size) → Below w1.heap.size w1 w2) := fun w2 g => ((Below.refl _ w1).alloc (Nat.le_refl _) _).grown g (by simp) (fun k hk => by cases hk; exact Nat.le_refl _)
  have hla := HLA.out
  rw [hla] at d2
  have HD1 : Hid (∀ W, C.Blk W b0 45 x.ce → W.cell? ⟨b0, 1, none⟩ = some (.slice (some ad) x.ln x.lc)) := fun W b => by have := b.cell 1; rw [this]; simp [Dx.ce, hla]
  have HF : Hid (∀ i, i < x.ln → x.lf i < 18446744073709551616) := G1.out.r.d.hf
  have HIL : Hid (In Q (some ad : Option Addr) x.ln) := by rw [← hla]; exact G1.out.r.d.il
  have HAL : Hid (∀ W, Kz Q w1 W → AU W (some ad) x.ln x.lf) := fun W k => by rw [← hla]; exact (G1.out.r.d.kz k).al
  have hl8 : x.ln * 8 ≤ 140737488351232 := hln
  have HUC : Hid (∀ j u, (uvs x.ln x.lf)[j]? = some u → (w1.alloc (.cells #[] 22)).cell? (ad.add j) = some u) := by
    intro j u hu
    have hj : j < x.ln := by have := (List.getElem?_eq_some_iff.1 hu).1; rwa [uvs_len] at this
    rcases G2.out.r.d.al with e | ⟨b, off, e, _, hc⟩
    · omega
    · rw [hla] at e
      cases e
      rw [uvs_get _ _ _ hj] at hu
      rw [Go.WideShapes.add_plain, hc j hj]
      exact hu
  have HUL : Hid ((uvs x.ln x.lf).length = x.ln * 1) := by unfold Hid; rw [uvs_len]; omega
  have HUV : Hid (∀ u ∈ uvs x.ln x.lf, u.oneCell' = true) := uvs_one _ _
  clear hla
  go_wp2_with (at_builtin; refine wpList_append_own _ rfl (.tmp 30) (.tmp 32) 40 rfl w1.heap.size 22 i0 _ 1 8 Tryz.underlying40 hi0 hz0 hz1 hz2 rfl (by decide) (.slice (some ⟨w1.heap.size, 0, none⟩) 0 0) 0 [] rfl HNW.out ad x.ln x.lc (uvs x.ln x.lf) rfl HUL.out HUC.out HUV.out (by unfold maxLen; omega) (by omega) (by simp) ?_; intro v4 w4 o4 gr4 nil4)
  obtain ⟨ca2, cc2, rfl, hau, hin⟩ := au_own o4
  have HAU : Hid (AU w4 ca2 x.ln x.lf) := hau
  have HIN : Hid (∀ b off, ca2 = some ⟨b, off, none⟩ → w1.heap.size ≤ b ∧ b < w4.heap.size) := hin
  have HBW : Hid (Below w1.heap.size w1 w4) := HBA.out w4 gr4
  clear o4 gr4 nil4 hau hin
  clear HUC HUL HUV G2 d2 HNW HBA
  obtain ⟨xx, yy, er, s', hT⟩ := touch_both p q L h s x.ln x.lf (by unfold maxLen; omega) HF.out ca2 (some ad) cc2 x.lc
  have G3 : Hid (Go0 _ _ _ _ _ _ _ _ _ _ _) := G1.out.more HBW.out
  obtain ⟨Q2, hQ2⟩ : ∃ Q2, Q2 = (fun k => Q k ∨ (w1.heap.size ≤ k ∧ k < w4.heap.size)) := ⟨_, rfl⟩
  have HI2 : Hid (In Q2 ca2 x.ln) := Or.inr fun b off e => by rw [hQ2]; exact Or.inr (HIN.out b off e)
  have HI3 : Hid (In Q2 (some ad) x.ln) := HIL.out.mono (fun k hk => by rw [hQ2]; exact Or.inl hk)
  rw [← hQ2] at G3
  have HA4 : Hid (AU w4 (some ad) x.ln x.lf) := HAL.out w4 (Kz.of_below HBW.out G1.out.bo.z)
  clear hQ2 HIN HIL HAL HBW G1 hi0 hz0 hz1 hz2
  have HS : ∀ W, Kz Q2 w4 W → AU W ca2 x.ln x.lf ∧ AU W (some ad) x.ln x.lf := fun W k => ⟨au_kz HAU.out k HI2.out, au_kz HA4.out k HI3.out⟩
  have P1 := (hT Q2 HI2.out HI3.out).one G3.out.bo HS _ (Below.refl _ _)
  have HP1 : Hid (Calls _ _ _ _ _) := P1
  have HT : Hid _ := hT
  have HSS : Hid _ := HS
  clear P1 hT HS
  have hq := eqH_run xx yy xx yy
  rw [eqH_self] at hq
  have hv : (er == er) = true := by simp
  go_wp2_with fail
  refine HP1.out.mono ?_
  rintro e wl ⟨rfl, hB1, hK1⟩
  have hbx : Below wl.heap.size wl (wl.alloc (.cells #[.bool xx, .bool yy] 59)) := (Below.refl _ _).alloc (Nat.le_refl _) _
  have HB4 : Hid (Bo _ _ _ _ _ _ _ _) := hB1.more hbx
  have HR4 : Hid (Rdy (fun k => Q2 k ∨ (wl.heap.size ≤ k ∧ k < (wl.alloc (.cells #[.bool xx, .bool yy] 59)).heap.size)) (wl.alloc (.cells #[.bool xx, .bool yy] 59)) b0 x) := ((G3.out.r.kz hK1).kz (Kz.of_below hbx hB1.z)).wide (fun k hk => Or.inl hk)
  have HKW : Hid (Kz Q2 w4 (wl.alloc (.cells #[.bool xx, .bool yy] 59))) := hK1.trans (Kz.of_below hbx hB1.z)
  have HX4 : Hid (C.Blk (wl.alloc (.cells #[.bool xx, .bool yy] 59)) wl.heap.size 59 [.bool xx, .bool yy]) := C.blk_new wl _ _
  have hw4 : wl.heap.size < (wl.alloc (.cells #[.bool xx, .bool yy] 59)).heap.size := by simp
  clear hB1 hK1 hbx HP1
  have d1 := HD1.out _ HR4.out.bx
  go_wp2_with fail
  generalize wl.alloc (.cells #[.bool xx, .bool yy] 59) = w5 at *
  generalize wl.heap.size = b5 at *
  obtain ⟨Q3, hQ3⟩ : ∃ Q3, Q3 = (fun k => Q2 k ∨ (b5 ≤ k ∧ k < w5.heap.size)) := ⟨_, rfl⟩
  have HQ5 : Hid (Q3 b5) := by rw [hQ3]; exact Or.inr ⟨Nat.le_refl _, hw4⟩
  have HQ3 : Hid (∀ k, Q2 k → Q3 k) := fun k hk => by rw [hQ3]; exact Or.inl hk
  rw [← hQ3] at HB4 HR4
  clear hQ3 hw4
  have HA5 := HSS.out w5 HKW.out
  have HS5 : ∀ W, Kz Q3 w5 W → AU W ca2 x.ln x.lf ∧ AU W (some ad) x.ln x.lf := fun W k => ⟨au_kz HA5.1 k (HI2.out.mono HQ3.out), au_kz HA5.2 k (HI3.out.mono HQ3.out)⟩
  have P2 := (HT.out Q3 (HI2.out.mono HQ3.out) (HI3.out.mono HQ3.out)).two (w := w5) HS5 w5 HB4.out (Kz.refl _ _)
  have HP2 : Hid (Calls _ _ _ _ _) := P2
  clear P2 HS5 HA5 HT HSS
  refine HP2.out.mono ?_
  rintro e w6 ⟨rfl, hB6, hK6⟩
  have hb6 : Below w6.heap.size w6 (w6.alloc (.cells #[.bool xx, .bool yy] 59)) := (Below.refl _ _).alloc (Nat.le_refl _) _
  have FIN : Hid (Lv Z w p q L h (.returned (.bool true)) (w6.alloc (.cells #[.bool xx, .bool yy] 59))) := G3.out.lv ((hB6.less HQ3.out).below hb6) ((HKW.out.trans (hK6.less HQ3.out)).trans (Kz.of_below hb6 (hB6.less HQ3.out).z))
  have X5 := (HX4.out.of_eq (hK6.block b5 HQ5.out))
  have X6 := X5.of_eq (hb6.block b5 X5.lt)
  have X7 : C.Blk (w6.alloc (.cells #[.bool xx, .bool yy] 59)) w6.heap.size 59 [.bool xx, .bool yy] := C.blk_new w6 _ _
  have y0 : (w6.alloc (.cells #[.bool xx, .bool yy] 59)).cell? ⟨b5, 0, none⟩ = some (.bool xx) := X6.cell 0
  have y1 : (w6.alloc (.cells #[.bool xx, .bool yy] 59)).cell? ⟨b5, 1, none⟩ = some (.bool yy) := X6.cell 1
  have y2 : (w6.alloc (.cells #[.bool xx, .bool yy] 59)).cell? ⟨w6.heap.size, 0, none⟩ = some (.bool xx) := X7.cell 0
  have y3 : (w6.alloc (.cells #[.bool xx, .bool yy] 59)).cell? ⟨w6.heap.size, 1, none⟩ = some (.bool yy) := X7.cell 1
  have hb5 := X5.lt
  clear hB6 hK6 hb6 X5 X6 X7 HP2 HX4 G3 HKW HR4 HB4
  go_wp2
  go_ret
  exact FIN.out
end Go.Proofs.YtokaohlgncmoaaaGreat.E
