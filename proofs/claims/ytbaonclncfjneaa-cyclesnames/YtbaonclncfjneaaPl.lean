/- The law CyclesPlays walked: of every slice, pad and first number and all calls. -/
import Derived.Test.YtbaonclncfjneaaLw
import Derived.Deep.RegionHeld3
namespace Go.Proofs.Ytbaonclncfjneaa
open Go.ChangeShapes Go.WideShapes Go.ChangeAt Go.RowKit
set_option linter.unusedVariables false

/-- The calls that came in. -/
def Dos (w : World) (ao : Option Addr) (l : Nat) : Prop := ∀ i, i < l → ∃ b off K x, ao = some ⟨b, off, none⟩ ∧ b < w.heap.size ∧
  w.cell? ⟨b, off + i * 2, none⟩ = some (.int .i64 K) ∧ w.cell? ⟨b, off + i * 2 + 1, none⟩ = some (.int .u64 x) ∧ -9223372036854775808 ≤ K ∧ K < 9223372036854775808 ∧ 0 ≤ x
/-- Both counters, with the same numbers, and nothing old turned. -/
structure Two (w0 w : World) (p r : Nat) (s d n q : Int) : Prop where
  a : Ctr 58 w p s d n q
  b : Ctr 35 w r s d n q
  o : Ok s d n q
  ne : p ≠ r
  lp : w0.heap.size ≤ p
  lr : w0.heap.size ≤ r
  bel : Below w0.heap.size w0 w
theorem Two.drew {w0 w : World} {p r : Nat} {s d n q : Int} (h : Two w0 w p r s d n q) (m : Nat) : Two w0 (w.drewN m) p r s d n q := ⟨h.a, h.b, h.o, h.ne, h.lp, h.lr, below_drewN h.bel m⟩
theorem Two.drew1 {w0 w : World} {p r : Nat} {s d n q : Int} (h : Two w0 w p r s d n q) : Two w0 w.drew p r s d n q := h.drew 1
theorem Two.below {w0 w w' : World} {p r : Nat} {s d n q : Int} (h : Two w0 w p r s d n q) (k : Below w.heap.size w w') : Two w0 w' p r s d n q :=
  ⟨Blk.of_eq h.a (k.block p h.a.lt), Blk.of_eq h.b (k.block r h.b.lt), h.o, h.ne, h.lp, h.lr, h.bel.trans (k.mono h.bel.size)⟩
/-- The first of the two has gone on, the second not yet. -/
structure Mid (w0 w : World) (p r : Nat) (s d n q n' q' : Int) : Prop where
  a : Ctr 58 w p s d n' q'
  b : Ctr 35 w r s d n q
  o : Ok s d n q
  o' : Ok s d n' q'
  ne : p ≠ r
  lp : w0.heap.size ≤ p
  lr : w0.heap.size ≤ r
  bel : Below w0.heap.size w0 w
theorem Two.mid {w0 w w' : World} {p r : Nat} {s d n q n' q' er : Int} {e : Ending} (h : Two w0 w p r s d n q) (t : Trn 58 w p s d n' q' er e w') (o' : Ok s d n' q') : Mid w0 w' p r s d n q n' q' :=
  ⟨t.2.1, h.b.kept t.2.2 (some_ne h.ne.symm), h.o, o', h.ne, h.lp, h.lr, h.bel.grown t.2.2 h.bel.size (fun j hj => by injection hj with hj; rw [← hj]; exact h.lp)⟩
theorem Mid.two {w0 w w' : World} {p r : Nat} {s d n q n' q' er : Int} {e : Ending} (h : Mid w0 w p r s d n q n' q') (t : Trn 35 w r s d n' q' er e w') : Two w0 w' p r s d n' q' :=
  ⟨h.a.kept t.2.2 (some_ne h.ne), t.2.1, h.o', h.ne, h.lp, h.lr, h.bel.grown t.2.2 h.bel.size (fun j hj => by injection hj with hj; rw [← hj]; exact h.lr)⟩
theorem Two.start {w w1 w2 : World} {s d n : Int} {p r : Nat} (d0 : 0 ≤ d) (n0 : 0 ≤ n) (h : newE s d n = 0) (hp : Ctr 58 w1 p s d n 0) (g1 : w.grownBy w1 none) (lp : w.heap.size ≤ p) (hr : Ctr 35 w2 r s d n 0) (g2 : w1.grownBy w2 none) (lr : w1.heap.size ≤ r) {w0 : World} (l0 : w0.heap.size ≤ w.heap.size) (b0 : Below w0.heap.size w0 w) : Two w0 w2 p r s d n 0 :=
  ⟨hp.kept g2 (by simp), hr, newE_ok h d0 n0, fun e => by have := hp.lt; omega, by omega, by have := g1.size; omega, (b0.grown g1 l0 (by simp)).grown g2 (Nat.le_trans l0 g1.size) (by simp)⟩
/-- What both counters tell, as contracts over the letters N and L. -/
structure Tell (w0 w : World) (p r : Nat) (s d n q N L : Int) : Prop where
  n1 : ∀ W, Two w0 W p r s d n q → Calls Try.prog 10 #[.pointer (some ⟨p, 0, none⟩)] W fun e w' => e = .returned (.int .u64 N) ∧ ∃ m, w' = W.drewN m
  n2 : ∀ W, Two w0 W p r s d n q → Calls Try.prog 11 #[.pointer (some ⟨r, 0, none⟩)] W fun e w' => e = .returned (.int .u64 N) ∧ ∃ m, w' = W.drewN m
  l1 : ∀ W, Two w0 W p r s d n q → Calls Try.prog 13 #[.pointer (some ⟨p, 0, none⟩)] W fun e w' => e = .returned (.int .u64 L) ∧ ∃ m, w' = W.drewN m
  l2 : ∀ W, Two w0 W p r s d n q → Calls Try.prog 14 #[.pointer (some ⟨r, 0, none⟩)] W fun e w' => e = .returned (.int .u64 L) ∧ ∃ m, w' = W.drewN m
  k1 : ∀ W, Two w0 W p r s d n q → Calls Try.prog 12 #[.pointer (some ⟨p, 0, none⟩)] W fun e w' => e = .returned (.int .u64 n) ∧ w' = W
theorem Two.tell {w0 w : World} {p r : Nat} {s d n q : Int} : Tell w0 w p r s d n q (nw s d n q) (lf s n q) :=
  ⟨fun W h => Now_any h.a h.o, fun W h => rNow_any h.b h.o, fun W h => Left_any h.a h.o, fun W h => rLeft_any h.b h.o, fun W h => Number_any h.a h.o.s1⟩
set_option maxRecDepth 100000 in
set_option maxHeartbeats 4000000 in
theorem plays_walk (w : World) (s d n : Int) (d0 : 0 ≤ d) (n0 : 0 ≤ n) (ao : Option Addr) (l c : Nat) (hl : l ≤ maxLen) (hd : Dos w ao l) :
    Calls Try.prog 3 #[.agg #[.int .u64 s, .int .u64 d, .int .u64 n], .slice ao l c] w fun e w' => e = .returned (.bool true) ∧ Below w.heap.size w w' := by
  unfold maxLen at hl
  have HD : Hid (Dos w ao l) := hd
  clear hd
  have BX : Hid (Blk (w.alloc (.cells #[.int .u64 s, .int .u64 d, .int .u64 n] 23)) w.heap.size 23 [.int .u64 s, .int .u64 d, .int .u64 n]) := blk_new _ [.int .u64 s, .int .u64 d, .int .u64 n] 23
  have B1 : Hid (Below w.heap.size w (w.alloc (.cells #[.int .u64 s, .int .u64 d, .int .u64 n] 23))) := (Below.refl _ _).grown (World.grownBy_alloc _ _ none) (Nat.le_refl _) (by simp)
  by_cases hf : newE s d n = 0
  · have HF : Hid (newE s d n = 0) := hf
    clear hf
    go_enter Try.func3, Try.ntmps3
    go_wp2_with fail
    refine (New_ok s d n HF.out _).mono ?_
    rintro e w1 ⟨p, rfl, hC, hG, hp⟩
    have BX1 := BX.out.kept hG (by simp)
    have x0 := BX1.cell 0
    have x1 := BX1.cell 1
    have x2 := BX1.cell 2
    have CA : Hid (Ctr 58 w1 p s d n 0) := hC
    have GA : Hid ((w.alloc (.cells #[.int .u64 s, .int .u64 d, .int .u64 n] 23)).grownBy w1 none) := hG
    have LA : Hid ((w.alloc (.cells #[.int .u64 s, .int .u64 d, .int .u64 n] 23)).heap.size ≤ p) := hp
    clear hC hG hp BX1 BX
    go_wp2_with fail
    refine (rNew_ok s d n HF.out _).mono ?_
    rintro e w2 ⟨r, rfl, hC, hG, hr⟩
    have T0 : Hid (Two w w2 p r s d n 0) := Two.start d0 n0 HF.out CA.out GA.out LA.out hC hG hr (by simp) B1.out
    clear hC hG hr CA GA LA x0 x1 x2 B1
    go_wp2_with fail
    go_loopw [6, 8, 9] (fun e f i wr => ∃ k : Nat, k ≤ l ∧ i = .int .i64 k ∧ ∃ z n q, e = .int .i64 z ∧ f = .int .i64 z ∧ Two w wr p r s d n q) (fun _ _ i _ => l - (intOf i).toNat)
    case atStart => exact ⟨0, by omega, rfl, _, _, _, rfl, rfl, T0.out⟩
    case round =>
      clear T0 HF
      clear d0 n0
      obtain ⟨k, hk, rfl, z, n', q, rfl, rfl, hT⟩ := hrel
      have HT : Hid (Two w wr p r s d n' q) := hT
      have TL : Hid (Tell w wr p r s d n' q (nw s d n' q) (lf s n' q)) := Two.tell
      clear hT
      generalize nw s d n' q = N at *
      generalize lf s n' q = L at *
      by_cases a1 : k < l ∧ k < 300
      · obtain ⟨a1, a2⟩ := a1
        obtain ⟨b, off, K, x, e1, hb, c0, c1, k0, k1, x0⟩ := HD.out k a1
        subst e1
        have HC1 : Hid (w.cell? ⟨b, off + k * 2 + 1, none⟩ = some (.int .u64 x)) := c1
        have c0 := (HT.out.bel.cell (p := ⟨b, off + k * 2, none⟩) hb).trans c0
        have c1 := (HT.out.bel.cell (p := ⟨b, off + k * 2 + 1, none⟩) hb).trans c1
        have hc2 := HT.out.b.c2
        go_wp2_with fail
        go_quiet ((first
          | (go_at_call 10; refine Calls.quiet_of (TL.out.n1 _ (HT.out.drew _)))
          | (go_at_call 11; refine Calls.quiet_of (TL.out.n2 _ (HT.out.drew _)))
          | (go_at_call 13; refine Calls.quiet_of (TL.out.l1 _ (HT.out.drew _)))
          | (go_at_call 14; refine Calls.quiet_of (TL.out.l2 _ (HT.out.drew _)))
          | (go_at_call 12; refine Calls.quiet_of_same (TL.out.k1 _ (HT.out.drew _)))))
        have HT3 : Hid (Two w (wr.drewN nq) p r s d n' q) := HT.out.drew nq
        have c0 : (wr.drewN nq).cell? ⟨b, off + k * 2, none⟩ = some (.int .i64 K) := c0
        have c1 : (wr.drewN nq).cell? ⟨b, off + k * 2 + 1, none⟩ = some (.int .u64 x) := c1
        clear HT TL hc2
        generalize wr.drewN nq = w3 at *
        have CW : Hid (Calls Try.prog 15 #[.int .i64 K, .int .i64 2] w3 fun e w' => e = .returned (.int .i64 (K % 2)) ∧ w' = w3) := Within_any K 2 (by omega) (by omega) k0 k1 w3
        go_wp2_with fail
        refine CW.out.mono ?_
        rintro e w' ⟨rfl, rfl⟩
        clear CW
        by_cases hK : K % 2 = 0
        case' pos =>
          go_wp2_with fail
          refine (Spend_any HT3.out.a HT3.out.o x x0).mono ?_
          rintro e w4 hX
          have M4 : Hid (Mid w w4 p r s d n' q n' (spQ s n' q x)) := HT3.out.mid hX (HT3.out.o.spend x x0)
          obtain rfl := hX.1
          clear hX c0 c1 HT3
          have c1 := (M4.out.bel.cell (p := ⟨b, off + k * 2 + 1, none⟩) hb).trans HC1.out
          go_wp2_with fail
          refine (rSpend_any M4.out.b M4.out.o x x0).mono ?_
          rintro e w5 hX
          have T5 : Hid (Two w w5 p r s d n' (spQ s n' q x)) := M4.out.two hX
          obtain rfl := hX.1
          clear hX c1 M4
          generalize spE s n' q x = er at *
        case' neg =>
          go_wp2_with fail
          refine (Switch_any HT3.out.a HT3.out.o x).mono ?_
          rintro e w4 hX
          have M4 : Hid (Mid w w4 p r s d n' q (swN d n' x) (swQ d n' q x)) := HT3.out.mid hX (HT3.out.o.switch x)
          obtain rfl := hX.1
          clear hX c0 c1 HT3
          have c1 := (M4.out.bel.cell (p := ⟨b, off + k * 2 + 1, none⟩) hb).trans HC1.out
          go_wp2_with fail
          refine (rSwitch_any M4.out.b M4.out.o x).mono ?_
          rintro e w5 hX
          have T5 : Hid (Two w w5 p r s d (swN d n' x) (swQ d n' q x)) := M4.out.two hX
          obtain rfl := hX.1
          clear hX c1 M4
          generalize swE d n' x = er at *
        all_goals (
          go_wp2_with fail
          go_roundw
          case rel => exact ⟨k + 1, by omega, by go_num, _, _, _, rfl, rfl, T5.out⟩
          case measure => simp [intOf]; omega)
      · have hg : ¬ k < l ∨ (k < l ∧ ¬ k < 300) := by omega
        clear a1
        have HTd : Hid (Two w wr.drew p r s d n' q) := HT.out.drew1
        have HS : Hid (wr.drew.cell? ⟨r, 2, none⟩ = some (.int .u64 n')) := HTd.out.b.c2
        clear HT
        rcases hg with a1 | ⟨a1, a2⟩
        all_goals (
          go_wp2_with fail
          go_region_held3 (fun w' => w'.cell? ⟨r, 2, none⟩ = some (.int .u64 n'))
            (first | exact HS.out)
            (first
              | (go_at_call 10; refine (TL.out.n1 _ HTd.out).mono ?_; rintro e w' ⟨rfl, m, hw⟩; have HTe : Hid (Two w w' p r s d n' q) := (by rw [hw]; exact HTd.out.drew m); clear HTd hw HS; have HTd : Hid (Two w w' p r s d n' q) := HTe.out; clear HTe; have HS : Hid (w'.cell? ⟨r, 2, none⟩ = some (.int .u64 n')) := HTd.out.b.c2)
              | (go_at_call 11; refine (TL.out.n2 _ HTd.out).mono ?_; rintro e w' ⟨rfl, m, hw⟩; have HTe : Hid (Two w w' p r s d n' q) := (by rw [hw]; exact HTd.out.drew m); clear HTd hw HS; have HTd : Hid (Two w w' p r s d n' q) := HTe.out; clear HTe; have HS : Hid (w'.cell? ⟨r, 2, none⟩ = some (.int .u64 n')) := HTd.out.b.c2)
              | (go_at_call 13; refine (TL.out.l1 _ HTd.out).mono ?_; rintro e w' ⟨rfl, m, hw⟩; have HTe : Hid (Two w w' p r s d n' q) := (by rw [hw]; exact HTd.out.drew m); clear HTd hw HS; have HTd : Hid (Two w w' p r s d n' q) := HTe.out; clear HTe; have HS : Hid (w'.cell? ⟨r, 2, none⟩ = some (.int .u64 n')) := HTd.out.b.c2)
              | (go_at_call 14; refine (TL.out.l2 _ HTd.out).mono ?_; rintro e w' ⟨rfl, m, hw⟩; have HTe : Hid (Two w w' p r s d n' q) := (by rw [hw]; exact HTd.out.drew m); clear HTd hw HS; have HTd : Hid (Two w w' p r s d n' q) := HTe.out; clear HTe; have HS : Hid (w'.cell? ⟨r, 2, none⟩ = some (.int .u64 n')) := HTd.out.b.c2)
              | (go_at_call 12; refine (TL.out.k1 _ HTd.out).mono ?_; rintro e w' ⟨rfl, rfl⟩)
              | (go_at_call 9; refine (awake_any _).mono ?_; rintro e w' ⟨rfl, hw⟩; have HTe : Hid (Two w w' p r s d n' q) := HTd.out.below hw; clear HTd hw HS; have HTd : Hid (Two w w' p r s d n' q) := HTe.out; clear HTe; have HS : Hid (w'.cell? ⟨r, 2, none⟩ = some (.int .u64 n')) := HTd.out.b.c2))
          go_wp2
          go_ret
          exact ⟨rfl, HTd.out.bel⟩)
  · have HF : Hid (newE s d n ≠ 0) := hf
    clear hf
    go_enter Try.func3, Try.ntmps3
    go_wp2_with fail
    refine (New_no s d n HF.out _).mono ?_
    rintro e w1 ⟨rfl, rfl⟩
    go_wp2_with fail
    refine (rNew_no s d n HF.out _).mono ?_
    rintro e w1 ⟨rfl, rfl⟩
    have hE := HF.out
    generalize newE s d n = E at *
    have hEb : (E != 0) = true := by simpa using hE
    clear HF
    go_wp2_with fail
    refine (awake_any _).mono ?_
    rintro e w5 ⟨rfl, hb5⟩
    have BL : Hid (Below w.heap.size w w5) := B1.out.trans (hb5.mono B1.out.size)
    clear hb5
    go_wp2
    go_ret
    exact ⟨rfl, BL.out⟩
end Go.Proofs.Ytbaonclncfjneaa
