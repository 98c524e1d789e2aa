/- CorePlays walked: every answer of all calls, what is spent, what the last-level cache holds, of every configuration. -/
import Derived.Test.YtokaohlgncmoaaaGreatWJk
import Derived.Test.YtokaohlgncmoaaaGreatWJm
import Derived.Test.YtokaohlgncmoaaaGreatWGn9
import Derived.Test.YtokaohlgncmoaaaGreatWJo
import Derived.Test.YtokaohlgncmoaaaGreatWJl
namespace Go.Proofs.YtokaohlgncmoaaaGreat.E
open Go.ChangeShapes Go.WideShapes Go.ChangeAt Go.RowKit
set_option linter.unusedVariables false
set_option maxRecDepth 8192

theorem done_any {Z : Nat → Prop} {w : World} {p q : Nat} {L : Nat → Value} {h : Hw} {s : Sc} {x : Dx} (K : Bo Z w p q L h s s) (d : Din Z w x) :
    Calls Tryz.prog 9 #[.pointer (some ⟨p, 0, none⟩), .pointer (some ⟨q, 0, none⟩), .agg #[.int .i64 x.k, .slice x.la x.ln x.lc, .int .i64 x.f, .int .i64 x.g, .slice x.ba x.bn x.bc, .int .u64 x.n, .int .i64 x.t.a, .int .i64 x.t.p, .int .i64 x.t.f, .bool x.t.r, .bool x.t.w, .bool x.t.d]] w (Lv Z w p q L h) := by
  have h0 : 0 ≤ x.k % 11 := Int.emod_nonneg _ (by decide)
  have h1 : x.k % 11 < 11 := Int.emod_lt_of_pos _ (by decide)
  rcases (show x.k % 11 = 0 ∨ x.k % 11 = 1 ∨ x.k % 11 = 2 ∨ x.k % 11 = 3 ∨ x.k % 11 = 4 ∨ x.k % 11 = 5 ∨ x.k % 11 = 6 ∨ (x.k % 11 = 7 ∨ x.k % 11 = 8 ∨ x.k % 11 = 9 ∨ x.k % 11 = 10) by omega) with e | e | e | e | e | e | e | e
  · cases hl : x.la with
    | none => rw [← hl]; exact done0n K d e hl
    | some ad => rw [← hl]; exact done0s K d e ad hl
  · exact done1 K d e
  · exact done2 K d e
  · exact done3 K d e
  · exact done4 K d e
  · exact done5 K d e
  · exact done6 K d e
  · exact doneE K d e
theorem beside_any {Z : Nat → Prop} {w : World} {p q : Nat} {L : Nat → Value} {h : Hw} {s : Sc} {x : Dx} (K : Bo Z w p q L h s s) (d : Din Z w x) :
    Calls Tryz.prog 10 #[.pointer (some ⟨p, 0, none⟩), .pointer (some ⟨q, 0, none⟩), .agg #[.int .i64 x.k, .slice x.la x.ln x.lc, .int .i64 x.f, .int .i64 x.g, .slice x.ba x.bn x.bc, .int .u64 x.n, .int .i64 x.t.a, .int .i64 x.t.p, .int .i64 x.t.f, .bool x.t.r, .bool x.t.w, .bool x.t.d]] w (Lv Z w p q L h) := by
  have h0 : 0 ≤ x.k % 11 := Int.emod_nonneg _ (by decide)
  have h1 : x.k % 11 < 11 := Int.emod_lt_of_pos _ (by decide)
  rcases (show (0 ≤ x.k % 11 ∧ x.k % 11 < 7) ∨ x.k % 11 = 7 ∨ x.k % 11 = 8 ∨ x.k % 11 = 9 ∨ x.k % 11 = 10 by omega) with e | e | e | e | e
  · exact besided K d e
  · exact beside7 K d e
  · exact beside8 K d e
  · by_cases hl : x.ln = 0
    · exact beside9z K d e hl
    · exact beside9s K d e hl
  · exact beside10 K d e
theorem do_ld {w : World} {b o : Nat} {x : Dx} (h : ∀ j v, (Dx.ce x)[j]? = some v → w.cell? ⟨b, o + j, none⟩ = some v) :
    (Instr.loadAt 45 (.pointer (some ⟨b, o, none⟩))).run Tryz.prog w = .ok (.agg #[.int .i64 x.k, .slice x.la x.ln x.lc, .int .i64 x.f, .int .i64 x.g, .slice x.ba x.bn x.bc, .int .u64 x.n, .int .i64 x.t.a, .int .i64 x.t.p, .int .i64 x.t.f, .bool x.t.r, .bool x.t.w, .bool x.t.d]) w := by
  have c0 := h 0 _ rfl
  have c1 := h 1 _ rfl
  have c2 := h 2 _ rfl
  have c3 := h 3 _ rfl
  have c4 := h 4 _ rfl
  have c5 := h 5 _ rfl
  have c6 := h 6 _ rfl
  have c7 := h 7 _ rfl
  have c8 := h 8 _ rfl
  have c9 := h 9 _ rfl
  have c10 := h 10 _ rfl
  have c11 := h 11 _ rfl
  rw [Nat.add_zero] at c0
  clear h
  simp [go_sem, *]
theorem bo_new {w0 w : World} {p : Nat} {c : Cf} {a : Ad} (K : Wk w0 w p (hwOf c) s0 []) (hc : Cin w a c) (hm : may c = true) :
    Calls Tryz.prog 7 #[.agg #[.int .i64 c.F, .int .i64 c.C, .int .i64 c.W, .int .i64 c.S, .int .i64 c.V, .int .i64 c.T, .int .u64 c.k.l1, .int .u64 c.k.llc, .int .u64 c.k.mi, .int .u64 c.k.fa, .int .u64 c.k.st, .int .u64 c.k.di, .int .u64 c.sl, .int .u64 c.pd, .int .u64 c.ft, .slice a.ta c.tn a.tc, .slice a.pa c.pn a.pc]] w fun e w' => ∃ q L, e = .returned (.tuple #[.pointer (some ⟨q, 0, none⟩), .int .i64 0]) ∧ Bo (fun k => k < w0.heap.size) w' p q L (hwOf c) s0 s0 ∧ Below w0.heap.size w0 w' := by
  refine (rNew_ok hc hm).mono ?_
  rintro e w' ⟨q, Y, rfl, ⟨L, cr⟩, k⟩
  obtain ⟨X, c', lo, _⟩ := K.c
  have sz := K.be.size
  have nw := fun i hi => (k.new i hi).resolve_left id
  have be := K.be.trans (k.below _ sz (fun i hi => hi.elim))
  refine ⟨q, L, rfl, ⟨⟨X, Y, c'.kept k (fun i hi z => z), cr, fun i hx hy => ?_, fun i hx hz => ?_, fun i hy hz => ?_⟩, fun i hi => Nat.lt_of_lt_of_le hi be.size⟩, be⟩
  · have := c'.lt i hx; have := nw i hy; omega
  · have := lo i hx; omega
  · have := nw i hy; omega
theorem kz_below {B : Nat} {w w' : World} (k : Kz (fun k => k < B) w w') : Below B w w' := ⟨k.os, k.tape, k.output, k.size, k.block⟩
theorem wpList_load_w {P : Program} {w : World} {ops : Array Oper} {rest : List Oper} {o : Oper} {a : Act} {Q : Exit → Act → World → Prop} (hw : Region.wanted o (yielded ops a.tmps) = true) (t : TypeId) (x : Operand)
    (ho : o.op = .load t x) (u v : Value) (hx : a.eval x = u) (hrun : (Instr.loadAt t u).run P w = .ok v w) (h : wpList P ops Q rest (a.put o.dst v) w) : wpList P ops Q (o :: rest) a w := by
  unfold wpList
  rw [if_pos hw]
  left
  unfold Oper.wp
  simp [execOp, ho, hx, hrun, Result.andThen]
  exact h
set_option maxHeartbeats 4000000 in
theorem plays_no {w : World} {a : Ad} {c : Cf} (hc : Cin w a c) (hm : may c = false) (v : Value) : Calls Tryz.prog 3 #[.agg #[.int .i64 c.F, .int .i64 c.C, .int .i64 c.W, .int .i64 c.S, .int .i64 c.V, .int .i64 c.T, .int .u64 c.k.l1, .int .u64 c.k.llc, .int .u64 c.k.mi, .int .u64 c.k.fa, .int .u64 c.k.st, .int .u64 c.k.di, .int .u64 c.sl, .int .u64 c.pd, .int .u64 c.ft, .slice a.ta c.tn a.tc, .slice a.pa c.pn a.pc], v] w fun e w' => e = .returned (.bool true) ∧ Below w.heap.size w w' := by
  have HB0 := cb_new hc
  have CP : Hid (∀ w', Cin w' a c → Calls Tryz.prog 6 #[.agg #[.int .i64 c.F, .int .i64 c.C, .int .i64 c.W, .int .i64 c.S, .int .i64 c.V, .int .i64 c.T, .int .u64 c.k.l1, .int .u64 c.k.llc, .int .u64 c.k.mi, .int .u64 c.k.fa, .int .u64 c.k.st, .int .u64 c.k.di, .int .u64 c.sl, .int .u64 c.pd, .int .u64 c.ft, .slice a.ta c.tn a.tc, .slice a.pa c.pn a.pc]] w' fun e w'' => ∃ a', e = .returned (.agg #[.int .i64 c.F, .int .i64 c.C, .int .i64 c.W, .int .i64 c.S, .int .i64 c.V, .int .i64 c.T, .int .u64 c.k.l1, .int .u64 c.k.llc, .int .u64 c.k.mi, .int .u64 c.k.fa, .int .u64 c.k.st, .int .u64 c.k.di, .int .u64 c.sl, .int .u64 c.pd, .int .u64 c.ft, .slice a'.ta c.tn a'.tc, .slice a'.pa c.pn a'.pc]) ∧ Cpd w' c w'' a') := fun w' h => Copy_any h
  have C1 : Hid (∀ w' b, Cin w' b c → Calls Tryz.prog 5 #[.agg #[.int .i64 c.F, .int .i64 c.C, .int .i64 c.W, .int .i64 c.S, .int .i64 c.V, .int .i64 c.T, .int .u64 c.k.l1, .int .u64 c.k.llc, .int .u64 c.k.mi, .int .u64 c.k.fa, .int .u64 c.k.st, .int .u64 c.k.di, .int .u64 c.sl, .int .u64 c.pd, .int .u64 c.ft, .slice b.ta c.tn b.tc, .slice b.pa c.pn b.pc]] w' fun e w2 => e = .returned (.tuple #[.pointer none, .int .i64 5]) ∧ Below w'.heap.size w' w2) := fun w' b h => New_no h hm
  have C2 : Hid (∀ w' b, Cin w' b c → Calls Tryz.prog 7 #[.agg #[.int .i64 c.F, .int .i64 c.C, .int .i64 c.W, .int .i64 c.S, .int .i64 c.V, .int .i64 c.T, .int .u64 c.k.l1, .int .u64 c.k.llc, .int .u64 c.k.mi, .int .u64 c.k.fa, .int .u64 c.k.st, .int .u64 c.k.di, .int .u64 c.sl, .int .u64 c.pd, .int .u64 c.ft, .slice b.ta c.tn b.tc, .slice b.pa c.pn b.pc]] w' fun e w2 => e = .returned (.tuple #[.pointer none, .int .i64 5]) ∧ Below w'.heap.size w' w2) := fun w' b h => rNew_no h hm
  have hld := HB0.bx.ld
  clear hc
  go_enter Tryz.func3, Tryz.ntmps3
  go_upto_region 1 with fail
  obtain ⟨W, hW, HB⟩ : ∃ W, (w.alloc (.cells #[.int .i64 c.F, .int .i64 c.C, .int .i64 c.W, .int .i64 c.S, .int .i64 c.V, .int .i64 c.T, .int .u64 c.k.l1, .int .u64 c.k.llc, .int .u64 c.k.mi, .int .u64 c.k.fa, .int .u64 c.k.st, .int .u64 c.k.di, .int .u64 c.sl, .int .u64 c.pd, .int .u64 c.ft, .slice a.ta c.tn a.tc, .slice a.pa c.pn a.pc] 28)) = W ∧ Hid (Cb w W w.heap.size a c) := ⟨_, rfl, HB0⟩
  rw [hW] at hld
  rw [hW]
  clear hW HB0
  go_wp2_with (refine wpList_load_at rfl 28 (.tmp 2) rfl _ _ rfl hld ?_)
  refine (CP.out _ HB.out.ci).mono ?_
  rintro _ w1 ⟨b, rfl, hb⟩
  have H1 : Hid (Cb w w1 w.heap.size a c) := HB.out.below hb.be
  have HCI : Hid (Cin w1 b c) := hb.ci
  clear HB hb hld CP
  go_wp2_with fail
  refine (C1.out _ _ HCI.out).mono ?_
  rintro _ w2 ⟨rfl, k2⟩
  have H2 : Hid (Cb w w2 w.heap.size a c) := H1.out.below k2
  clear H1 HCI k2 C1
  have hld := H2.out.bx.ld
  go_wp2_with (refine wpList_load_at rfl 28 (.tmp 2) rfl _ _ rfl hld ?_)
  refine (C2.out _ _ H2.out.ci).mono ?_
  rintro _ w3 ⟨rfl, k3⟩
  have H3 : Hid (Below w.heap.size w w3) := (H2.out.below k3).be
  clear H2 k3 C2 hld
  go_wp2_with (go_at_call 8; refine (awake_any _).mono ?_; rintro _ w4 ⟨rfl, k4⟩; have H4 : Hid (Below w.heap.size w w4) := H3.out.trans (k4.mono H3.out.size); clear k4)
  go_ret
  exact ⟨rfl, H4.out⟩
set_option maxHeartbeats 4000000 in
theorem plays_ok {w : World} {a : Ad} {c : Cf} (hc : Cin w a c) (hm : may c = true) {ao : Option Addr} {l cl : Nat} (hl : l ≤ maxLen) (hd : Dl (fun k => k < w.heap.size) w ao l) : Calls Tryz.prog 3 #[.agg #[.int .i64 c.F, .int .i64 c.C, .int .i64 c.W, .int .i64 c.S, .int .i64 c.V, .int .i64 c.T, .int .u64 c.k.l1, .int .u64 c.k.llc, .int .u64 c.k.mi, .int .u64 c.k.fa, .int .u64 c.k.st, .int .u64 c.k.di, .int .u64 c.sl, .int .u64 c.pd, .int .u64 c.ft, .slice a.ta c.tn a.tc, .slice a.pa c.pn a.pc], .slice ao l cl] w fun e w' => e = .returned (.bool true) ∧ Below w.heap.size w w' := by
  have HB0 := cb_new hc
  have CP : Hid (∀ w', Cin w' a c → Calls Tryz.prog 6 #[.agg #[.int .i64 c.F, .int .i64 c.C, .int .i64 c.W, .int .i64 c.S, .int .i64 c.V, .int .i64 c.T, .int .u64 c.k.l1, .int .u64 c.k.llc, .int .u64 c.k.mi, .int .u64 c.k.fa, .int .u64 c.k.st, .int .u64 c.k.di, .int .u64 c.sl, .int .u64 c.pd, .int .u64 c.ft, .slice a.ta c.tn a.tc, .slice a.pa c.pn a.pc]] w' fun e w'' => ∃ a', e = .returned (.agg #[.int .i64 c.F, .int .i64 c.C, .int .i64 c.W, .int .i64 c.S, .int .i64 c.V, .int .i64 c.T, .int .u64 c.k.l1, .int .u64 c.k.llc, .int .u64 c.k.mi, .int .u64 c.k.fa, .int .u64 c.k.st, .int .u64 c.k.di, .int .u64 c.sl, .int .u64 c.pd, .int .u64 c.ft, .slice a'.ta c.tn a'.tc, .slice a'.pa c.pn a'.pc]) ∧ Cpd w' c w'' a') := fun w' h => Copy_any h
  have C1 : Hid (∀ w' b, Below w.heap.size w w' → Cin w' b c → Calls Tryz.prog 5 #[.agg #[.int .i64 c.F, .int .i64 c.C, .int .i64 c.W, .int .i64 c.S, .int .i64 c.V, .int .i64 c.T, .int .u64 c.k.l1, .int .u64 c.k.llc, .int .u64 c.k.mi, .int .u64 c.k.fa, .int .u64 c.k.st, .int .u64 c.k.di, .int .u64 c.sl, .int .u64 c.pd, .int .u64 c.ft, .slice b.ta c.tn b.tc, .slice b.pa c.pn b.pc]] w' fun e w2 => ∃ p, e = .returned (.tuple #[.pointer (some ⟨p, 0, none⟩), .int .i64 0]) ∧ Wk w w2 p (hwOf c) s0 [] ∧ Below w'.heap.size w' w2) := fun w' b be h => by
    refine (New_ok h hm).mono ?_
    rintro e w2 ⟨p, X, rfl, cr, k⟩
    exact ⟨p, rfl, ⟨⟨X, cr, fun i hi => by
      rcases k.new i hi with z | z
      · exact z.elim
      · have := be.size; omega, fun q hq => by simp at hq⟩, be.trans (k.below _ be.size (fun i hi => hi.elim)), fun q hq => by simp at hq⟩, k.below _ (Nat.le_refl _) (fun i hi => hi.elim)⟩
  have C2 : Hid (∀ w' b p, Wk w w' p (hwOf c) s0 [] → Cin w' b c → Calls Tryz.prog 7 #[.agg #[.int .i64 c.F, .int .i64 c.C, .int .i64 c.W, .int .i64 c.S, .int .i64 c.V, .int .i64 c.T, .int .u64 c.k.l1, .int .u64 c.k.llc, .int .u64 c.k.mi, .int .u64 c.k.fa, .int .u64 c.k.st, .int .u64 c.k.di, .int .u64 c.sl, .int .u64 c.pd, .int .u64 c.ft, .slice b.ta c.tn b.tc, .slice b.pa c.pn b.pc]] w' fun e w2 => ∃ q L, e = .returned (.tuple #[.pointer (some ⟨q, 0, none⟩), .int .i64 0]) ∧ Bo (fun k => k < w.heap.size) w2 p q L (hwOf c) s0 s0 ∧ Below w.heap.size w w2) := fun w' b p K h => bo_new K h hm
  have HDL : Hid (∀ W, Below w.heap.size w W → Dl (fun k => k < w.heap.size) W ao l) := fun W b => hd.kz (Kz.of_below b (fun _ z => z))
  have hld := HB0.bx.ld
  unfold maxLen at hl
  clear hc hd
  go_enter Tryz.func3, Tryz.ntmps3
  go_upto_region 1 with fail
  obtain ⟨W, hW, HB⟩ : ∃ W, (w.alloc (.cells #[.int .i64 c.F, .int .i64 c.C, .int .i64 c.W, .int .i64 c.S, .int .i64 c.V, .int .i64 c.T, .int .u64 c.k.l1, .int .u64 c.k.llc, .int .u64 c.k.mi, .int .u64 c.k.fa, .int .u64 c.k.st, .int .u64 c.k.di, .int .u64 c.sl, .int .u64 c.pd, .int .u64 c.ft, .slice a.ta c.tn a.tc, .slice a.pa c.pn a.pc] 28)) = W ∧ Hid (Cb w W w.heap.size a c) := ⟨_, rfl, HB0⟩
  rw [hW] at hld
  rw [hW]
  clear hW HB0
  go_wp2_with (refine wpList_load_at rfl 28 (.tmp 2) rfl _ _ rfl hld ?_)
  refine (CP.out _ HB.out.ci).mono ?_
  rintro _ w1 ⟨b, rfl, hb⟩
  have H1 : Hid (Cb w w1 w.heap.size a c) := HB.out.below hb.be
  have HCI : Hid (Cin w1 b c) := hb.ci
  clear HB hb hld CP
  go_wp2_with fail
  refine (C1.out _ _ H1.out.be HCI.out).mono ?_
  rintro _ w2 ⟨p, rfl, hk, k2⟩
  have H2 : Hid (Cb w w2 w.heap.size a c) := H1.out.below k2
  have HK2 : Hid (Wk w w2 p (hwOf c) s0 []) := hk
  clear H1 HCI k2 C1 hk
  have hld := H2.out.bx.ld
  go_wp2_with (refine wpList_load_at rfl 28 (.tmp 2) rfl _ _ rfl hld ?_)
  refine (C2.out _ _ _ HK2.out H2.out.ci).mono ?_
  rintro _ w3 ⟨q, L, rfl, hB, hbe⟩
  obtain ⟨h, hh⟩ : ∃ h, hwOf c = h := ⟨_, rfl⟩
  rw [hh] at hB
  have HB3 : Hid (∃ s, Bo (fun k => k < w.heap.size) w3 p q L h s s ∧ Below w.heap.size w w3) := ⟨s0, hB, hbe⟩
  clear H2 hld HK2 C2 hB hbe hh
  go_wp2_with fail
  go_loopw [9] (fun i wr => ∃ k : Nat, k ≤ l ∧ k ≤ 120 ∧ i = .int .i64 k ∧ ∃ s, Bo (fun k => k < w.heap.size) wr p q L h s s ∧ Below w.heap.size w wr) (fun i _ => l - (D.iv i).toNat)
  case atStart => exact ⟨0, by omega, by omega, rfl, HB3.out⟩
  case round =>
    obtain ⟨k, hk, hk2, rfl, s, hB, hbe⟩ := hrel
    have HBo : Hid (Bo (fun k => k < w.heap.size) wr p q L h s s) := hB
    have HBe : Hid (Below w.heap.size w wr) := hbe
    clear hB hbe HB3
    by_cases hlt : k < l ∧ k < 120
    case' pos =>
      obtain ⟨h1, h2⟩ := hlt
      obtain ⟨b, off, x, rfl, hz, hc, hdi⟩ := HDL.out wr HBe.out k h1
      have HLD : Hid (∀ W, Below w.heap.size w W → (Instr.loadAt 45 (.pointer (some ⟨b, off + k * 12, none⟩))).run Tryz.prog W = .ok (.agg #[.int .i64 x.k, .slice x.la x.ln x.lc, .int .i64 x.f, .int .i64 x.g, .slice x.ba x.bn x.bc, .int .u64 x.n, .int .i64 x.t.a, .int .i64 x.t.p, .int .i64 x.t.f, .bool x.t.r, .bool x.t.w, .bool x.t.d]) W) := fun W bW => do_ld (fun j v hv => (World.cell?_of_block (w := wr) (a := ⟨b, off + k * 12 + j, none⟩) ((bW.block b hz).trans (HBe.out.block b hz).symm)).trans (hc j v hv))
      have HD1 : Hid (Calls _ _ _ _ _) := done_any HBo.out hdi
      have HDI : Hid (Din (fun k => k < w.heap.size) wr x) := hdi
      have hld := HLD.out wr HBe.out
      clear hc hdi hz
      have d1 : decide ((k : Int) < (l : Int)) = true := by rw [decide_eq_true_eq]; omega
      have d2 : decide ((k : Int) < 120) = true := by rw [decide_eq_true_eq]; omega
      go_wp2_with (refine wpList_load_w rfl 45 (.tmp 51) rfl _ _ rfl hld ?_)
      refine HD1.out.mono ?_
      rintro e wd ⟨rfl, s2, hB2, hK2⟩
      have HBe2 : Hid (Below w.heap.size w wd) := HBe.out.trans (kz_below hK2)
      have HD2 : Hid (Calls _ _ _ _ _) := beside_any hB2 (HDI.out.kz hK2)
      clear hB2 hK2 HD1 HDI HBo hld
      have hld := HLD.out wd HBe2.out
      go_wp2_with (refine wpList_load_w rfl 45 (.tmp 60) rfl _ _ rfl hld ?_)
      refine HD2.out.mono ?_
      rintro e we ⟨rfl, s3, hB3, hK3⟩
      have HF : Hid (∃ s, Bo (fun k => k < w.heap.size) we p q L h s s ∧ Below w.heap.size w we) := ⟨s3, hB3, HBe2.out.trans (kz_below hK3)⟩
      clear hB3 hK3 HD2 HBe2 hld HLD
      go_wp2
      go_roundw
      case rel => exact ⟨k + 1, by omega, by omega, by go_num, HF.out⟩
      case measure => simp [D.iv]; omega
    case' neg =>
      have HGD : Hid (¬ (k < l ∧ k < 120)) := hlt
      have CS := settle_both (fun k => k < w.heap.size) p q L h s
      have P1 := CS.one HBo.out (fun _ _ => trivial)
      have P2 := CS.two (w := wr) (fun _ _ => trivial)
      have HP1 : Hid _ := P1
      have HP2 : Hid _ := P2
      clear P1 P2 CS HBo HDL
      obtain ⟨s', hs'⟩ : ∃ s', ({ s with z := 0 } : Sc) = s' := ⟨_, rfl⟩
      rw [hs'] at HP1 HP2
      clear hs'
      have hv : ((s.z : Int) == s.z) = true := by simp
      have HGB : (decide ((k : Int) < (l : Int)) && decide ((k : Int) < 120)) = false := by
        have := HGD.out
        rw [Bool.and_eq_false_iff, decide_eq_false_iff_not, decide_eq_false_iff_not]
        omega
      by_cases h1 : k < l
      case' pos =>
        have d1 : decide ((k : Int) < (l : Int)) = true := by rw [decide_eq_true_eq]; omega
        have d2 : decide ((k : Int) < 120) = false := by rw [decide_eq_false_iff_not]; have := HGD.out; omega
      case' neg =>
        have d1 : decide ((k : Int) < (l : Int)) = false := by rw [decide_eq_false_iff_not]; omega
      all_goals
        clear HGB HGD
        go_wp2_with (first
          | (go_at_call 11; refine (HP1.out _ (by first | exact (Below.refl _ _).drew | exact Below.refl _ _)).mono ?_; rintro e wl ⟨rfl, hB1, hK1⟩; have HB1 : Hid (Bo _ _ _ _ _ _ _ _) := hB1; have HK1 : Hid (Kz _ _ _) := hK1; clear hB1 hK1)
          | (go_at_call 12; refine (HP2.out _ HB1.out HK1.out).mono ?_; rintro e wq ⟨rfl, hB2, hK2⟩; have HB2 : Hid (Bo _ _ _ _ _ _ _ _) := hB2; have HL1 : Hid (Calls _ _ _ _ _) := hB2.lines; have HLN : Hid ((C.lns s'.b (h.c * 16)).length ≤ 1000000) := hB2.lnl; have HBQ : Hid (Below w.heap.size w wq) := HBe.out.trans (kz_below hK2); clear hB2 hK2)
          | (go_at_call 14; refine HL1.out.mono ?_; rintro e w4 ⟨v1, rfl, hl1, hb4⟩; have HN1 : Hid (C.Lns _ _ _ _) := hl1; have HBF : Hid (Below w.heap.size w w4) := HBQ.out.trans (hb4.mono HBQ.out.size); have HL2 : Hid (Calls _ _ _ _ _) := (HB2.out.below hb4).rlines; clear hl1 hb4)
          | (go_at_call 15; refine HL2.out.mono ?_; rintro e w5 ⟨v2, rfl, hl2, hb5⟩; have HS : Hid (Calls _ _ _ _ _) := C.Same_any (HN1.out.below hb5) hl2 HLN.out; have HBG : Hid (Below w.heap.size w w5) := HBF.out.trans (hb5.mono HBF.out.size); clear hl2 hb5)
          | (go_at_call 13; refine HS.out.mono ?_; rintro e w6 ⟨rfl, hb6⟩; have HBH : Hid (Below w.heap.size w w6) := HBG.out.trans (hb6.mono HBG.out.size); clear hb6)
          | (go_at_call 8; refine (awake_any _).mono ?_; rintro _ w7 ⟨rfl, k7⟩; have HBI : Hid (Below w.heap.size w w7) := HBH.out.trans (k7.mono HBH.out.size); clear k7))
        go_ret
        exact ⟨rfl, HBI.out⟩
theorem plays_any {w : World} {a : Ad} {c : Cf} (hc : Cin w a c) {ao : Option Addr} {l cl : Nat} (hl : l ≤ maxLen) (hd : Dl (fun k => k < w.heap.size) w ao l) : Calls Tryz.prog 3 #[.agg #[.int .i64 c.F, .int .i64 c.C, .int .i64 c.W, .int .i64 c.S, .int .i64 c.V, .int .i64 c.T, .int .u64 c.k.l1, .int .u64 c.k.llc, .int .u64 c.k.mi, .int .u64 c.k.fa, .int .u64 c.k.st, .int .u64 c.k.di, .int .u64 c.sl, .int .u64 c.pd, .int .u64 c.ft, .slice a.ta c.tn a.tc, .slice a.pa c.pn a.pc], .slice ao l cl] w fun e w' => e = .returned (.bool true) ∧ Below w.heap.size w w' := by
  cases hm : may c with
  | false => exact plays_no hc hm _
  | true => exact plays_ok hc hm hl hd
end Go.Proofs.YtokaohlgncmoaaaGreat.E
