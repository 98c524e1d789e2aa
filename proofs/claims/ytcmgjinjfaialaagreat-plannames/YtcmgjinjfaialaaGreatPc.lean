/- PlanChecks' walk; no condition but that the configuration lies in memory. -/
import Derived.Test.YtcmgjinjfaialaaGreatSb
import Derived.Test.YtcmgjinjfaialaaGreatCy
import Derived.Test.YtcmgjinjfaialaaGreatR7
namespace Go.Proofs.YtcmgjinjfaialaaGreat
open Go.ChangeShapes Go.WideShapes Go.ChangeAt Go.RowKit
set_option linter.unusedVariables false

/-- The configuration and its copy, each in a box. -/
structure Pk (w w' : World) (g1 g3 : Nat) (a b : Ad) (c : Cf) : Prop where
  be : Below w.heap.size w w'
  x1 : Sev w' g1 a c
  x3 : Sev w' g3 b c
  ia : Cin w' a c
  ib : Cin w' b c
theorem Pk.below {w w' w'' : World} {g1 g3 : Nat} {a b : Ad} {c : Cf} (h : Pk w w' g1 g3 a b c) (k : Below w'.heap.size w' w'') : Pk w w'' g1 g3 a b c :=
  ⟨h.be.trans (k.mono h.be.size), h.x1.below k, h.x3.below k, h.ia.below k, h.ib.below k⟩
theorem Fa.below {w w' : World} {ao : Option Addr} {L : List (Int × Int)} (h : Fa w ao L) (k : Below w.heap.size w w') : Fa w' ao L := by
  rcases h with h | ⟨g, h1, h2, h3⟩
  · exact Or.inl h
  · exact Or.inr ⟨g, h1, Nat.lt_of_lt_of_le h2 k.size, fun i hi => ⟨(k.cell h2).trans (h3 i hi).1, (k.cell h2).trans (h3 i hi).2⟩⟩
/-- Faults in memory lie beyond a bound. -/
def Fw (w : World) (B : Nat) (ao : Option Addr) (n : Nat) : Prop := n = 0 ∨ ∃ g cur, ao = some ⟨g, 0, none⟩ ∧ B ≤ g ∧ Blk w g 34 cur ∧ n * 2 ≤ cur.length
theorem Fw.below {w w' : World} {B n : Nat} {ao : Option Addr} (h : Fw w B ao n) (k : Below w.heap.size w w') : Fw w' B ao n := by
  rcases h with h | ⟨g, cur, h1, h2, h3, h4⟩
  · exact Or.inl h
  · exact Or.inr ⟨g, cur, h1, h2, h3.below k, h4⟩
theorem Fs.fw {w : World} {base : Nat} {v : Value} {L : List (Int × Int)} (h : Fs w base v L) : ∃ ao cap, v = .slice ao L.length cap ∧ Fa w ao L ∧ Fw w base ao L.length := by
  obtain ⟨ao, cap, rfl, hF⟩ := h.fa
  refine ⟨ao, cap, rfl, hF, ?_⟩
  rcases h with ⟨h0, ⟨e, h⟩ | ⟨g, cap2, cur, e, h1, h2, h3, h4, h5, h6⟩⟩
  · exact Or.inl h
  · cases e
    have hl : cur.toList.length = cap * 2 := by simpa using h5
    exact Or.inr ⟨g, cur.toList, rfl, h1, h2, by omega⟩
/-- Three lists of faults: the first may be written, the others stay. -/
structure Lp (wb w' : World) (a4 a5 a6 : Option Addr) (L : List (Int × Int)) : Prop where
  be : Below wb.heap.size wb w'
  r4 : L.length = 0 ∨ ∃ g cur, a4 = some ⟨g, 0, none⟩ ∧ wb.heap.size ≤ g ∧ Blk w' g 34 cur ∧ L.length * 2 ≤ cur.length ∧ (∀ ad, a5 = some ad → ad.block ≠ g) ∧ (∀ ad, a6 = some ad → ad.block ≠ g)
  f5 : Fa w' a5 L
  f6 : Fa w' a6 L
theorem Lp.of {wb w1 w2 w3 : World} {a4 a5 a6 : Option Addr} {L : List (Int × Int)} (k1 : Below wb.heap.size wb w1) (k2 : Below w1.heap.size w1 w2) (k3 : Below w2.heap.size w2 w3)
    (f4 : Fw w1 wb.heap.size a4 L.length) (f5 : Fa w2 a5 L) (g5 : Fw w2 w1.heap.size a5 L.length) (f6 : Fa w3 a6 L) (g6 : Fw w3 w2.heap.size a6 L.length) : Lp wb w3 a4 a5 a6 L := by
  refine ⟨k1.trans ((k2.trans (k3.mono k2.size)).mono k1.size), ?_, f5.below k3, f6⟩
  rcases f4 with h | ⟨g, cur, h1, h2, h3, h4⟩
  · exact Or.inl h
  · rcases g5 with h | ⟨g', _, e5, h5, _⟩
    · exact Or.inl h
    · rcases g6 with h | ⟨g'', _, e6, h6, _⟩
      · exact Or.inl h
      · have := h3.lt
        have := k2.size
        refine Or.inr ⟨g, cur, h1, h2, (h3.below k2).below k3, h4, fun ad e => ?_, fun ad e => ?_⟩
        · rw [e5] at e; cases e; show g' ≠ g; omega
        · rw [e6] at e; cases e; show g'' ≠ g; omega
theorem Fa.set {w : World} {g : Nat} {ao : Option Addr} {L : List (Int × Int)} (h : Fa w ao L) (hne : ∀ ad, ao = some ad → ad.block ≠ g) (i : Nat) (v : Value) : Fa (w.setCell ⟨g, i, none⟩ v) ao L := by
  rcases h with h | ⟨g', h1, h2, h3⟩
  · exact Or.inl h
  · have hg := hne _ h1
    have e : ∀ j, (w.setCell ⟨g, i, none⟩ v).cell? ⟨g', j, none⟩ = w.cell? ⟨g', j, none⟩ := fun j => by
      simp only [World.cell?]
      rw [heap_set_ne hg i v]
    exact Or.inr ⟨g', h1, Nat.lt_of_lt_of_le h2 (grown_setCell' w g i v).size, fun j hj => ⟨(e _).trans (h3 j hj).1, (e _).trans (h3 j hj).2⟩⟩
theorem Lp.below {wb w w' : World} {a4 a5 a6 : Option Addr} {L : List (Int × Int)} (h : Lp wb w a4 a5 a6 L) (k : Below w.heap.size w w') : Lp wb w' a4 a5 a6 L := by
  refine ⟨h.be.trans (k.mono h.be.size), ?_, h.f5.below k, h.f6.below k⟩
  rcases h.r4 with h | ⟨g, cur, h1, h2, h3, h4⟩
  · exact Or.inl h
  · exact Or.inr ⟨g, cur, h1, h2, h3.below k, h4⟩
theorem Lp.set {wb w : World} {a5 a6 : Option Addr} {L : List (Int × Int)} {g : Nat} (h : Lp wb w (some ⟨g, 0, none⟩) a5 a6 L) (hL : L.length ≠ 0) (i : Nat) (v : Value) : Lp wb (w.setCell ⟨g, i, none⟩ v) (some ⟨g, 0, none⟩) a5 a6 L := by
  rcases h.r4 with h0 | ⟨g', cur, h1, h2, h3, h4, h5, h6⟩
  · exact absurd h0 hL
  · cases h1
    exact ⟨h.be.trans (below_setCell h2 h.be.size i v), Or.inr ⟨g, _, rfl, h2, h3.set i v, by simpa using h4, h5, h6⟩, h.f5.set h5 i v, h.f6.set h6 i v⟩
theorem wpList_load_wanted {P : Program} {w : World} {ops : Array Oper} {rest : List Oper} {o : Oper} {a : Act} {Q : Exit → Act → World → Prop} (hw : Region.wanted o (yielded ops a.tmps) = true) (t : TypeId) (x : Operand)
    (ho : o.op = .load t x) (u v : Value) (hx : a.eval x = u) (hrun : (Instr.loadAt t u).run P w = .ok v w) (h : wpList P ops Q rest (a.put o.dst v) w) : wpList P ops Q (o :: rest) a w := by
  unfold wpList
  rw [if_pos hw]
  left
  unfold Oper.wp
  simp [execOp, ho, hx, hrun, Result.andThen]
  exact h
theorem Sev.sx {W : World} {g : Nat} {b : Ad} {c : Cf} (h : Sev W g b c) : W.cell? ⟨g, 0, none⟩ = some (.int .i64 c.F) ∧ W.cell? ⟨g, 1, none⟩ = some (.int .i64 c.C) ∧ W.cell? ⟨g, 2, none⟩ = some (.int .i64 c.W) ∧ W.cell? ⟨g, 3, none⟩ = some (.int .i64 c.S) ∧ W.cell? ⟨g, 4, none⟩ = some (.int .i64 c.V) ∧ W.cell? ⟨g, 5, none⟩ = some (.int .i64 c.T) ∧ W.cell? ⟨g, 6, none⟩ = some (.int .u64 c.k.l1) ∧ W.cell? ⟨g, 7, none⟩ = some (.int .u64 c.k.llc) ∧ W.cell? ⟨g, 8, none⟩ = some (.int .u64 c.k.mi) ∧ W.cell? ⟨g, 9, none⟩ = some (.int .u64 c.k.fa) ∧ W.cell? ⟨g, 10, none⟩ = some (.int .u64 c.k.st) ∧ W.cell? ⟨g, 11, none⟩ = some (.int .u64 c.k.di) ∧ W.cell? ⟨g, 12, none⟩ = some (.int .u64 c.sl) ∧ W.cell? ⟨g, 13, none⟩ = some (.int .u64 c.pd) ∧ W.cell? ⟨g, 14, none⟩ = some (.int .u64 c.ft) ∧ W.cell? ⟨g, 15, none⟩ = some (.slice b.ta c.tn b.tc) ∧ W.cell? ⟨g, 16, none⟩ = some (.slice b.pa c.pn b.pc) := ⟨h.c0, h.c1, h.c2, h.c3, h.c4, h.c5, h.c6, h.c7, h.c8, h.c9, h.c10, h.c11, h.c12, h.c13, h.c14, h.c15, h.c16⟩
set_option maxRecDepth 100000 in
set_option maxHeartbeats 4000000 in
theorem PlanChecks_any {w : World} {a : Ad} {c : Cf} (hc : Cin w a c) : Calls Tryz.prog 6 #[.agg #[.int .i64 c.F, .int .i64 c.C, .int .i64 c.W, .int .i64 c.S, .int .i64 c.V, .int .i64 c.T, .int .u64 c.k.l1, .int .u64 c.k.llc, .int .u64 c.k.mi, .int .u64 c.k.fa, .int .u64 c.k.st, .int .u64 c.k.di, .int .u64 c.sl, .int .u64 c.pd, .int .u64 c.ft, .slice a.ta c.tn a.tc, .slice a.pa c.pn a.pc]] w (One (.bool true) w) := by
  have HB0 := cb_new hc
  have CP : Hid (∀ w', Cin w' a c → Calls Tryz.prog 17 #[.agg #[.int .i64 c.F, .int .i64 c.C, .int .i64 c.W, .int .i64 c.S, .int .i64 c.V, .int .i64 c.T, .int .u64 c.k.l1, .int .u64 c.k.llc, .int .u64 c.k.mi, .int .u64 c.k.fa, .int .u64 c.k.st, .int .u64 c.k.di, .int .u64 c.sl, .int .u64 c.pd, .int .u64 c.ft, .slice a.ta c.tn a.tc, .slice a.pa c.pn a.pc]] w' fun e w'' => ∃ a', e = .returned (.agg #[.int .i64 c.F, .int .i64 c.C, .int .i64 c.W, .int .i64 c.S, .int .i64 c.V, .int .i64 c.T, .int .u64 c.k.l1, .int .u64 c.k.llc, .int .u64 c.k.mi, .int .u64 c.k.fa, .int .u64 c.k.st, .int .u64 c.k.di, .int .u64 c.sl, .int .u64 c.pd, .int .u64 c.ft, .slice a'.ta c.tn a'.tc, .slice a'.pa c.pn a'.pc]) ∧ Cpd w' c w'' a') := fun w' h => Copy_any h
  have C1 : Hid (∀ w' b, Cin w' b c → Calls Tryz.prog 5 #[.agg #[.int .i64 c.F, .int .i64 c.C, .int .i64 c.W, .int .i64 c.S, .int .i64 c.V, .int .i64 c.T, .int .u64 c.k.l1, .int .u64 c.k.llc, .int .u64 c.k.mi, .int .u64 c.k.fa, .int .u64 c.k.st, .int .u64 c.k.di, .int .u64 c.sl, .int .u64 c.pd, .int .u64 c.ft, .slice b.ta c.tn b.tc, .slice b.pa c.pn b.pc]] w' (Chk c w')) := fun w' b h => Check_all h
  have C2 : Hid (∀ w', Cin w' a c → Calls Tryz.prog 18 #[.agg #[.int .i64 c.F, .int .i64 c.C, .int .i64 c.W, .int .i64 c.S, .int .i64 c.V, .int .i64 c.T, .int .u64 c.k.l1, .int .u64 c.k.llc, .int .u64 c.k.mi, .int .u64 c.k.fa, .int .u64 c.k.st, .int .u64 c.k.di, .int .u64 c.sl, .int .u64 c.pd, .int .u64 c.ft, .slice a.ta c.tn a.tc, .slice a.pa c.pn a.pc]] w' (Chk c w')) := fun w' h => rCheck_all h
  have C3 : Hid (∀ w' b, Cin w' b c → Calls Tryz.prog 20 #[.agg #[.int .i64 c.F, .int .i64 c.C, .int .i64 c.W, .int .i64 c.S, .int .i64 c.V, .int .i64 c.T, .int .u64 c.k.l1, .int .u64 c.k.llc, .int .u64 c.k.mi, .int .u64 c.k.fa, .int .u64 c.k.st, .int .u64 c.k.di, .int .u64 c.sl, .int .u64 c.pd, .int .u64 c.ft, .slice b.ta c.tn b.tc, .slice b.pa c.pn b.pc]] w' (One (.bool (may c)) w')) := fun w' b h => May_all h
  have C4 : Hid (∀ w' b, Cin w' b c → Cin w' a c → Calls Tryz.prog 21 #[.agg #[.int .i64 c.F, .int .i64 c.C, .int .i64 c.W, .int .i64 c.S, .int .i64 c.V, .int .i64 c.T, .int .u64 c.k.l1, .int .u64 c.k.llc, .int .u64 c.k.mi, .int .u64 c.k.fa, .int .u64 c.k.st, .int .u64 c.k.di, .int .u64 c.sl, .int .u64 c.pd, .int .u64 c.ft, .slice b.ta c.tn b.tc, .slice b.pa c.pn b.pc], .agg #[.int .i64 c.F, .int .i64 c.C, .int .i64 c.W, .int .i64 c.S, .int .i64 c.V, .int .i64 c.T, .int .u64 c.k.l1, .int .u64 c.k.llc, .int .u64 c.k.mi, .int .u64 c.k.fa, .int .u64 c.k.st, .int .u64 c.k.di, .int .u64 c.sl, .int .u64 c.pd, .int .u64 c.ft, .slice a.ta c.tn a.tc, .slice a.pa c.pn a.pc]] w' (One (.bool true) w')) := fun w' b h k => Same_any h k
  have C5 : Hid (∀ w' a1 a2 c1 c2, Fa w' a1 (chk c) → Fa w' a2 (chk c) → Calls Tryz.prog 19 #[.slice a1 (chk c).length c1, .slice a2 (chk c).length c2] w' (One (.bool true) w')) := fun w' a1 a2 c1 c2 h k => same_any (Nat.le_trans (chk_len c) (by decide)) h k
  have HM : Hid (may c = ((chk c).length == 0)) := may_len c
  have hL := chk_len c
  have hld := HB0.bx.ld
  clear hc
  go_enter Tryz.func6, Tryz.ntmps6
  go_upto_region 1 with fail
  obtain ⟨W, hW, HB⟩ : ∃ W, (w.alloc (.cells #[.int .i64 c.F, .int .i64 c.C, .int .i64 c.W, .int .i64 c.S, .int .i64 c.V, .int .i64 c.T, .int .u64 c.k.l1, .int .u64 c.k.llc, .int .u64 c.k.mi, .int .u64 c.k.fa, .int .u64 c.k.st, .int .u64 c.k.di, .int .u64 c.sl, .int .u64 c.pd, .int .u64 c.ft, .slice a.ta c.tn a.tc, .slice a.pa c.pn a.pc] 28)) = W ∧ Hid (Cb w W w.heap.size a c) := ⟨_, rfl, HB0⟩
  rw [hW] at hld
  rw [hW]
  clear hW HB0
  generalize hg1 : w.heap.size = g1 at *
  go_wp2_with (refine wpList_load_at rfl 28 (.tmp 1) rfl _ _ rfl hld ?_)
  refine (CP.out _ HB.out.ci).mono ?_
  rintro _ w1 ⟨b, rfl, hb⟩
  have HP0 : Hid (Pk w (w1.alloc (.cells #[.int .i64 c.F, .int .i64 c.C, .int .i64 c.W, .int .i64 c.S, .int .i64 c.V, .int .i64 c.T, .int .u64 c.k.l1, .int .u64 c.k.llc, .int .u64 c.k.mi, .int .u64 c.k.fa, .int .u64 c.k.st, .int .u64 c.k.di, .int .u64 c.sl, .int .u64 c.pd, .int .u64 c.ft, .slice b.ta c.tn b.tc, .slice b.pa c.pn b.pc] 28)) g1 w1.heap.size a b c) := by
    have k1 := hb.be.trans ((below_new w1 (.cells #[.int .i64 c.F, .int .i64 c.C, .int .i64 c.W, .int .i64 c.S, .int .i64 c.V, .int .i64 c.T, .int .u64 c.k.l1, .int .u64 c.k.llc, .int .u64 c.k.mi, .int .u64 c.k.fa, .int .u64 c.k.st, .int .u64 c.k.di, .int .u64 c.sl, .int .u64 c.pd, .int .u64 c.ft, .slice b.ta c.tn b.tc, .slice b.pa c.pn b.pc] 28)).mono hb.be.size)
    have q := HB.out.below k1
    exact ⟨q.be, q.bx, sev_new w1 b c, q.ci, hb.ci.below (below_new _ _)⟩
  have st := stK w1 b c
  clear hb HB hld CP
  go_upto_region 2 with (refine wpList_store_at rfl 28 (.tmp 3) (.tmp 9) rfl _ _ rfl rfl st ?_)
  generalize w1.alloc (.cells #[.int .i64 c.F, .int .i64 c.C, .int .i64 c.W, .int .i64 c.S, .int .i64 c.V, .int .i64 c.T, .int .u64 c.k.l1, .int .u64 c.k.llc, .int .u64 c.k.mi, .int .u64 c.k.fa, .int .u64 c.k.st, .int .u64 c.k.di, .int .u64 c.sl, .int .u64 c.pd, .int .u64 c.ft, .slice b.ta c.tn b.tc, .slice b.pa c.pn b.pc] 28) = wb at *
  generalize w1.heap.size = g3 at *
  clear st
  go_frame
  have HD : Hid (Pk w wb.drew g1 g3 a b c) := HP0.out.below (below_drew _ _)
  go_cut [4, 5] from 10 (fun t4 t5 wx => ∃ a4 a5 n4 n5 wy, t4 = .slice a4 (chk c).length n4 ∧ t5 = .slice a5 (chk c).length n5 ∧ Below wb.heap.size wb wy ∧ Below wy.heap.size wy wx ∧ Fw wy wb.heap.size a4 (chk c).length ∧ Fa wy a4 (chk c) ∧ Fa wx a5 (chk c) ∧ Fw wx wy.heap.size a5 (chk c).length)
  case first =>
    go_region_held3 (fun W => W.cell? ⟨g3, 0, none⟩ = some (.int .i64 c.F) ∧ W.cell? ⟨g3, 1, none⟩ = some (.int .i64 c.C) ∧ W.cell? ⟨g3, 2, none⟩ = some (.int .i64 c.W) ∧ W.cell? ⟨g3, 3, none⟩ = some (.int .i64 c.S) ∧ W.cell? ⟨g3, 4, none⟩ = some (.int .i64 c.V) ∧ W.cell? ⟨g3, 5, none⟩ = some (.int .i64 c.T) ∧ W.cell? ⟨g3, 6, none⟩ = some (.int .u64 c.k.l1) ∧ W.cell? ⟨g3, 7, none⟩ = some (.int .u64 c.k.llc) ∧ W.cell? ⟨g3, 8, none⟩ = some (.int .u64 c.k.mi) ∧ W.cell? ⟨g3, 9, none⟩ = some (.int .u64 c.k.fa) ∧ W.cell? ⟨g3, 10, none⟩ = some (.int .u64 c.k.st) ∧ W.cell? ⟨g3, 11, none⟩ = some (.int .u64 c.k.di) ∧ W.cell? ⟨g3, 12, none⟩ = some (.int .u64 c.sl) ∧ W.cell? ⟨g3, 13, none⟩ = some (.int .u64 c.pd) ∧ W.cell? ⟨g3, 14, none⟩ = some (.int .u64 c.ft) ∧ W.cell? ⟨g3, 15, none⟩ = some (.slice b.ta c.tn b.tc) ∧ W.cell? ⟨g3, 16, none⟩ = some (.slice b.pa c.pn b.pc))
      (first | exact X2.out.x3.sx | exact X1.out.x3.sx | exact HD.out.x3.sx)
      (first
        | (go_at_call 5; refine (C1.out _ _ X1.out.ib).mono ?_; rintro e w4 ⟨v5, rfl, h5, k5⟩; have X2 : Hid (Pk w w4 g1 g3 a b c) := X1.out.below k5)
        | (go_at_call 5; refine (C1.out _ _ HD.out.ib).mono ?_; rintro e w3 ⟨v4, rfl, h4, k4⟩; have X1 : Hid (Pk w w3 g1 g3 a b c) := HD.out.below k4))
    all_goals
      obtain ⟨a4, n4, rfl, f4, e4⟩ := h4.fw
      obtain ⟨a5, n5, rfl, f5, e5⟩ := h5.fw
      go_wp2_with fail
      go_meet
      case rel => exact ⟨a4, a5, n4, n5, w3, rfl, rfl, (below_drew _ _).trans k4, k5, e4, f4, f5, e5⟩
  case rest =>
  obtain ⟨a4, a5, n4, n5, wy, rfl, rfl, ky, kx, hw4, ha4, hf5, hw5⟩ := hcut
  have HP : Hid (∀ w', Below wb.heap.size wb w' → Pk w w' g1 g3 a b c) := fun w' h => HP0.out.below h
  have hk := ky.trans (kx.mono ky.size)
  clear HD HP0
  have hld := (HP.out _ hk).x1.ld
  go_wp2_with (refine wpList_load_at rfl 28 (.tmp 1) rfl _ _ rfl hld ?_)
  refine (C2.out _ (HP.out _ hk).ia).mono ?_
  rintro _ w5 ⟨v6, rfl, h6, k6⟩
  obtain ⟨a6, n6, rfl, f6, e6⟩ := h6.fw
  have HQ0 : Hid (Lp wb w5 a4 a5 a6 (chk c)) := Lp.of ky kx k6 hw4 hf5 hw5 f6 e6
  have H4 : Hid (Fa w5 a4 (chk c)) := (ha4.below kx).below k6
  clear h6 k6 f6 e6 hw4 ha4 hf5 hw5 hk kx ky hld C2
  go_wp2_with fail
  refine (C5.out _ _ _ _ _ H4.out HQ0.out.f6).mono ?_
  rintro _ w6 ⟨rfl, k6⟩
  have HQ1 : Hid (Lp wb w6 a4 a5 a6 (chk c)) := HQ0.out.below k6
  clear HQ0 H4 k6
  have hld := (HP.out _ HQ1.out.be).x3.ld
  go_wp2_with (refine wpList_load_wanted rfl 28 (.tmp 3) rfl _ _ rfl hld ?_)
  refine (C3.out _ _ (HP.out _ HQ1.out.be).ib).mono ?_
  rintro _ w7 ⟨rfl, k7⟩
  have HQ2 : Hid (Lp wb w7 a4 a5 a6 (chk c)) := HQ1.out.below k7
  clear HQ1 k7 hld C3
  have hmm : may c = (((chk c).length : Int) == 0) := by
    rw [HM.out, Bool.eq_iff_iff]; simp
  rw [hmm]
  have hld := (HP.out _ HQ2.out.be).x3.ld
  have hld1 := (HP.out _ HQ2.out.be).x1.ld
  go_wp2_with (first | refine wpList_load_wanted rfl 28 (.tmp 3) rfl _ _ rfl hld ?_ | refine wpList_load_wanted rfl 28 (.tmp 1) rfl _ _ rfl hld1 ?_)
  refine (C4.out _ _ (HP.out _ HQ2.out.be).ib (HP.out _ HQ2.out.be).ia).mono ?_
  rintro _ w8 ⟨rfl, k8⟩
  have HQ3 : Hid (Lp wb w8 a4 a5 a6 (chk c)) := HQ2.out.below k8
  clear HQ2 k8 hld hld1 C4 hmm HM
  go_wp2
  go_loopw [7] (fun i wr => ∃ k : Nat, k ≤ (chk c).length ∧ i = .int .i64 k ∧ Lp wb wr a4 a5 a6 (chk c)) (fun i _ => (chk c).length - (intOf i).toNat)
  case atStart => exact ⟨0, by omega, rfl, HQ3.out⟩
  case round =>
    clear HQ3
    obtain ⟨k, hk, rfl, hS⟩ := hrel
    have HS : Hid (Lp wb wr a4 a5 a6 (chk c)) := hS
    clear hS
    by_cases hlt : k < (chk c).length
    · rcases HS.out.r4 with h0 | ⟨g, cur, rfl, h1, h2, h3, _⟩
      · omega
      have hkn : (k : Int) < ((chk c).length : Int) := by omega
      have hk0 : (0 : Int) ≤ (k : Int) := by omega
      obtain ⟨v0, d1⟩ : ∃ v0, wr.cell? ⟨g, k * 2 + 1, none⟩ = some v0 := ⟨cur[k * 2 + 1], by rw [h2.cell, List.getElem?_eq_getElem (by omega)]⟩
      have f1 := h2.frozen (k * 2 + 1)
      have HN : Hid (Lp wb (wr.setCell ⟨g, k * 2 + 1, none⟩ (.int .i64 (-9))) (some ⟨g, 0, none⟩) a5 a6 (chk c)) := HS.out.set (by omega) _ _
      clear h1 h2 h3 HS
      go_wp2
      go_roundw
      case rel => first | exact ⟨k + 1, by omega, by go_num, HN.out⟩ | ((repeat apply Exists.intro); exact ⟨⟨k + 1, by omega, by go_num, HN.out⟩, rfl⟩)
      case measure => simp [intOf]; omega
    · obtain rfl : k = (chk c).length := by omega
      go_wp2_with fail
      refine (C5.out _ _ _ _ _ HS.out.f5 HS.out.f6).mono ?_
      rintro _ w9 ⟨rfl, k9⟩
      have HQ4 : Hid (Lp wb w9 a4 a5 a6 (chk c)) := HS.out.below k9
      clear HS k9
      have hld := (HP.out _ HQ4.out.be).x3.ld
      go_wp2_with (refine wpList_load_wanted rfl 28 (.tmp 3) rfl _ _ rfl hld ?_)
      refine (C1.out _ _ (HP.out _ HQ4.out.be).ib).mono ?_
      rintro _ wz ⟨v7, rfl, h7, k7⟩
      obtain ⟨a7, n7, rfl, f7, e7⟩ := h7.fw
      have HQ5 : Hid (Lp wb wz a4 a5 a6 (chk c)) := HQ4.out.below k7
      clear HQ4 k7 h7 e7 hld C1
      go_wp2_with fail
      refine (C5.out _ _ _ _ _ f7 HQ5.out.f6).mono ?_
      rintro _ wt ⟨rfl, k8⟩
      have FIN : Hid (Below w.heap.size w wt) := (HP.out _ (HQ5.out.below k8).be).be
      clear HQ5 k8 HP C5 f7
      go_wp2_with fail
      refine (awake_any _).mono ?_
      rintro _ wu ⟨rfl, k9⟩
      go_wp2
      go_ret
      exact ⟨rfl, FIN.out.trans (k9.mono FIN.out.size)⟩
end Go.Proofs.YtcmgjinjfaialaaGreat
