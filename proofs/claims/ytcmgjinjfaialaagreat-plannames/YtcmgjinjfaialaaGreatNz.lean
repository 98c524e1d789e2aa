/- The closed statement PlanNames: the chapter's numbers and its examples: the law returns true. No input, no condition. -/
import Derived.Test.YtcmgjinjfaialaaGreatTn
import Derived.Test.YtcmgjinjfaialaaGreatPz
import Derived.Test.YtcmgjinjfaialaaGreatTz
namespace Go.Proofs.YtcmgjinjfaialaaGreat
open Go.ChangeShapes Go.WideShapes Go.ChangeAt Go.RowKit
set_option linter.unusedVariables false

theorem turned_all (i : Nat) (hi : i < 15) (w : World) : Calls Tryz.prog 4 #[.int .i64 i] w (Trn i w) := by
  rcases (by omega : i = 0 ∨ i = 1 ∨ i = 2 ∨ i = 3 ∨ i = 4 ∨ i = 5 ∨ i = 6 ∨ i = 7 ∨ i = 8 ∨ i = 9 ∨ i = 10 ∨ i = 11 ∨ i = 12 ∨ i = 13 ∨ i = 14) with rfl | rfl | rfl | rfl | rfl | rfl | rfl | rfl | rfl | rfl | rfl | rfl | rfl | rfl | rfl
  · exact turned_0 w
  · exact turned_1 w
  · exact turned_2 w
  · exact turned_3 w
  · exact turned_4 w
  · exact turned_5 w
  · exact turned_6 w
  · exact turned_7 w
  · exact turned_8 w
  · exact turned_9 w
  · exact turned_10 w
  · exact turned_11 w
  · exact turned_12 w
  · exact turned_13 w
  · exact turned_14 w
/-- The first fault of a list of faults. -/
theorem Fs.head {w : World} {base : Nat} {v : Value} {L : List (Int × Int)} {t : Int} (h : Fs w base v L) (hL : L.head?.map (·.2) = some t) : ∃ g cap, v = .slice (some ⟨g, 0, none⟩) L.length cap ∧ 0 < L.length ∧ g < w.heap.size ∧ w.cell? ⟨g, 1, none⟩ = some (.int .i64 t) := by
  obtain ⟨ao, cap, rfl, hF, hw⟩ := h.fw
  cases L with
  | nil => cases hL
  | cons x tl =>
    simp only [List.head?_cons, Option.map_some, Option.some.injEq] at hL
    rcases hF with h0 | ⟨g, rfl, hg, hr⟩
    · cases h0
    · have := (hr 0 (by simp)).2
      refine ⟨g, cap, rfl, by simp, hg, ?_⟩
      simpa [← hL] using this
/-- Where PlanNames stands: the list of places. -/
structure Na (w0 w : World) (g : Nat) : Prop where
  be : Below w0.heap.size w0 w
  r : ∀ i, i < 15 → w.cell? ⟨g, i, none⟩ = some (.int .i64 (at' i))
  lt : g < w.heap.size
theorem Na.below {w0 w w' : World} {g : Nat} (h : Na w0 w g) (k : Below w.heap.size w w') : Na w0 w' g := ⟨h.be.trans (k.mono h.be.size), fun i hi => (k.cell h.lt).trans (h.r i hi), Nat.lt_of_lt_of_le h.lt k.size⟩
theorem na_new (w : World) : Na w (w.alloc (.cells #[.int .i64 0, .int .i64 0, .int .i64 2, .int .i64 3, .int .i64 3, .int .i64 3, .int .i64 5, .int .i64 5, .int .i64 4, .int .i64 4, .int .i64 5, .int .i64 2, .int .i64 0, .int .i64 0, .int .i64 0] 3)) w.heap.size := by
  refine ⟨below_new _ _, fun i hi => ?_, by simp⟩
  rw [(blk_new w [.int .i64 0, .int .i64 0, .int .i64 2, .int .i64 3, .int .i64 3, .int .i64 3, .int .i64 5, .int .i64 5, .int .i64 4, .int .i64 4, .int .i64 5, .int .i64 2, .int .i64 0, .int .i64 0, .int .i64 0] 3).cell i]
  rcases (by omega : i = 0 ∨ i = 1 ∨ i = 2 ∨ i = 3 ∨ i = 4 ∨ i = 5 ∨ i = 6 ∨ i = 7 ∨ i = 8 ∨ i = 9 ∨ i = 10 ∨ i = 11 ∨ i = 12 ∨ i = 13 ∨ i = 14) with rfl | rfl | rfl | rfl | rfl | rfl | rfl | rfl | rfl | rfl | rfl | rfl | rfl | rfl | rfl <;> rfl
/-- The same in a round: the configuration in its box, the first fault. -/
structure Nd (w0 w : World) (g g3 g4 : Nat) (a : Ad) (c : Cf) (t : Int) : Prop where
  na : Na w0 w g
  bx : Sev w g3 a c
  ci : Cin w a c
  l4 : g4 < w.heap.size
  c4 : w.cell? ⟨g4, 1, none⟩ = some (.int .i64 t)
theorem Nd.below {w0 w w' : World} {g g3 g4 : Nat} {a : Ad} {c : Cf} {t : Int} (h : Nd w0 w g g3 g4 a c t) (k : Below w.heap.size w w') : Nd w0 w' g g3 g4 a c t := ⟨h.na.below k, h.bx.below k, h.ci.below k, Nat.lt_of_lt_of_le h.l4 k.size, (k.cell h.l4).trans h.c4⟩
theorem us_cin {w : World} {n1 n2 n3 n4 : Nat} {a : Ad} {c : Cf} (hc : c = us) (ha : a = Ud n1 n2 n3 n4) (h : Ublk w n1 n2 n3 n4) : Cin w a c := by
  subst hc ha
  exact h.cin
set_option maxRecDepth 100000 in
set_option maxHeartbeats 8000000 in
theorem PlanNames_any (w : World) : Calls Tryz.prog 3 #[] w (One (.bool true) w) := by
  have TR : Hid (∀ (i : Nat), i < 15 → ∀ w, Calls Tryz.prog 4 #[.int .i64 i] w (Trn i w)) := turned_all
  have PK : Hid (∀ w' a c, Cin w' a c → Calls Tryz.prog 6 #[.agg #[.int .i64 c.F, .int .i64 c.C, .int .i64 c.W, .int .i64 c.S, .int .i64 c.V, .int .i64 c.T, .int .u64 c.k.l1, .int .u64 c.k.llc, .int .u64 c.k.mi, .int .u64 c.k.fa, .int .u64 c.k.st, .int .u64 c.k.di, .int .u64 c.sl, .int .u64 c.pd, .int .u64 c.ft, .slice a.ta c.tn a.tc, .slice a.pa c.pn a.pc]] w' (One (.bool true) w')) := fun _ _ _ h => PlanChecks_any h
  have PT : Hid (∀ w' a c p x, Cin w' a c → Calls Tryz.prog 7 #[.agg #[.int .i64 c.F, .int .i64 c.C, .int .i64 c.W, .int .i64 c.S, .int .i64 c.V, .int .i64 c.T, .int .u64 c.k.l1, .int .u64 c.k.llc, .int .u64 c.k.mi, .int .u64 c.k.fa, .int .u64 c.k.st, .int .u64 c.k.di, .int .u64 c.sl, .int .u64 c.pd, .int .u64 c.ft, .slice a.ta c.tn a.tc, .slice a.pa c.pn a.pc], .int .i64 p, .int .i64 x] w' (One (.bool true) w')) := fun _ _ _ p x h => PlanTells_any h p x
  have PP : Hid (∀ w' a c, Cin w' a c → Calls Tryz.prog 10 #[.agg #[.int .i64 c.F, .int .i64 c.C, .int .i64 c.W, .int .i64 c.S, .int .i64 c.V, .int .i64 c.T, .int .u64 c.k.l1, .int .u64 c.k.llc, .int .u64 c.k.mi, .int .u64 c.k.fa, .int .u64 c.k.st, .int .u64 c.k.di, .int .u64 c.sl, .int .u64 c.pd, .int .u64 c.ft, .slice a.ta c.tn a.tc, .slice a.pa c.pn a.pc]] w' (One (.bool true) w')) := fun _ _ _ h => PlanParts_any h
  have U : Hid (∀ w, Calls Tryz.prog 9 #[] w (Usd w)) := fun w => usual_any w
  have HN0 : Hid (Na w (w.alloc (.cells #[.int .i64 0, .int .i64 0, .int .i64 2, .int .i64 3, .int .i64 3, .int .i64 3, .int .i64 5, .int .i64 5, .int .i64 4, .int .i64 4, .int .i64 5, .int .i64 2, .int .i64 0, .int .i64 0, .int .i64 0] 3)) w.heap.size) := na_new w
  go_enter Tryz.func3, Tryz.ntmps3
  go_upto_region 3 with fail
  obtain ⟨W, hW, HN⟩ : ∃ W, (w.alloc (.cells #[.int .i64 0, .int .i64 0, .int .i64 2, .int .i64 3, .int .i64 3, .int .i64 3, .int .i64 5, .int .i64 5, .int .i64 4, .int .i64 4, .int .i64 5, .int .i64 2, .int .i64 0, .int .i64 0, .int .i64 0] 3)) = W ∧ Hid (Na w W w.heap.size) := ⟨_, rfl, HN0⟩
  rw [hW]
  clear hW HN0
  generalize hg : w.heap.size = g at HN ⊢
  go_loopw [2] (fun v wr => ∃ i : Nat, i ≤ 15 ∧ v = .int .i64 i ∧ Na w wr g) (fun v _ => 15 - (intOf v).toNat)
  case atStart => exact ⟨0, by omega, rfl, HN.out⟩
  case round =>
    clear HN
    obtain ⟨i, hi, rfl, hN⟩ := hrel
    have HN : Hid (Na w wr g) := hN
    clear hN
    by_cases hlt : i < 15
    · have hI : (i : Int) < 15 := by omega
      have hI0 : (0 : Int) ≤ (i : Int) := by omega
      go_wp2_with fail
      refine (TR.out i hlt _).mono ?_
      rintro _ w2 ⟨a, c, rfl, hc, hC, k2⟩
      have st := stK w2 a c
      have HT : Hid ((chk c).head?.map (·.2) = some (at' i)) := by rw [hc]; exact tcf_first i hlt
      clear hc
      have HB0 : Hid (Na w (w2.alloc (.cells #[.int .i64 c.F, .int .i64 c.C, .int .i64 c.W, .int .i64 c.S, .int .i64 c.V, .int .i64 c.T, .int .u64 c.k.l1, .int .u64 c.k.llc, .int .u64 c.k.mi, .int .u64 c.k.fa, .int .u64 c.k.st, .int .u64 c.k.di, .int .u64 c.sl, .int .u64 c.pd, .int .u64 c.ft, .slice a.ta c.tn a.tc, .slice a.pa c.pn a.pc] 28)) g ∧ Sev (w2.alloc (.cells #[.int .i64 c.F, .int .i64 c.C, .int .i64 c.W, .int .i64 c.S, .int .i64 c.V, .int .i64 c.T, .int .u64 c.k.l1, .int .u64 c.k.llc, .int .u64 c.k.mi, .int .u64 c.k.fa, .int .u64 c.k.st, .int .u64 c.k.di, .int .u64 c.sl, .int .u64 c.pd, .int .u64 c.ft, .slice a.ta c.tn a.tc, .slice a.pa c.pn a.pc] 28)) w2.heap.size a c ∧ Cin (w2.alloc (.cells #[.int .i64 c.F, .int .i64 c.C, .int .i64 c.W, .int .i64 c.S, .int .i64 c.V, .int .i64 c.T, .int .u64 c.k.l1, .int .u64 c.k.llc, .int .u64 c.k.mi, .int .u64 c.k.fa, .int .u64 c.k.st, .int .u64 c.k.di, .int .u64 c.sl, .int .u64 c.pd, .int .u64 c.ft, .slice a.ta c.tn a.tc, .slice a.pa c.pn a.pc] 28)) a c) := ⟨(HN.out.below k2).below (below_new _ _), sev_new w2 a c, hC.below (below_new _ _)⟩
      clear hC k2 HN
      go_upto_region 6 with (refine wpList_store_at rfl 28 (.tmp 3) (.tmp 13) rfl _ _ rfl rfl st ?_)
      generalize w2.alloc (.cells #[.int .i64 c.F, .int .i64 c.C, .int .i64 c.W, .int .i64 c.S, .int .i64 c.V, .int .i64 c.T, .int .u64 c.k.l1, .int .u64 c.k.llc, .int .u64 c.k.mi, .int .u64 c.k.fa, .int .u64 c.k.st, .int .u64 c.k.di, .int .u64 c.sl, .int .u64 c.pd, .int .u64 c.ft, .slice a.ta c.tn a.tc, .slice a.pa c.pn a.pc] 28) = w3 at *
      generalize w2.heap.size = g3 at *
      clear st
      have hld := HB0.out.2.1.ld
      go_wp2_with (refine wpList_load_at rfl 28 (.tmp 3) rfl _ _ rfl hld ?_)
      refine (Check_all HB0.out.2.2).mono ?_
      rintro _ w4 ⟨v, rfl, hF, k4⟩
      obtain ⟨g4, cap, rfl, hL0, hg4, hc4⟩ := hF.head HT.out
      have hL := chk_len c
      have HB : Hid (Nd w w4 g g3 g4 a c (at' i)) := ⟨HB0.out.1.below k4, HB0.out.2.1.below k4, HB0.out.2.2.below k4, hg4, hc4⟩
      clear HB0 hld hF k4 hg4 hc4 HT
      generalize hT : at' i = t at *
      generalize (chk c).length = n at *
      have hd0 : decide ((n : Int) = 0) = false := by simp; omega
      have hd0' : ((n : Int) == 0) = false := by simp; omega
      have hd2 : (t != t) = false := by simp
      have hd1 : (0 : Int) < (n : Int) := by omega
      have hlq : ∀ m : Idx (fun W => Nd w W g g3 g4 a c t), (Instr.loadAt 28 (.pointer (some ⟨g3, 0, none⟩))).run Tryz.prog m.W = .ok (.agg #[.int .i64 c.F, .int .i64 c.C, .int .i64 c.W, .int .i64 c.S, .int .i64 c.V, .int .i64 c.T, .int .u64 c.k.l1, .int .u64 c.k.llc, .int .u64 c.k.mi, .int .u64 c.k.fa, .int .u64 c.k.st, .int .u64 c.k.di, .int .u64 c.sl, .int .u64 c.pd, .int .u64 c.ft, .slice a.ta c.tn a.tc, .slice a.pa c.pn a.pc]) m.W := fun m => m.h.bx.ld
      have hF4 : ∀ m : Idx (fun W => Nd w W g g3 g4 a c t), m.W.cell? ⟨g4, 1, none⟩ = some (.int .i64 t) := fun m => m.h.c4
      have hFi : ∀ m : Idx (fun W => Nd w W g g3 g4 a c t), m.W.cell? ⟨g, i, none⟩ = some (.int .i64 t) := fun m => by have := m.h.na.r i hlt; rwa [hT] at this
      have PKi : Hid (∀ m : Idx (fun W => Nd w W g g3 g4 a c t), Calls Tryz.prog 6 #[.agg #[.int .i64 c.F, .int .i64 c.C, .int .i64 c.W, .int .i64 c.S, .int .i64 c.V, .int .i64 c.T, .int .u64 c.k.l1, .int .u64 c.k.llc, .int .u64 c.k.mi, .int .u64 c.k.fa, .int .u64 c.k.st, .int .u64 c.k.di, .int .u64 c.sl, .int .u64 c.pd, .int .u64 c.ft, .slice a.ta c.tn a.tc, .slice a.pa c.pn a.pc]] m.W (One (.bool true) m.W)) := fun m => PK.out _ _ _ m.h.ci
      have PTi : Hid (∀ m : Idx (fun W => Nd w W g g3 g4 a c t), Calls Tryz.prog 7 #[.agg #[.int .i64 c.F, .int .i64 c.C, .int .i64 c.W, .int .i64 c.S, .int .i64 c.V, .int .i64 c.T, .int .u64 c.k.l1, .int .u64 c.k.llc, .int .u64 c.k.mi, .int .u64 c.k.fa, .int .u64 c.k.st, .int .u64 c.k.di, .int .u64 c.sl, .int .u64 c.pd, .int .u64 c.ft, .slice a.ta c.tn a.tc, .slice a.pa c.pn a.pc], .int .i64 0, .int .i64 0] m.W (One (.bool true) m.W)) := fun m => PT.out _ _ _ 0 0 m.h.ci
      have hne : Nonempty (Idx (fun W => Nd w W g g3 g4 a c t)) := ⟨⟨w4, HB.out⟩⟩
      clear hT
      go_upto_region 7 with fail
      refine wp_region_cls (fun W => Nd w W g g3 g4 a c t) (by kernel_rfl) (by kernel_rfl) (HB.out.below (below_drew _ _)) ?_
      repeat (first | (go_big_quiet_want; refine quiet_load_at 28 (.tmp 3) rfl _ _ rfl hlq ?_; simp only [Act.put, List.setIfInBounds_toArray, List.set_cons_zero, List.set_cons_succ]; go_big_quiet_on) | (go_big_quiet_step (first | (go_at_call 6; exact Calls.cls (PKi.out _) (fun _ _ h k => h.below k)) | (go_at_call 7; exact Calls.cls (PTi.out _) (fun _ _ h k => h.below k)))))
      refine wpQuiet_nil ?_
      rintro w5 ⟨⟨_, hS5⟩, rfl⟩
      have H5 : Hid (Nd w w5 g g3 g4 a c t) := hS5
      clear hS5 hlq hF4 hFi PKi PTi hne HB
      go_wp2
      go_roundw
      case rel => exact ⟨i + 1, by omega, by go_num, H5.out.na⟩
      case measure => simp [intOf]; omega
    · obtain rfl : i = 15 := by omega
      go_wp2_with fail
      refine (awake_any _).mono ?_
      rintro _ y1 ⟨rfl, k1⟩
      have H1 : Hid (Na w y1 g) := HN.out.below k1
      clear HN k1
      go_wp2_with fail
      refine (U.out _).mono ?_
      rintro _ y2 ⟨n1, n2, n3, n4, b, c, rfl, hc, hb, hU, ho, k2⟩
      have hC := us_cin hc hb hU
      have H2 : Hid (Na w y2 g) := H1.out.below k2
      clear hc hb hU ho k2 H1
      go_wp2_with fail
      refine (PT.out _ _ _ _ _ hC).mono ?_
      rintro _ y3 ⟨rfl, k3⟩
      have H3 : Hid (Na w y3 g) := H2.out.below k3
      clear hC k3 H2
      go_wp2_with fail
      refine (U.out _).mono ?_
      rintro _ y4 ⟨n1', n2', n3', n4', b', c', rfl, hc, hb, hU, ho, k2⟩
      have hC := us_cin hc hb hU
      have H4 : Hid (Na w y4 g) := H3.out.below k2
      clear hc hb hU ho k2 H3
      go_wp2_with fail
      refine (PT.out _ _ _ _ _ hC).mono ?_
      rintro _ y5 ⟨rfl, k3⟩
      have H5 : Hid (Na w y5 g) := H4.out.below k3
      clear hC k3 H4
      go_wp2_with fail
      refine (U.out _).mono ?_
      rintro _ y6 ⟨m1, m2, m3, m4, b2, c2, rfl, hc, hb, hU, ho, k2⟩
      have hC := us_cin hc hb hU
      have H6 : Hid (Na w y6 g) := H5.out.below k2
      clear hc hb hU ho k2 H5
      go_wp2_with fail
      refine (PT.out _ _ _ _ _ hC).mono ?_
      rintro _ y7 ⟨rfl, k3⟩
      have H7 : Hid (Na w y7 g) := H6.out.below k3
      clear hC k3 H6
      go_wp2_with fail
      refine (U.out _).mono ?_
      rintro _ y8 ⟨m1', m2', m3', m4', b3, c3, rfl, hc, hb, hU, ho, k2⟩
      have hC := us_cin hc hb hU
      have H8 : Hid (Na w y8 g) := H7.out.below k2
      clear hc hb hU ho k2 H7
      go_wp2_with fail
      refine (PP.out _ _ _ hC).mono ?_
      rintro _ y9 ⟨rfl, k3⟩
      have H9 : Hid (Na w y9 g) := H8.out.below k3
      clear hC k3 H8
      go_wp2
      go_ret
      exact ⟨rfl, H9.out.be⟩
set_option maxRecDepth 100000 in
theorem liftedNames (os : Os) (started : os.Started) (H : Type) (enc : TypeId × Value → H) :
    ReturnsInHanded {} Tryz.checked os 3 .any (Rows.planNamesSpec.pre6 enc Tryz.prog Tryz.f3 Rows.planNamesRow.domain false) (Rows.planNamesSpec.post enc Tryz.prog Tryz.f3 false true false false) := by
  refine returnsInHanded_of_change (C := Tryz.checked) own started (by kernel_rfl) Tryz.func3
    (ChangeSpec.witness6 (enc := enc) (C := Tryz.checked) false ⟨#[], #[], []⟩ 8 (by kernel_rfl) (by kernel_rfl) (by kernel_rfl) (by kernel_rfl)) ?_
  intro W base args ds gs before hval0 hW hcnd _
  have hW' := hW
  obtain ⟨p, q, hA0, hV, rfl, hfz, hnd⟩ := hW
  have hA : DataW.TrodAll enc Tryz.prog W 0 (fun _ => true) true Tryz.f3.params.toList args.toList ds p := hA0
  rw [Tryz.params3] at hA
  obtain ⟨hargs, rfl, rfl⟩ := trodAll_nil hA
  obtain rfl : args = #[] := by cases args; simp_all
  obtain ⟨rfl, rfl⟩ := trodVars_none hV
  clear hA0 hval0
  refine (PlanNames_any W).mono fun e W' ⟨he, bel⟩ => ?_
  subst he
  exact ⟨_, rfl, _, _, _, [], [], [], hW', trodAll_mk1 (shut_bool Tryz.underlying4 _), trodAll_mk0, rfl, bel.frame _, fun h => by cases h⟩

/-- The statement. -/
theorem planNames_holds : Rows.PlanNamesSaid :=
  OpenClaim.holds_of_wide 3 Tryz.f3 rfl rfl rfl rfl rfl rfl rfl ⟨rfl, rfl, rfl, rfl, rfl⟩ rfl rfl rfl rfl rfl (by kernel_rfl) Tryz.func3 (by kernel_rfl)
    (of_decide_eq_true (by kernel_rfl)) (by unfold Func.isWrapper; first | (rw [if_pos (by decide +kernel)]; kernel_rfl) | (rw [if_neg (by decide +kernel)]; exact ⟨rfl, rfl⟩))
    (fun os started H enc _ => liftedNames os started H enc)
end Go.Proofs.YtcmgjinjfaialaaGreat
