/- What the document's answer says is wrong with a configuration; no condition but that a configuration lies in memory. -/
import Derived.Test.YtifchflbhdnfaaaGreatVRx
import Derived.Test.YtifchflbhdnfaaaGreatVQb
namespace Go.Proofs.YtifchflbhdnfaaaGreat
open Go.ChangeShapes Go.WideShapes Go.ChangeAt Go.RowKit
set_option linter.unusedVariables false

/-- The document's Check: a configuration's box and a row of faults, beside what was there. -/
structure Sr (w0 w : World) (a : Ad) (c : Cf) (v : Value) (L : List (Int × Int)) : Prop where
  be : Below w0.heap.size w0 w
  bx : Sev w w0.heap.size a c
  ci0 : Cin w0 a c
  fs : Fs w (w0.heap.size + 1) v L
theorem Sr.ci {w0 w : World} {a : Ad} {c : Cf} {v : Value} {L : List (Int × Int)} (h : Sr w0 w a c v L) : Cin w a c := h.ci0.below h.be
theorem Sr.below {w0 w w' : World} {a : Ad} {c : Cf} {v : Value} {L : List (Int × Int)} (h : Sr w0 w a c v L) (k : Below w.heap.size w w') : Sr w0 w' a c v L :=
  ⟨h.be.trans (k.mono h.be.size), h.bx.below k, h.ci0, owns_of_eq h.fs fun t ht => k.block t (h.fs.lt t ht).2⟩
theorem Sr.more {w0 w w' : World} {a : Ad} {c : Cf} {v : Value} {L L' : List (Int × Int)} {g k : Nat} {o : Obj} (h : Sr w0 w a c v L) (gr : (w.alloc o).grownBy w' v.ownBlock) (f : Fs w' (w0.heap.size + 1) (.slice (some ⟨g, 0, none⟩) (L.length + 1) k) L') :
    Sr w0 w' a c (.slice (some ⟨g, 0, none⟩) (L.length + 1) k) L' := by
  have hs := gr.size
  have hz : (w.alloc o).heap.size = w.heap.size + 1 := by simp
  have hb : ∀ i, i < w.heap.size → some i ≠ v.ownBlock → w'.heap[i]? = w.heap[i]? := fun i hi hne => (gr.block i (by omega) hne).trans ((below_new w o).block i hi)
  refine ⟨h.be.trans ⟨gr.os, gr.tape, gr.output, by omega, fun i hi => hb i (Nat.lt_of_lt_of_le hi h.be.size) (fun e => by have := (h.fs.lt i e.symm).1; omega)⟩, ?_, h.ci0, f⟩
  exact h.bx.of_eq (hb _ h.bx.lt (fun e => by have := (h.fs.lt _ e.symm).1; omega)) (by have := h.bx.lt; omega)
theorem enF_one (L : List (Int × Int)) (e t : Int) : enF (L ++ [(e, t)]) = enF L ++ [.int .i64 e, .int .i64 t] := by rw [enF_append]; rfl
theorem Fs.one {w : World} {base : Nat} {L : List (Int × Int)} {g k : Nat} {e t : Int} (h : w.ownsRow base 116 2 (.slice (some ⟨g, 0, none⟩) (L.length + 1) k) (L.length + 1) (enF L ++ [.int .i64 e, .int .i64 t])) : Fs w base (.slice (some ⟨g, 0, none⟩) (L.length + 1) k) (L ++ [(e, t)]) := by
  unfold Fs
  rw [enF_one, List.length_append]
  exact h
set_option maxRecDepth 20000 in
set_option maxHeartbeats 4000000 in
theorem rCheck_all {w : World} {a : Ad} {c : Cf} (hc : Cin w a c) : Calls Tryz.prog 97 #[.agg #[.int .i64 c.F, .int .i64 c.C, .int .i64 c.W, .int .i64 c.S, .int .i64 c.V, .int .i64 c.T, .int .u64 c.k.l1, .int .u64 c.k.llc, .int .u64 c.k.mi, .int .u64 c.k.fa, .int .u64 c.k.st, .int .u64 c.k.di, .int .u64 c.sl, .int .u64 c.pd, .int .u64 c.ft, .slice a.ta c.tn a.tc, .slice a.pa c.pn a.pc]] w (Chk c w) := by
  have HB0 := cb_new hc
  have hpl := hc.pl
  obtain ⟨i0, hi0, hz0, hz1, hz2⟩ := info_parts Tryz.infoF
  have MC : Hid (∀ w', Cin w' a c → Calls Tryz.prog 120 #[.agg #[.int .i64 c.F, .int .i64 c.C, .int .i64 c.W, .int .i64 c.S, .int .i64 c.V, .int .i64 c.T, .int .u64 c.k.l1, .int .u64 c.k.llc, .int .u64 c.k.mi, .int .u64 c.k.fa, .int .u64 c.k.st, .int .u64 c.k.di, .int .u64 c.sl, .int .u64 c.pd, .int .u64 c.ft, .slice a.ta c.tn a.tc, .slice a.pa c.pn a.pc]] w' (One (.bool (!mOk c)) w')) := fun w' h => machine_any h
  have CK : Hid (∀ w', Calls Tryz.prog 121 #[.agg #[.int .u64 c.k.l1, .int .u64 c.k.llc, .int .u64 c.k.mi, .int .u64 c.k.fa, .int .u64 c.k.st, .int .u64 c.k.di]] w' (One (.int .i64 (er c.k)) w')) := fun w' => rCheck_any c.k w'
  have SL : Hid (∀ w', Cin w' a c → Calls Tryz.prog 122 #[.agg #[.int .i64 c.F, .int .i64 c.C, .int .i64 c.W, .int .i64 c.S, .int .i64 c.V, .int .i64 c.T, .int .u64 c.k.l1, .int .u64 c.k.llc, .int .u64 c.k.mi, .int .u64 c.k.fa, .int .u64 c.k.st, .int .u64 c.k.di, .int .u64 c.sl, .int .u64 c.pd, .int .u64 c.ft, .slice a.ta c.tn a.tc, .slice a.pa c.pn a.pc]] w' (One (.bool (!sOk c)) w')) := fun w' h => slices_any h
  have TU : Hid (∀ w', Cin w' a c → Calls Tryz.prog 123 #[.agg #[.int .i64 c.F, .int .i64 c.C, .int .i64 c.W, .int .i64 c.S, .int .i64 c.V, .int .i64 c.T, .int .u64 c.k.l1, .int .u64 c.k.llc, .int .u64 c.k.mi, .int .u64 c.k.fa, .int .u64 c.k.st, .int .u64 c.k.di, .int .u64 c.sl, .int .u64 c.pd, .int .u64 c.ft, .slice a.ta c.tn a.tc, .slice a.pa c.pn a.pc]] w' (One (.bool (!tOk c)) w')) := fun w' h => turns_any h
  have PC : Hid (∀ p w', Cin w' a c → p < c.pn → p < 8 → Calls Tryz.prog 124 #[.agg #[.int .i64 c.F, .int .i64 c.C, .int .i64 c.W, .int .i64 c.S, .int .i64 c.V, .int .i64 c.T, .int .u64 c.k.l1, .int .u64 c.k.llc, .int .u64 c.k.mi, .int .u64 c.k.fa, .int .u64 c.k.st, .int .u64 c.k.di, .int .u64 c.sl, .int .u64 c.pd, .int .u64 c.ft, .slice a.ta c.tn a.tc, .slice a.pa c.pn a.pc], .int .i64 p] w' (One (.int .i64 (pBad c p)) w')) := fun p w' h hp h8 => part_any h p hp h8
  have HCH : Hid (chk c = fl (un (mOk c) 114) 0 ++ fl (er c.k) 1 ++ fl (un (sOk c) 113) 2 ++ fl (un (tOk c) 112) 3 ++ chkP c (min c.pn 8)) := rfl
  have HE1 : er c.k = un (okC c.k) 100 := by
    cases h : okC c.k
    · exact er_f h
    · exact er_t h
  have HCP : Hid (∀ k, chkP c (k + 1) = chkP c k ++ fl (pBad c k) (4 + k)) := fun k => rfl
  have HLn : Hid (∀ k, k ≤ 8 → (chkP c k).length ≤ 8) := fun k hk => by have := chkP_len c k; omega
  have HFN : Hid (∀ e t : Int, e ≠ 0 → fl e t = [(e, t)]) := fun e t he => by unfold fl; rw [if_neg he]
  rw [HE1] at HCH CK
  have hld := HB0.bx.ld
  clear HE1
  have HC0 : Hid (Cin w a c) := hc
  clear hc
  generalize mOk c = bm at *
  generalize okC c.k = bk at *
  generalize sOk c = bs at *
  generalize tOk c = bt at *
  go_enter Tryz.func97, Tryz.ntmps97
  go_upto_region 2 with fail
  obtain ⟨W, hW, H0⟩ : ∃ W, (w.alloc (.cells #[.int .i64 c.F, .int .i64 c.C, .int .i64 c.W, .int .i64 c.S, .int .i64 c.V, .int .i64 c.T, .int .u64 c.k.l1, .int .u64 c.k.llc, .int .u64 c.k.mi, .int .u64 c.k.fa, .int .u64 c.k.st, .int .u64 c.k.di, .int .u64 c.sl, .int .u64 c.pd, .int .u64 c.ft, .slice a.ta c.tn a.tc, .slice a.pa c.pn a.pc] 28)) = W ∧ Hid (Sr w W a c (.slice none 0 0) []) := ⟨_, rfl, ⟨HB0.be, HB0.bx, HC0.out, Fs.nil _ _⟩⟩
  rw [hW] at hld
  rw [hW]
  clear hW HB0
  go_wp2_with (refine wpList_load_at rfl 28 (.tmp 1) rfl _ _ rfl hld ?_)
  refine (MC.out _ H0.out.ci).mono ?_
  rintro _ w1 ⟨rfl, k1⟩
  have H1 : Hid (Sr w w1 a c (.slice none 0 0) []) := H0.out.below k1
  clear H0 k1 hld MC
  have hll0 : ([] : List (Int × Int)).length ≤ 0 := by simp
  go_upto_if 7 with fail
  go_cut [3] from 6 (fun t3 wx => Sr w wx a c t3 ([] ++ fl (un bm 114) 0))
  case first =>
    cases bm
    · go_wp2_with (at_builtin; refine wpList_append_lies _ rfl (.tmp 8) (.tmp 10) 89 rfl (w.heap.size + 1) 116 i0 _ 2 16 Tryz.underlying89 hi0 hz0 hz1 hz2 rfl (by decide) _ ([]).length (enF ([])) rfl (H1.out.fs.alloc _) ⟨w1.heap.size, 0, none⟩ 1 1 [.int .i64 114, .int .i64 0] rfl rfl (cell_two_new _ _ _ _) (by intro u hu; simp at hu; rcases hu with rfl | rfl <;> rfl) (by omega) (by unfold maxLen; omega) (by omega) (by have := H1.out.bx.lt; simp; omega) (w1.heap.size + 1) (by simp) ?_; intro g3 k3 w3 o3 gr3 at3 lt3)
      go_meet
      case rel =>
        show Sr w w3 a c _ ([] ++ [((114 : Int), (0 : Int))])
        exact H1.out.more gr3 (Fs.one o3)
    · go_wp2_with fail
      go_meet
      case rel => rw [show fl (un true 114) 0 = [] from rfl, List.append_nil]; exact H1.out
  case rest =>
  obtain ⟨l1, hl1, hll1⟩ : ∃ l, [] ++ fl (un bm 114) 0 = l ∧ l.length ≤ 1 := ⟨_, rfl, len_app _ _ 0 1 (by first | (simp; done) | assumption) (fl_len _ _)⟩
  have H1c : Hid (Sr w wc a c u3 l1) := by unfold Hid; rw [← hl1]; exact hcut
  have HL1 : Hid ([] ++ fl (un bm 114) 0 = l1) := hl1
  clear hcut hl1 H1
  obtain ⟨va, vn, vc, rfl⟩ := fs_shape H1c.out.fs
  obtain ⟨_, c0, c1, c2, c3, c4, c5, c6, c7, c8, c9, c10, c11, c12, c13, c14, c15, c16⟩ := H1c.out.bx
  clear c0 c1 c2 c3 c4 c5 c12 c13 c14 c15 c16
  go_wp2_with fail
  refine (CK.out _).mono ?_
  rintro _ w4 ⟨rfl, k4⟩
  have H2 : Hid (Sr w w4 a c (.slice va vn vc) l1) := H1c.out.below k4
  clear H1c k4 CK c6 c7 c8 c9 c10 c11
  go_upto_if 15 with fail
  go_cut [3] from 12 (fun t3 wx => Sr w wx a c t3 (l1 ++ fl (un bk 100) 1))
  case first =>
    cases bk
    · go_wp2_with (at_builtin; refine wpList_append_lies _ rfl (.tmp 16) (.tmp 18) 89 rfl (w.heap.size + 1) 116 i0 _ 2 16 Tryz.underlying89 hi0 hz0 hz1 hz2 rfl (by decide) _ (l1).length (enF (l1)) rfl (H2.out.fs.alloc _) ⟨w4.heap.size, 0, none⟩ 1 1 [.int .i64 100, .int .i64 1] rfl rfl (cell_two_new _ _ _ _) (by intro u hu; simp at hu; rcases hu with rfl | rfl <;> rfl) (by omega) (by unfold maxLen; omega) (by omega) (by have := H2.out.bx.lt; simp; omega) (w4.heap.size + 1) (by simp) ?_; intro g3 k3 w3 o3 gr3 at3 lt3)
      go_meet
      case rel =>
        show Sr w w3 a c _ (l1 ++ [((100 : Int), (1 : Int))])
        exact H2.out.more gr3 (Fs.one o3)
    · go_wp2_with fail
      go_meet
      case rel => rw [show fl (un true 100) 1 = [] from rfl, List.append_nil]; exact H2.out
  case rest =>
  obtain ⟨l2, hl2, hll2⟩ : ∃ l, l1 ++ fl (un bk 100) 1 = l ∧ l.length ≤ 2 := ⟨_, rfl, len_app _ _ 1 1 (by first | (simp; done) | assumption) (fl_len _ _)⟩
  have H2c : Hid (Sr w wc a c u3 l2) := by unfold Hid; rw [← hl2]; exact hcut
  have HL2 : Hid (l1 ++ fl (un bk 100) 1 = l2) := hl2
  clear hcut hl2 H2
  obtain ⟨va', vn', vc', rfl⟩ := fs_shape H2c.out.fs
  clear va vn vc
  have hld := H2c.out.bx.ld
  go_wp2_with (refine wpList_load_at rfl 28 (.tmp 1) rfl _ _ rfl hld ?_)
  refine (SL.out _ H2c.out.ci).mono ?_
  rintro _ w5 ⟨rfl, k5⟩
  have H3 : Hid (Sr w w5 a c (.slice va' vn' vc') l2) := H2c.out.below k5
  clear H2c k5 SL hld
  go_upto_if 21 with fail
  go_cut [3] from 20 (fun t3 wx => Sr w wx a c t3 (l2 ++ fl (un bs 113) 2))
  case first =>
    cases bs
    · go_wp2_with (at_builtin; refine wpList_append_lies _ rfl (.tmp 22) (.tmp 24) 89 rfl (w.heap.size + 1) 116 i0 _ 2 16 Tryz.underlying89 hi0 hz0 hz1 hz2 rfl (by decide) _ (l2).length (enF (l2)) rfl (H3.out.fs.alloc _) ⟨w5.heap.size, 0, none⟩ 1 1 [.int .i64 113, .int .i64 2] rfl rfl (cell_two_new _ _ _ _) (by intro u hu; simp at hu; rcases hu with rfl | rfl <;> rfl) (by omega) (by unfold maxLen; omega) (by omega) (by have := H3.out.bx.lt; simp; omega) (w5.heap.size + 1) (by simp) ?_; intro g3 k3 w3 o3 gr3 at3 lt3)
      go_meet
      case rel =>
        show Sr w w3 a c _ (l2 ++ [((113 : Int), (2 : Int))])
        exact H3.out.more gr3 (Fs.one o3)
    · go_wp2_with fail
      go_meet
      case rel => rw [show fl (un true 113) 2 = [] from rfl, List.append_nil]; exact H3.out
  case rest =>
  obtain ⟨l3, hl3, hll3⟩ : ∃ l, l2 ++ fl (un bs 113) 2 = l ∧ l.length ≤ 3 := ⟨_, rfl, len_app _ _ 2 1 (by first | (simp; done) | assumption) (fl_len _ _)⟩
  have H3c : Hid (Sr w wc a c u3 l3) := by unfold Hid; rw [← hl3]; exact hcut
  have HL3 : Hid (l2 ++ fl (un bs 113) 2 = l3) := hl3
  clear hcut hl3 H3
  clear va' vn' vc'
  obtain ⟨va, vn, vc, rfl⟩ := fs_shape H3c.out.fs
  have hld := H3c.out.bx.ld
  go_wp2_with (refine wpList_load_at rfl 28 (.tmp 1) rfl _ _ rfl hld ?_)
  refine (TU.out _ H3c.out.ci).mono ?_
  rintro _ w6 ⟨rfl, k6⟩
  have H4 : Hid (Sr w w6 a c (.slice va vn vc) l3) := H3c.out.below k6
  clear H3c k6 TU hld
  go_upto_if 27 with fail
  go_cut [3] from 26 (fun t3 wx => Sr w wx a c t3 (l3 ++ fl (un bt 112) 3))
  case first =>
    cases bt
    · go_wp2_with (at_builtin; refine wpList_append_lies _ rfl (.tmp 28) (.tmp 30) 89 rfl (w.heap.size + 1) 116 i0 _ 2 16 Tryz.underlying89 hi0 hz0 hz1 hz2 rfl (by decide) _ (l3).length (enF (l3)) rfl (H4.out.fs.alloc _) ⟨w6.heap.size, 0, none⟩ 1 1 [.int .i64 112, .int .i64 3] rfl rfl (cell_two_new _ _ _ _) (by intro u hu; simp at hu; rcases hu with rfl | rfl <;> rfl) (by omega) (by unfold maxLen; omega) (by omega) (by have := H4.out.bx.lt; simp; omega) (w6.heap.size + 1) (by simp) ?_; intro g3 k3 w3 o3 gr3 at3 lt3)
      go_meet
      case rel =>
        show Sr w w3 a c _ (l3 ++ [((112 : Int), (3 : Int))])
        exact H4.out.more gr3 (Fs.one o3)
    · go_wp2_with fail
      go_meet
      case rel => rw [show fl (un true 112) 3 = [] from rfl, List.append_nil]; exact H4.out
  case rest =>
  obtain ⟨l4, hl4, hll4⟩ : ∃ l, l3 ++ fl (un bt 112) 3 = l ∧ l.length ≤ 4 := ⟨_, rfl, len_app _ _ 3 1 (by first | (simp; done) | assumption) (fl_len _ _)⟩
  have H4c : Hid (Sr w wc a c u3 l4) := by unfold Hid; rw [← hl4]; exact hcut
  have HL4 : Hid (l3 ++ fl (un bt 112) 3 = l4) := hl4
  clear hcut hl4 H4
  have HCH2 : Hid (chk c = l4 ++ chkP c (min c.pn 8)) := by
    unfold Hid
    rw [HCH.out, ← HL4.out, ← HL3.out, ← HL2.out, ← HL1.out, List.nil_append]
  clear HCH HL1 HL2 HL3 HL4 va vn vc
  obtain ⟨va, vn, vc, rfl⟩ := fs_shape H4c.out.fs
  go_wp2_with fail
  go_loopw [3, 4, 5] (fun t3 i t5 wr => ∃ (k : Nat) (v u : Value), v = t3 ∧ u = t5 ∧ k ≤ min c.pn 8 ∧ i = .int .i64 k ∧ Sr w wr a c v (l4 ++ chkP c k)) (fun _ i _ _ => 8 - (intOf i).toNat)
  case atStart => exact ⟨0, _, _, rfl, rfl, by omega, rfl, by rw [show chkP c 0 = [] from rfl, List.append_nil]; exact H4c.out⟩
  case round =>
    clear H4c
    obtain ⟨k, v, u, hv, hu, hk, rfl, hS⟩ := hrel
    subst hv hu
    have HS : Hid (Sr w wr a c v (l4 ++ chkP c k)) := hS
    clear hS
    obtain ⟨va', vn', vc', rfl⟩ := fs_shape HS.out.fs
    have c16 := HS.out.bx.c16
    by_cases hlt : k < min c.pn 8
    · have hk8 : k < 8 := by omega
      have hkp : k < c.pn := by omega
      have hk8i : (k : Int) < 8 := by omega
      have hkpi : (k : Int) < (c.pn : Int) := by omega
      have hld := HS.out.bx.ld
      have PCk : Hid (∀ w', Cin w' a c → Calls Tryz.prog 124 #[.agg #[.int .i64 c.F, .int .i64 c.C, .int .i64 c.W, .int .i64 c.S, .int .i64 c.V, .int .i64 c.T, .int .u64 c.k.l1, .int .u64 c.k.llc, .int .u64 c.k.mi, .int .u64 c.k.fa, .int .u64 c.k.st, .int .u64 c.k.di, .int .u64 c.sl, .int .u64 c.pd, .int .u64 c.ft, .slice a.ta c.tn a.tc, .slice a.pa c.pn a.pc], .int .i64 k] w' (One (.int .i64 (pBad c k)) w')) := fun w' h => PC.out k w' h hkp hk8
      have HN : Hid (l4 ++ chkP c (k + 1) = (l4 ++ chkP c k) ++ fl (pBad c k) (4 + k)) := by unfold Hid; rw [HCP.out, List.append_assoc]
      have HLk := HLn.out k (by omega)
      obtain ⟨lk, hlk, hlkn⟩ : ∃ l, l4 ++ chkP c k = l ∧ l.length ≤ 12 := ⟨_, rfl, by rw [List.length_append]; omega⟩
      rw [hlk] at HN HS
      clear PC HLk hlk
      generalize pBad c k = pb at *
      go_wp2_with (refine wpList_load_at rfl 28 (.tmp 1) rfl _ _ rfl hld ?_)
      refine (PCk.out _ HS.out.ci).mono ?_
      rintro _ w7 ⟨rfl, k7⟩
      have H7 : Hid (Sr w w7 a c (.slice va' vn' vc') lk) := HS.out.below k7
      clear HS k7 hld PCk c16
      by_cases hpb : pb = 0
      · subst hpb
        rw [fl_zero, List.append_nil] at HN
        go_wp2
        go_roundw
        case rel => exact ⟨k + 1, _, _, rfl, rfl, by omega, by go_num, by rw [HN.out]; exact H7.out⟩
        case measure => simp [intOf]; omega
      · have hpb2 : (pb != 0) = true := by simp [hpb]
        rw [HFN.out _ _ hpb] at HN
        go_wp2_with (at_builtin; refine wpList_append_lies _ rfl (.tmp 48) (.tmp 53) 89 rfl (w.heap.size + 1) 116 i0 _ 2 16 Tryz.underlying89 hi0 hz0 hz1 hz2 rfl (by decide) _ (lk).length (enF (lk)) rfl (H7.out.fs.alloc _) ⟨w7.heap.size, 0, none⟩ 1 1 [.int .i64 pb, .int .i64 (4 + k)] rfl rfl (cell_two_new _ _ _ _) (by intro u hu; simp at hu; rcases hu with rfl | rfl <;> rfl) (by omega) (by unfold maxLen; omega) (by omega) (by have := H7.out.bx.lt; simp; omega) (w7.heap.size + 1) (by simp) ?_; intro g3 k3 w3 o3 gr3 at3 lt3)
        go_roundw
        case rel => exact ⟨k + 1, _, _, rfl, rfl, by omega, by go_num, by rw [HN.out]; exact H7.out.more gr3 (Fs.one o3)⟩
        case measure => simp [intOf]; omega
    · have hke : k = min c.pn 8 := by omega
      have FIN : Hid (Chk c w (.returned (.slice va' vn' vc')) wr) := ⟨_, rfl, by rw [HCH2.out, ← hke]; exact fs_less HS.out.fs (by omega), HS.out.be⟩
      by_cases hkp : k < c.pn
      · have h8 : k = 8 := by omega
        have hkpi : (k : Int) < (c.pn : Int) := by omega
        have hk8 : ¬ (k : Int) < 8 := by omega
        go_wp2
        go_ret
        exact FIN.out
      · have hkpi : ¬ (k : Int) < (c.pn : Int) := by omega
        go_wp2
        go_ret
        exact FIN.out
end Go.Proofs.YtifchflbhdnfaaaGreat
/- What the document's answer tells of partitions and colours; no condition but that a configuration lies in memory. -/
namespace Go.Proofs.YtifchflbhdnfaaaGreat
open Go.ChangeShapes Go.WideShapes Go.ChangeAt Go.RowKit
set_option linter.unusedVariables false

set_option maxRecDepth 20000 in
theorem rMay_all {w : World} {a : Ad} {c : Cf} (hc : Cin w a c) : Calls Tryz.prog 82 #[.agg #[.int .i64 c.F, .int .i64 c.C, .int .i64 c.W, .int .i64 c.S, .int .i64 c.V, .int .i64 c.T, .int .u64 c.k.l1, .int .u64 c.k.llc, .int .u64 c.k.mi, .int .u64 c.k.fa, .int .u64 c.k.st, .int .u64 c.k.di, .int .u64 c.sl, .int .u64 c.pd, .int .u64 c.ft, .slice a.ta c.tn a.tc, .slice a.pa c.pn a.pc]] w (One (.bool (may c)) w) := by
  have HB0 := cb_new hc
  have C1 : Hid (∀ w', Cin w' a c → Calls Tryz.prog 97 #[.agg #[.int .i64 c.F, .int .i64 c.C, .int .i64 c.W, .int .i64 c.S, .int .i64 c.V, .int .i64 c.T, .int .u64 c.k.l1, .int .u64 c.k.llc, .int .u64 c.k.mi, .int .u64 c.k.fa, .int .u64 c.k.st, .int .u64 c.k.di, .int .u64 c.sl, .int .u64 c.pd, .int .u64 c.ft, .slice a.ta c.tn a.tc, .slice a.pa c.pn a.pc]] w' (Chk c w')) := fun w' h => rCheck_all h
  have HM : Hid (may c = ((chk c).length == 0)) := may_len c
  have hL := chk_len c
  have hld := HB0.bx.ld
  clear hc
  go_enter Tryz.func82, Tryz.ntmps82
  go_upto_region 1 with fail
  obtain ⟨W, hW, HB⟩ : ∃ W, (w.alloc (.cells #[.int .i64 c.F, .int .i64 c.C, .int .i64 c.W, .int .i64 c.S, .int .i64 c.V, .int .i64 c.T, .int .u64 c.k.l1, .int .u64 c.k.llc, .int .u64 c.k.mi, .int .u64 c.k.fa, .int .u64 c.k.st, .int .u64 c.k.di, .int .u64 c.sl, .int .u64 c.pd, .int .u64 c.ft, .slice a.ta c.tn a.tc, .slice a.pa c.pn a.pc] 28)) = W ∧ Hid (Cb w W w.heap.size a c) := ⟨_, rfl, HB0⟩
  rw [hW] at hld
  rw [hW]
  clear hW HB0
  go_wp2_with (refine wpList_load_at rfl 28 (.tmp 1) rfl _ _ rfl hld ?_)
  refine (C1.out _ HB.out.ci).mono ?_
  rintro _ w1 ⟨v, rfl, hf, k1⟩
  obtain ⟨va, vc, rfl⟩ := hf.len
  have FIN : Hid (Below w.heap.size w w1) := HB.out.be.trans (k1.mono HB.out.be.size)
  clear hf k1 HB C1 hld
  generalize (chk c).length = n at *
  go_wp2
  go_ret
  exact ⟨ret_bool (by rw [HM.out]; first | rfl | (rw [Bool.eq_iff_iff]; simp)), FIN.out⟩
set_option maxRecDepth 20000 in
set_option maxHeartbeats 2000000 in
theorem rthere_any {w : World} {a : Ad} {c : Cf} (hc : Cin w a c) (p : Int) : Calls Tryz.prog 62 #[.agg #[.int .i64 c.F, .int .i64 c.C, .int .i64 c.W, .int .i64 c.S, .int .i64 c.V, .int .i64 c.T, .int .u64 c.k.l1, .int .u64 c.k.llc, .int .u64 c.k.mi, .int .u64 c.k.fa, .int .u64 c.k.st, .int .u64 c.k.di, .int .u64 c.sl, .int .u64 c.pd, .int .u64 c.ft, .slice a.ta c.tn a.tc, .slice a.pa c.pn a.pc], .int .i64 p] w (One (.int .i64 (fe c p)) w) := by
  have HB0 := cb_new hc
  have hpl := hc.pl
  have C1 : Hid (∀ w', Cin w' a c → Calls Tryz.prog 82 #[.agg #[.int .i64 c.F, .int .i64 c.C, .int .i64 c.W, .int .i64 c.S, .int .i64 c.V, .int .i64 c.T, .int .u64 c.k.l1, .int .u64 c.k.llc, .int .u64 c.k.mi, .int .u64 c.k.fa, .int .u64 c.k.st, .int .u64 c.k.di, .int .u64 c.sl, .int .u64 c.pd, .int .u64 c.ft, .slice a.ta c.tn a.tc, .slice a.pa c.pn a.pc]] w' (One (.bool (may c)) w')) := fun w' h => rMay_all h
  have HF : Hid (fe c p = bif may c then (bif decide (0 ≤ p) && decide (p < (c.pn : Int)) then 0 else 270) else 5) := rfl
  have hld := HB0.bx.ld
  clear hc
  generalize fe c p = fv at *
  generalize may c = bm at *
  go_enter Tryz.func62, Tryz.ntmps62
  go_upto_region 1 with fail
  obtain ⟨W, hW, HB⟩ : ∃ W, (w.alloc (.cells #[.int .i64 c.F, .int .i64 c.C, .int .i64 c.W, .int .i64 c.S, .int .i64 c.V, .int .i64 c.T, .int .u64 c.k.l1, .int .u64 c.k.llc, .int .u64 c.k.mi, .int .u64 c.k.fa, .int .u64 c.k.st, .int .u64 c.k.di, .int .u64 c.sl, .int .u64 c.pd, .int .u64 c.ft, .slice a.ta c.tn a.tc, .slice a.pa c.pn a.pc] 28)) = W ∧ Hid (Cb w W w.heap.size a c) := ⟨_, rfl, HB0⟩
  rw [hW] at hld
  rw [hW]
  clear hW HB0
  go_wp2_with (refine wpList_load_at rfl 28 (.tmp 2) rfl _ _ rfl hld ?_)
  refine (C1.out _ HB.out.ci).mono ?_
  rintro _ w1 ⟨rfl, k1⟩
  have H1 : Hid (Cb w w1 w.heap.size a c) := HB.out.below k1
  clear HB k1 hld C1
  cases bm
  · go_wp2
    go_ret
    exact ⟨ret_int (by rw [HF.out]; rfl), H1.out.be⟩
  have c16 := H1.out.bx.c16
  by_cases n1 : p < 0
  · have HV : Hid (fv = 270) := by unfold Hid; rw [HF.out, show (decide (0 ≤ p) && decide (p < (c.pn : Int))) = false by simp; omega]; rfl
    go_wp2
    go_ret
    exact ⟨ret_int HV.out.symm, H1.out.be⟩
  by_cases n2 : (c.pn : Int) ≤ p
  · have HV : Hid (fv = 270) := by unfold Hid; rw [HF.out, show (decide (0 ≤ p) && decide (p < (c.pn : Int))) = false by simp; omega]; rfl
    go_wp2
    go_ret
    exact ⟨ret_int HV.out.symm, H1.out.be⟩
  · have HV : Hid (fv = 0) := by unfold Hid; rw [HF.out, show (decide (0 ≤ p) && decide (p < (c.pn : Int))) = true by simp; omega]; rfl
    go_wp2
    go_ret
    exact ⟨ret_int HV.out.symm, H1.out.be⟩
set_option maxRecDepth 20000 in
set_option maxHeartbeats 2000000 in
theorem rTotal_no {w : World} {a : Ad} {c : Cf} (hc : Cin w a c) (p : Int) (hf : fe c p ≠ 0) : Calls Tryz.prog 34 #[.agg #[.int .i64 c.F, .int .i64 c.C, .int .i64 c.W, .int .i64 c.S, .int .i64 c.V, .int .i64 c.T, .int .u64 c.k.l1, .int .u64 c.k.llc, .int .u64 c.k.mi, .int .u64 c.k.fa, .int .u64 c.k.st, .int .u64 c.k.di, .int .u64 c.sl, .int .u64 c.pd, .int .u64 c.ft, .slice a.ta c.tn a.tc, .slice a.pa c.pn a.pc], .int .i64 p] w (Ti 0 (fe c p) w) := by
  have HB0 := cb_new hc
  have C1 : Hid (∀ w', Cin w' a c → Calls Tryz.prog 62 #[.agg #[.int .i64 c.F, .int .i64 c.C, .int .i64 c.W, .int .i64 c.S, .int .i64 c.V, .int .i64 c.T, .int .u64 c.k.l1, .int .u64 c.k.llc, .int .u64 c.k.mi, .int .u64 c.k.fa, .int .u64 c.k.st, .int .u64 c.k.di, .int .u64 c.sl, .int .u64 c.pd, .int .u64 c.ft, .slice a.ta c.tn a.tc, .slice a.pa c.pn a.pc], .int .i64 p] w' (One (.int .i64 (fe c p)) w')) := fun w' h => rthere_any h p
  have hld := HB0.bx.ld
  have hf2 : (fe c p != 0) = true := by simp [hf]
  clear hc
  generalize fe c p = E at *
  go_enter Tryz.func34, Tryz.ntmps34
  go_upto_region 1 with fail
  obtain ⟨W, hW, HB⟩ : ∃ W, (w.alloc (.cells #[.int .i64 c.F, .int .i64 c.C, .int .i64 c.W, .int .i64 c.S, .int .i64 c.V, .int .i64 c.T, .int .u64 c.k.l1, .int .u64 c.k.llc, .int .u64 c.k.mi, .int .u64 c.k.fa, .int .u64 c.k.st, .int .u64 c.k.di, .int .u64 c.sl, .int .u64 c.pd, .int .u64 c.ft, .slice a.ta c.tn a.tc, .slice a.pa c.pn a.pc] 28)) = W ∧ Hid (Cb w W w.heap.size a c) := ⟨_, rfl, HB0⟩
  rw [hW] at hld
  rw [hW]
  clear hW HB0
  go_wp2_with (refine wpList_load_at rfl 28 (.tmp 2) rfl _ _ rfl hld ?_)
  refine (C1.out _ HB.out.ci).mono ?_
  rintro _ w1 ⟨rfl, k1⟩
  have H1 : Hid (Cb w w1 w.heap.size a c) := HB.out.below k1
  clear HB k1 hld C1
  go_wp2
  go_ret2
  exact ⟨rfl, H1.out.be⟩
set_option maxRecDepth 20000 in
set_option maxHeartbeats 2000000 in
theorem rTotal_ok {w : World} {a : Ad} {c : Cf} (hc : Cin w a c) (p : Nat) (hm : may c = true) (hp : p < c.pn) : Calls Tryz.prog 34 #[.agg #[.int .i64 c.F, .int .i64 c.C, .int .i64 c.W, .int .i64 c.S, .int .i64 c.V, .int .i64 c.T, .int .u64 c.k.l1, .int .u64 c.k.llc, .int .u64 c.k.mi, .int .u64 c.k.fa, .int .u64 c.k.st, .int .u64 c.k.di, .int .u64 c.sl, .int .u64 c.pd, .int .u64 c.ft, .slice a.ta c.tn a.tc, .slice a.pa c.pn a.pc], .int .i64 p] w (Ti ((c.pf p).n * (c.F / c.C)) 0 w) := by
  have HB0 := cb_new hc
  have hpl := hc.pl
  have hp1 : (p : Int) < (c.pn : Int) := by omega
  have hp0 : (0 : Int) ≤ (p : Int) := by omega
  have hO := may_iff.1 hm
  have k := hO.part hp
  have C1 : Hid (∀ w', Cin w' a c → Calls Tryz.prog 62 #[.agg #[.int .i64 c.F, .int .i64 c.C, .int .i64 c.W, .int .i64 c.S, .int .i64 c.V, .int .i64 c.T, .int .u64 c.k.l1, .int .u64 c.k.llc, .int .u64 c.k.mi, .int .u64 c.k.fa, .int .u64 c.k.st, .int .u64 c.k.di, .int .u64 c.sl, .int .u64 c.pd, .int .u64 c.ft, .slice a.ta c.tn a.tc, .slice a.pa c.pn a.pc], .int .i64 p] w' (One (.int .i64 0) w')) := fun w' h => by
    have := rthere_any h (p : Int)
    rwa [fe_ok hm hp] at this
  have hld := HB0.bx.ld
  have hC0 : ¬ c.C = 0 := by have := hO.m.C; omega
  have hC1 : c.C ≤ 16 := by have := hO.m.C; omega
  obtain ⟨q0, q1⟩ := quo_range hO.m.C hO.m.F1 hO.m.F2
  have hq' : c.F.tdiv c.C = c.F / c.C := Int.tdiv_eq_ediv_of_nonneg (by have := hO.m.F1; omega)
  have hn16 : ((c.pf p).n : Int) ≤ 16 := by have := rise_len k.ri k.n0; omega
  obtain ⟨p0, p1⟩ := prod_le ((c.pf p).n : Int) (c.F / c.C) 16 4096 (by omega) hn16 q0 q1
  clear hc hO k hm
  go_enter Tryz.func34, Tryz.ntmps34
  go_upto_region 1 with fail
  obtain ⟨W, hW, HB⟩ : ∃ W, (w.alloc (.cells #[.int .i64 c.F, .int .i64 c.C, .int .i64 c.W, .int .i64 c.S, .int .i64 c.V, .int .i64 c.T, .int .u64 c.k.l1, .int .u64 c.k.llc, .int .u64 c.k.mi, .int .u64 c.k.fa, .int .u64 c.k.st, .int .u64 c.k.di, .int .u64 c.sl, .int .u64 c.pd, .int .u64 c.ft, .slice a.ta c.tn a.tc, .slice a.pa c.pn a.pc] 28)) = W ∧ Hid (Cb w W w.heap.size a c) := ⟨_, rfl, HB0⟩
  rw [hW] at hld
  rw [hW]
  clear hW HB0
  go_wp2_with (refine wpList_load_at rfl 28 (.tmp 2) rfl _ _ rfl hld ?_)
  refine (C1.out _ HB.out.ci).mono ?_
  rintro _ w1 ⟨rfl, k1⟩
  have H1 : Hid (Cb w w1 w.heap.size a c) := HB.out.below k1
  clear HB k1 hld C1
  obtain ⟨b, off, hq, ⟨_, e0, _, _, _, _, _, _, _⟩⟩ := H1.out.ci.p.at' hp
  have c16 := H1.out.bx.c16
  have c0 := H1.out.bx.c0
  have c1 := H1.out.bx.c1
  rw [hq] at c16
  clear hq
  generalize hQ : c.F / c.C = Q at *
  generalize hTT : ((c.pf p).n : Int) * Q = TT at *
  generalize (c.pf p) = y at *
  generalize a.ca p = qa at *
  generalize a.cc p = qm at *
  clear hQ
  go_wp2_with fail
  go_quiet (fail)
  go_wp2
  go_ret2
  exact ⟨rfl, below_drewN H1.out.be _⟩
theorem fieldLi (i j k l : Int) (w : World) : (Instr.field 144 (.agg #[.int .i64 i, .int .i64 j, .int .i64 k, .int .i64 l]) 2).run Tryz.prog w = .ok (.int .i64 k) w := by
  simp [Instr.field, run_underlying Tryz.underlying144, part, go_sem, asAgg]
end Go.Proofs.YtifchflbhdnfaaaGreat
