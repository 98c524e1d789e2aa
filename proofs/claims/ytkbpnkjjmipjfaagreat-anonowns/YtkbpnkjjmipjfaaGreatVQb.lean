/- What plan's Check and May give back; no condition but that a configuration lies in memory. -/
import Derived.Test.YtkbpnkjjmipjfaaGreatVPs
import Derived.Test.YtkbpnkjjmipjfaaGreatVCa
namespace Go.Proofs.YtkbpnkjjmipjfaaGreat
open Go.ChangeShapes Go.WideShapes Go.ChangeAt Go.RowKit
set_option linter.unusedVariables false

structure Se (w0 w : World) (a : Ad) (c : Cf) (v : Value) (L : List (Int × Int)) (e : Nat) (M : List Value) : Prop where
  sc : Sc w0 w a c v L
  er : Blk w e 33 M
  ne : ∀ t, v.ownBlock = some t → t ≠ e
  lo : w0.heap.size + 1 < e
theorem Se.below {w0 w w' : World} {a : Ad} {c : Cf} {v : Value} {L : List (Int × Int)} {e : Nat} {M : List Value} (h : Se w0 w a c v L e M) (k : Below w.heap.size w w') : Se w0 w' a c v L e M :=
  ⟨h.sc.below k, h.er.below k, h.ne, h.lo⟩
theorem note_se {w0 w : World} {a : Ad} {c : Cf} {v : Value} {L : List (Int × Int)} {e : Nat} {M : List Value} (h : Se w0 w a c v L e M) (hL : L.length ≤ 12) (at' er : Int) :
    Calls Tryz.prog 165 #[.int .i64 at', .int .i64 er, .pointer (some ⟨w0.heap.size + 1, 0, none⟩)] w fun x w' => x = .returned (.tuple #[]) ∧ ∃ v', Se w0 w' a c v' (L ++ fl er at') e M :=
  (note_any h.sc.nb hL at' er).mono fun x w' hx => by
    obtain ⟨rfl, v', n, k, t⟩ := hx
    refine ⟨rfl, v', h.sc.noted k n, k.blk h.er (by have := h.lo; omega) (fun q => h.ne e q.symm rfl), fun s hs => ?_, h.lo⟩
    rcases t s hs with q | q
    · exact h.ne s q
    · have := h.er.lt; omega
theorem len_app (A B : List (Int × Int)) (m n : Nat) (h : A.length ≤ m) (k : B.length ≤ n) : (A ++ B).length ≤ m + n := by rw [List.length_append]; omega
set_option maxRecDepth 20000 in
set_option maxHeartbeats 4000000 in
theorem Check_all {w : World} {a : Ad} {c : Cf} (hc : Cin w a c) : Calls Tryz.prog 128 #[.agg #[.int .i64 c.F, .int .i64 c.C, .int .i64 c.W, .int .i64 c.S, .int .i64 c.V, .int .i64 c.T, .int .u64 c.k.l1, .int .u64 c.k.llc, .int .u64 c.k.mi, .int .u64 c.k.fa, .int .u64 c.k.st, .int .u64 c.k.di, .int .u64 c.sl, .int .u64 c.pd, .int .u64 c.ft, .slice a.ta c.tn a.tc, .slice a.pa c.pn a.pc]] w (Chk c w) := by
  have HS0 := sc_new hc
  have M1 : Hid (∀ n : Idx (fun W => Sc w W a c (.slice none 0 0) []), Calls Tryz.prog 166 #[.agg #[.int .i64 c.F, .int .i64 c.C, .int .i64 c.W, .int .i64 c.S, .int .i64 c.V, .int .i64 c.T, .int .u64 c.k.l1, .int .u64 c.k.llc, .int .u64 c.k.mi, .int .u64 c.k.fa, .int .u64 c.k.st, .int .u64 c.k.di, .int .u64 c.sl, .int .u64 c.pd, .int .u64 c.ft, .slice a.ta c.tn a.tc, .slice a.pa c.pn a.pc]] n.W (One (.int .i64 (un (mOk c) 114)) n.W)) := fun n => machineWrong_any
  have M2 : Hid (∀ n : Idx (fun W => Sc w W a c (.slice none 0 0) []), Calls Tryz.prog 167 #[.agg #[.int .u64 c.k.l1, .int .u64 c.k.llc, .int .u64 c.k.mi, .int .u64 c.k.fa, .int .u64 c.k.st, .int .u64 c.k.di]] n.W (One (.int .i64 (er c.k)) n.W)) := fun n => Check_any c.k n.W
  have hld : ∀ n : Idx (fun W => Sc w W a c (.slice none 0 0) []), (Instr.loadAt 28 (.pointer (some ⟨w.heap.size, 0, none⟩))).run Tryz.prog n.W = .ok (.agg #[.int .i64 c.F, .int .i64 c.C, .int .i64 c.W, .int .i64 c.S, .int .i64 c.V, .int .i64 c.T, .int .u64 c.k.l1, .int .u64 c.k.llc, .int .u64 c.k.mi, .int .u64 c.k.fa, .int .u64 c.k.st, .int .u64 c.k.di, .int .u64 c.sl, .int .u64 c.pd, .int .u64 c.ft, .slice a.ta c.tn a.tc, .slice a.pa c.pn a.pc]) n.W := fun n => n.h.bx.ld
  have hF6 : ∀ n : Idx (fun W => Sc w W a c (.slice none 0 0) []), n.W.cell? ⟨w.heap.size, 6, none⟩ = some (.int .u64 c.k.l1) := fun n => n.h.bx.c6
  have hF7 : ∀ n : Idx (fun W => Sc w W a c (.slice none 0 0) []), n.W.cell? ⟨w.heap.size, 7, none⟩ = some (.int .u64 c.k.llc) := fun n => n.h.bx.c7
  have hF8 : ∀ n : Idx (fun W => Sc w W a c (.slice none 0 0) []), n.W.cell? ⟨w.heap.size, 8, none⟩ = some (.int .u64 c.k.mi) := fun n => n.h.bx.c8
  have hF9 : ∀ n : Idx (fun W => Sc w W a c (.slice none 0 0) []), n.W.cell? ⟨w.heap.size, 9, none⟩ = some (.int .u64 c.k.fa) := fun n => n.h.bx.c9
  have hF10 : ∀ n : Idx (fun W => Sc w W a c (.slice none 0 0) []), n.W.cell? ⟨w.heap.size, 10, none⟩ = some (.int .u64 c.k.st) := fun n => n.h.bx.c10
  have hF11 : ∀ n : Idx (fun W => Sc w W a c (.slice none 0 0) []), n.W.cell? ⟨w.heap.size, 11, none⟩ = some (.int .u64 c.k.di) := fun n => n.h.bx.c11
  have hne : Nonempty (Idx (fun W => Sc w W a c (.slice none 0 0) [])) := ⟨⟨_, HS0⟩⟩
  clear hc
  go_enter Tryz.func128, Tryz.ntmps128
  go_upto_region 3 with fail
  obtain ⟨W, hW, HS⟩ : ∃ W, ((w.alloc (.cells #[.int .i64 c.F, .int .i64 c.C, .int .i64 c.W, .int .i64 c.S, .int .i64 c.V, .int .i64 c.T, .int .u64 c.k.l1, .int .u64 c.k.llc, .int .u64 c.k.mi, .int .u64 c.k.fa, .int .u64 c.k.st, .int .u64 c.k.di, .int .u64 c.sl, .int .u64 c.pd, .int .u64 c.ft, .slice a.ta c.tn a.tc, .slice a.pa c.pn a.pc] 28)).alloc (.cells #[.slice none 0 0] 95)) = W ∧ Hid (Sc w W a c (.slice none 0 0) []) := ⟨_, rfl, HS0⟩
  rw [hW]
  clear hW HS0
  refine wp_region_cls (fun W => Sc w W a c (.slice none 0 0) []) (by kernel_rfl) (by kernel_rfl) (HS.out.below (below_drew _ _)) ?_
  go_big_quiet_want
  refine quiet_load_at 28 (.tmp 1) rfl _ _ rfl hld ?_
  simp only [Act.put, List.setIfInBounds_toArray, List.set_cons_zero, List.set_cons_succ]
  go_big_quiet_on
  repeat (go_big_quiet_step (first | (go_at_call 166; exact Calls.cls (M1.out _) (fun _ _ h k => h.below k)) | (go_at_call 167; exact Calls.cls (M2.out _) (fun _ _ h k => h.below k))))
  refine wpQuiet_nil ?_
  rintro w1 ⟨⟨_, hS1⟩, rfl⟩
  have HS1 : Hid (Sc w w1 a c (.slice none 0 0) []) := hS1
  clear hS1 HS M1 M2 hld hF6 hF7 hF8 hF9 hF10 hF11 hne W
  have AP : Hid (Calls Tryz.prog 168 #[.agg #[.int .i64 c.F, .int .i64 c.C, .int .i64 c.W, .int .i64 c.S, .int .i64 c.V, .int .i64 c.T, .int .u64 c.k.l1, .int .u64 c.k.llc, .int .u64 c.k.mi, .int .u64 c.k.fa, .int .u64 c.k.st, .int .u64 c.k.di, .int .u64 c.sl, .int .u64 c.pd, .int .u64 c.ft, .slice a.ta c.tn a.tc, .slice a.pa c.pn a.pc], .bool (mOk c)] w1 (Apw c w1)) := allPartsWrong_any HS1.out.ci
  have SW : Hid (∀ w' e, Cin w' a c → Blk w' e 33 (pbL c (min c.pn 8) (min c.pn 8)) → Calls Tryz.prog 169 #[.agg #[.int .i64 c.F, .int .i64 c.C, .int .i64 c.W, .int .i64 c.S, .int .i64 c.V, .int .i64 c.T, .int .u64 c.k.l1, .int .u64 c.k.llc, .int .u64 c.k.mi, .int .u64 c.k.fa, .int .u64 c.k.st, .int .u64 c.k.di, .int .u64 c.sl, .int .u64 c.pd, .int .u64 c.ft, .slice a.ta c.tn a.tc, .slice a.pa c.pn a.pc], .bool (mOk c && okC c.k), .slice (some ⟨e, 0, none⟩) (min c.pn 8) (min c.pn 8)] w' (One (.int .i64 (un (sOk c) 113)) w')) := fun w' e h1 h2 => slicingWrong_any h1 rfl h2
  have TW : Hid (∀ w', Cin w' a c → Calls Tryz.prog 170 #[.agg #[.int .i64 c.F, .int .i64 c.C, .int .i64 c.W, .int .i64 c.S, .int .i64 c.V, .int .i64 c.T, .int .u64 c.k.l1, .int .u64 c.k.llc, .int .u64 c.k.mi, .int .u64 c.k.fa, .int .u64 c.k.st, .int .u64 c.k.di, .int .u64 c.sl, .int .u64 c.pd, .int .u64 c.ft, .slice a.ta c.tn a.tc, .slice a.pa c.pn a.pc]] w' (One (.int .i64 (un (tOk c) 112)) w')) := fun w' h => turnsWrong_any h
  have HCH : Hid (chk c = fl (un (mOk c) 114) 0 ++ fl (er c.k) 1 ++ fl (un (sOk c) 113) 2 ++ fl (un (tOk c) 112) 3 ++ chkP c (min c.pn 8)) := rfl
  have HE1 : Hid (er c.k = un (okC c.k) 100) := by
    unfold Hid
    cases h : okC c.k
    · exact er_f h
    · exact er_t h
  have hn8 : min c.pn 8 ≤ 8 := by omega
  have HPG : Hid (∀ i, i < min c.pn 8 → (pbL c (min c.pn 8) (min c.pn 8))[i]? = some (.int .i64 (pBad c i))) := fun i hi => by rw [pbL_get hi]; simp [hi]
  have HCP : Hid (∀ k, chkP c (k + 1) = chkP c k ++ fl (pBad c k) (4 + k)) := fun k => rfl
  have HLn : Hid (∀ k, k ≤ min c.pn 8 → (chkP c k).length ≤ 8) := fun k hk => by have := chkP_len c k; omega
  rw [HE1.out] at HCH
  rw [HE1.out]
  clear HE1
  unfold Apw at AP
  generalize pbL c (min c.pn 8) (min c.pn 8) = M at *
  generalize min c.pn 8 = n at *
  generalize un (sOk c) 113 = E2 at *
  generalize un (tOk c) 112 = E3 at *
  have hld := HS1.out.bx.ld
  generalize mOk c = bm at *
  generalize okC c.k = bk at *
  cases bm <;> cases bk
  all_goals
    simp only [un, cond_true, cond_false, Bool.and_true, Bool.and_false, Bool.and_self] at HCH AP SW ⊢
    go_wp2_with (refine wpList_load_at rfl 28 (.tmp 1) rfl _ _ rfl hld ?_)
    refine AP.out.mono ?_
    rintro _ w2 ⟨e, rfl, he, hE, k2⟩
    have H2 : Hid (Se w w2 a c (.slice none 0 0) [] e M) := ⟨HS1.out.below k2, hE, (fun t ht => by cases ht), (by have := HS1.out.nb.bx.lt; omega)⟩
    clear HS1 AP hE k2 he hld
    go_wp2_with fail
    refine (note_se H2.out (by simp) _ _).mono ?_
    rintro _ w3 ⟨rfl, v3, h3⟩
    have H3 : Hid (Se w w3 a c v3 _ e M) := h3
    clear h3 H2
    go_wp2_with fail
    refine (note_se H3.out (Nat.le_trans (len_app _ _ 0 1 (by simp) (fl_len _ _)) (by omega)) _ _).mono ?_
    rintro _ w4 ⟨rfl, v4, h4⟩
    have H4 : Hid (Se w w4 a c v4 _ e M) := h4
    clear h4 H3
    have hld := H4.out.sc.bx.ld
    go_wp2_with (refine wpList_load_at rfl 28 (.tmp 1) rfl _ _ rfl hld ?_)
    refine (SW.out _ _ H4.out.sc.ci H4.out.er).mono ?_
    rintro _ w5 ⟨rfl, k5⟩
    have H5 : Hid (Se w w5 a c v4 _ e M) := H4.out.below k5
    clear H4 k5 hld SW
    go_wp2_with fail
    refine (note_se H5.out (Nat.le_trans (len_app _ _ 1 1 (len_app _ _ 0 1 (by simp) (fl_len _ _)) (fl_len _ _)) (by omega)) _ _).mono ?_
    rintro _ w6 ⟨rfl, v6, h6⟩
    have H6 : Hid (Se w w6 a c v6 _ e M) := h6
    clear h6 H5
    have hld := H6.out.sc.bx.ld
    go_wp2_with (refine wpList_load_at rfl 28 (.tmp 1) rfl _ _ rfl hld ?_)
    refine (TW.out _ H6.out.sc.ci).mono ?_
    rintro _ w7 ⟨rfl, k7⟩
    have H7 : Hid (Se w w7 a c v6 _ e M) := H6.out.below k7
    clear H6 k7 hld TW
    go_wp2_with fail
    refine (note_se H7.out (Nat.le_trans (len_app _ _ 2 1 (len_app _ _ 1 1 (len_app _ _ 0 1 (by simp) (fl_len _ _)) (fl_len _ _)) (fl_len _ _)) (by omega)) _ _).mono ?_
    rintro _ w8 ⟨rfl, v8, h8⟩
    have H8 : Hid (∃ L8, L8.length ≤ 4 ∧ chk c = L8 ++ chkP c n ∧ Se w w8 a c v8 L8 e M) :=
      ⟨_, len_app _ _ 3 1 (len_app _ _ 2 1 (len_app _ _ 1 1 (len_app _ _ 0 1 (by simp) (fl_len _ _)) (fl_len _ _)) (fl_len _ _)) (fl_len _ _), by rw [HCH.out]; rfl, h8⟩
    clear h8 H7 HCH
    obtain ⟨L8, l8, hch, h8⟩ := H8.out
    have HCH : Hid (chk c = L8 ++ chkP c n) := hch
    have H9 : Hid (Se w w8 a c v8 L8 e M) := h8
    clear H8 hch h8
    go_wp2_with fail
    go_loopw [43] (fun i wr => ∃ (k : Nat) (v : Value), k ≤ n ∧ i = .int .i64 k ∧ Se w wr a c v (L8 ++ chkP c k) e M) (fun i _ => n - (intOf i).toNat)
    case atStart => exact ⟨0, v8, by omega, rfl, by rw [show chkP c 0 = [] from rfl, List.append_nil]; exact H9.out⟩
    case round =>
      obtain ⟨k, v, hk, rfl, hS⟩ := hrel
      clear H9
      have H9 : Hid (Se w wr a c v (L8 ++ chkP c k) e M) := hS
      clear hS
      by_cases hlt : k < n
      · have d1 : wr.cell? ⟨e, k, none⟩ = some (.int .i64 (pBad c k)) := by rw [H9.out.er.cell k]; exact HPG.out k hlt
        have HN : Hid (L8 ++ chkP c (k + 1) = (L8 ++ chkP c k) ++ fl (pBad c k) (4 + k)) := by unfold Hid; rw [HCP.out, List.append_assoc]
        have HLk : Hid ((L8 ++ chkP c k).length ≤ 12) := by unfold Hid; rw [List.length_append]; have := HLn.out k (by omega); omega
        generalize pBad c k = pb at *
        go_wp2_with fail
        refine (note_se H9.out HLk.out _ _).mono ?_
        rintro _ w10 ⟨rfl, v10, h10⟩
        rw [← HN.out] at h10
        have H10 : Hid (Se w w10 a c v10 (L8 ++ chkP c (k + 1)) e M) := h10
        clear h10 H9 d1
        go_wp2
        go_roundw
        case rel => exact ⟨k + 1, v10, by omega, by go_num, H10.out⟩
        case measure => simp [intOf]; omega
      · obtain rfl : k = n := by omega
        obtain ⟨va, vn, vc, rfl⟩ := fs_shape H9.out.sc.nb.fs
        have d1 : wr.cell? ⟨w.heap.size + 1, 0, none⟩ = some (.slice va vn vc) := H9.out.sc.nb.bx.cell 0
        go_wp2
        go_ret
        exact ⟨_, rfl, by rw [HCH.out]; exact fs_less H9.out.sc.nb.fs (by omega), H9.out.sc.be⟩
end Go.Proofs.YtkbpnkjjmipjfaaGreat
namespace Go.Proofs.YtkbpnkjjmipjfaaGreat
open Go.ChangeShapes Go.WideShapes Go.ChangeAt Go.RowKit
set_option linter.unusedVariables false

theorem Fs.len {w : World} {base : Nat} {v : Value} {L : List (Int × Int)} (h : Fs w base v L) : ∃ a cap, v = .slice a L.length cap := by
  rcases h with ⟨h0, ⟨rfl, h⟩ | ⟨g, cap, cur, rfl, h1, h2⟩⟩
  · exact ⟨none, 0, by rw [h]⟩
  · exact ⟨_, _, rfl⟩
theorem may_len (c : Cf) : may c = ((chk c).length == 0) := by
  unfold may
  cases chk c <;> rfl
set_option maxRecDepth 20000 in
theorem May_all {w : World} {a : Ad} {c : Cf} (hc : Cin w a c) : Calls Tryz.prog 92 #[.agg #[.int .i64 c.F, .int .i64 c.C, .int .i64 c.W, .int .i64 c.S, .int .i64 c.V, .int .i64 c.T, .int .u64 c.k.l1, .int .u64 c.k.llc, .int .u64 c.k.mi, .int .u64 c.k.fa, .int .u64 c.k.st, .int .u64 c.k.di, .int .u64 c.sl, .int .u64 c.pd, .int .u64 c.ft, .slice a.ta c.tn a.tc, .slice a.pa c.pn a.pc]] w (One (.bool (may c)) w) := by
  have HB0 := cb_new hc
  have C1 : Hid (∀ w', Cin w' a c → Calls Tryz.prog 128 #[.agg #[.int .i64 c.F, .int .i64 c.C, .int .i64 c.W, .int .i64 c.S, .int .i64 c.V, .int .i64 c.T, .int .u64 c.k.l1, .int .u64 c.k.llc, .int .u64 c.k.mi, .int .u64 c.k.fa, .int .u64 c.k.st, .int .u64 c.k.di, .int .u64 c.sl, .int .u64 c.pd, .int .u64 c.ft, .slice a.ta c.tn a.tc, .slice a.pa c.pn a.pc]] w' (Chk c w')) := fun w' h => Check_all h
  have HM : Hid (may c = ((chk c).length == 0)) := may_len c
  have hL := chk_len c
  have hld := HB0.bx.ld
  clear hc
  go_enter Tryz.func92, Tryz.ntmps92
  go_upto_region 1 with fail
  obtain ⟨W, hW, HB⟩ : ∃ W, (w.alloc (.cells #[.int .i64 c.F, .int .i64 c.C, .int .i64 c.W, .int .i64 c.S, .int .i64 c.V, .int .i64 c.T, .int .u64 c.k.l1, .int .u64 c.k.llc, .int .u64 c.k.mi, .int .u64 c.k.fa, .int .u64 c.k.st, .int .u64 c.k.di, .int .u64 c.sl, .int .u64 c.pd, .int .u64 c.ft, .slice a.ta c.tn a.tc, .slice a.pa c.pn a.pc] 28)) = W ∧ Hid (Cb w W w.heap.size a c) := ⟨_, rfl, HB0⟩
  rw [hW] at hld
  rw [hW]
  clear hW HB0
  go_wp2_with (refine wpList_load_at rfl 28 (.tmp 1) rfl _ _ rfl hld ?_)
  refine (C1.out _ HB.out.ci).mono ?_
  rintro _ w1 ⟨v, rfl, hf, k1⟩
  obtain ⟨va, vc, rfl⟩ := hf.len
  have FIN : Hid (Below w.heap.size w w1) := HB.out.be.trans (k1.mono HB.out.be.size)
  clear hf k1 HB C1 hld
  generalize (chk c).length = n at *
  go_wp2
  go_ret
  exact ⟨ret_bool (by rw [HM.out]; first | rfl | (rw [Bool.eq_iff_iff]; simp)), FIN.out⟩
structure Fd (w0 w : World) (a : Ad) (c : Cf) (L : List Value) : Prop where
  be : Below w0.heap.size w0 w
  bx : Sev w w0.heap.size a c
  ci0 : Cin w0 a c
  rs : Blk w (w0.heap.size + 1) 109 L
theorem Fd.ci {w0 w : World} {a : Ad} {c : Cf} {L : List Value} (h : Fd w0 w a c L) : Cin w a c := h.ci0.below h.be
theorem Fd.below {w0 w w' : World} {a : Ad} {c : Cf} {L : List Value} (h : Fd w0 w a c L) (k : Below w.heap.size w w') : Fd w0 w' a c L := ⟨h.be.trans (k.mono h.be.size), h.bx.below k, h.ci0, h.rs.below k⟩
theorem Fd.set {w0 w : World} {a : Ad} {c : Cf} {L : List Value} (h : Fd w0 w a c L) (i : Nat) (v : Value) : Fd w0 (w.setCell ⟨w0.heap.size + 1, i, none⟩ v) a c (L.set i v) :=
  ⟨h.be.trans (below_setCell (by omega) h.be.size i v), h.bx.of_eq (heap_set_ne (by omega) i v) (Nat.lt_of_lt_of_le h.bx.lt (grown_setCell' w _ i v).size), h.ci0, h.rs.set i v⟩
def zP : List Value := [.slice none 0 0, .int .i64 0, .int .i64 0, .int .i64 0, .int .i64 0, .int .i64 0, .int .i64 0, .int .i64 0]
theorem fd_new {w : World} {a : Ad} {c : Cf} (h : Cin w a c) : Fd w ((w.alloc (.cells #[.int .i64 c.F, .int .i64 c.C, .int .i64 c.W, .int .i64 c.S, .int .i64 c.V, .int .i64 c.T, .int .u64 c.k.l1, .int .u64 c.k.llc, .int .u64 c.k.mi, .int .u64 c.k.fa, .int .u64 c.k.st, .int .u64 c.k.di, .int .u64 c.sl, .int .u64 c.pd, .int .u64 c.ft, .slice a.ta c.tn a.tc, .slice a.pa c.pn a.pc] 28)).alloc (.cells #[.slice none 0 0, .int .i64 0, .int .i64 0, .int .i64 0, .int .i64 0, .int .i64 0, .int .i64 0, .int .i64 0] 109)) a c zP :=
  ⟨below_two _ _ _, (sev_new w a c).below (below_new _ _), h, by simpa [zP] using blk_new (w.alloc (.cells #[.int .i64 c.F, .int .i64 c.C, .int .i64 c.W, .int .i64 c.S, .int .i64 c.V, .int .i64 c.T, .int .u64 c.k.l1, .int .u64 c.k.llc, .int .u64 c.k.mi, .int .u64 c.k.fa, .int .u64 c.k.st, .int .u64 c.k.di, .int .u64 c.sl, .int .u64 c.pd, .int .u64 c.ft, .slice a.ta c.tn a.tc, .slice a.pa c.pn a.pc] 28)) zP 109⟩
theorem Fd.zs {w0 w : World} {a : Ad} {c : Cf} {v0 v1 v2 v3 v4 v5 v6 v7 : Value} (h : Fd w0 w a c [v0, v1, v2, v3, v4, v5, v6, v7]) :
    (w.cell? ⟨w0.heap.size + 1, 0, none⟩ = some v0 ∧ w.cell? ⟨w0.heap.size + 1, 1, none⟩ = some v1 ∧ w.cell? ⟨w0.heap.size + 1, 2, none⟩ = some v2 ∧ w.cell? ⟨w0.heap.size + 1, 3, none⟩ = some v3 ∧ w.cell? ⟨w0.heap.size + 1, 4, none⟩ = some v4 ∧ w.cell? ⟨w0.heap.size + 1, 5, none⟩ = some v5 ∧ w.cell? ⟨w0.heap.size + 1, 6, none⟩ = some v6 ∧ w.cell? ⟨w0.heap.size + 1, 7, none⟩ = some v7) ∧
    w.frozen? ⟨w0.heap.size + 1, 0, none⟩ = false ∧ w.frozen? ⟨w0.heap.size + 1, 1, none⟩ = false ∧ w.frozen? ⟨w0.heap.size + 1, 2, none⟩ = false ∧ w.frozen? ⟨w0.heap.size + 1, 3, none⟩ = false ∧ w.frozen? ⟨w0.heap.size + 1, 4, none⟩ = false ∧ w.frozen? ⟨w0.heap.size + 1, 5, none⟩ = false ∧ w.frozen? ⟨w0.heap.size + 1, 6, none⟩ = false ∧ w.frozen? ⟨w0.heap.size + 1, 7, none⟩ = false :=
  ⟨⟨h.rs.cell 0, h.rs.cell 1, h.rs.cell 2, h.rs.cell 3, h.rs.cell 4, h.rs.cell 5, h.rs.cell 6, h.rs.cell 7⟩, h.rs.frozen 0, h.rs.frozen 1, h.rs.frozen 2, h.rs.frozen 3, h.rs.frozen 4, h.rs.frozen 5, h.rs.frozen 6, h.rs.frozen 7⟩
set_option maxRecDepth 20000 in
set_option maxHeartbeats 2000000 in
theorem find_ok {w : World} {a : Ad} {c : Cf} (hc : Cin w a c) (p : Nat) (hm : may c = true) (hp : p < c.pn) : Calls Tryz.prog 94 #[.agg #[.int .i64 c.F, .int .i64 c.C, .int .i64 c.W, .int .i64 c.S, .int .i64 c.V, .int .i64 c.T, .int .u64 c.k.l1, .int .u64 c.k.llc, .int .u64 c.k.mi, .int .u64 c.k.fa, .int .u64 c.k.st, .int .u64 c.k.di, .int .u64 c.sl, .int .u64 c.pd, .int .u64 c.ft, .slice a.ta c.tn a.tc, .slice a.pa c.pn a.pc], .int .i64 p] w (One (.tuple #[.agg #[.slice (a.ca p) (c.pf p).n (a.cc p), .int .i64 (c.pf p).o, .int .i64 (c.pf p).u, .int .i64 (c.pf p).t, .int .i64 (c.pf p).s, .int .i64 (c.pf p).r, .int .i64 (c.pf p).d, .int .i64 (c.pf p).z], .int .i64 0]) w) := by
  have HB0 := fd_new hc
  have hpl := hc.pl
  have hp1 : (p : Int) < (c.pn : Int) := by omega
  have hp0 : (0 : Int) ≤ (p : Int) := by omega
  have C1 : Hid (∀ w', Cin w' a c → Calls Tryz.prog 92 #[.agg #[.int .i64 c.F, .int .i64 c.C, .int .i64 c.W, .int .i64 c.S, .int .i64 c.V, .int .i64 c.T, .int .u64 c.k.l1, .int .u64 c.k.llc, .int .u64 c.k.mi, .int .u64 c.k.fa, .int .u64 c.k.st, .int .u64 c.k.di, .int .u64 c.sl, .int .u64 c.pd, .int .u64 c.ft, .slice a.ta c.tn a.tc, .slice a.pa c.pn a.pc]] w' (One (.bool true) w')) := fun w' h => by rw [← hm]; exact May_all h
  have C2 : Hid (∀ w', Calls Tryz.prog 129 #[.agg #[.int .i64 c.F, .int .i64 c.C, .int .i64 c.W, .int .i64 c.S, .int .i64 c.V, .int .i64 c.T, .int .u64 c.k.l1, .int .u64 c.k.llc, .int .u64 c.k.mi, .int .u64 c.k.fa, .int .u64 c.k.st, .int .u64 c.k.di, .int .u64 c.sl, .int .u64 c.pd, .int .u64 c.ft, .slice a.ta c.tn a.tc, .slice a.pa c.pn a.pc], .int .i64 p] w' (One (.bool true) w')) := fun w' => by
    have := isPart_any (w := w') (a := a) (c := c) (p : Int)
    rwa [show (decide (0 ≤ (p : Int)) && decide ((p : Int) < (c.pn : Int))) = true by simp; omega] at this
  have hld := HB0.bx.ld
  clear hc hm
  go_enter Tryz.func94, Tryz.ntmps94
  go_upto_region 1 with fail
  obtain ⟨W, hW, HB⟩ : ∃ W, ((w.alloc (.cells #[.int .i64 c.F, .int .i64 c.C, .int .i64 c.W, .int .i64 c.S, .int .i64 c.V, .int .i64 c.T, .int .u64 c.k.l1, .int .u64 c.k.llc, .int .u64 c.k.mi, .int .u64 c.k.fa, .int .u64 c.k.st, .int .u64 c.k.di, .int .u64 c.sl, .int .u64 c.pd, .int .u64 c.ft, .slice a.ta c.tn a.tc, .slice a.pa c.pn a.pc] 28)).alloc (.cells #[.slice none 0 0, .int .i64 0, .int .i64 0, .int .i64 0, .int .i64 0, .int .i64 0, .int .i64 0, .int .i64 0] 109)) = W ∧ Hid (Fd w W a c zP) := ⟨_, rfl, HB0⟩
  rw [hW] at hld
  rw [hW]
  clear hW HB0
  go_wp2_with (refine wpList_load_at rfl 28 (.tmp 2) rfl _ _ rfl hld ?_)
  refine (C1.out _ HB.out.ci).mono ?_
  rintro _ w1 ⟨rfl, k1⟩
  have H1 : Hid (Fd w w1 a c zP) := HB.out.below k1
  clear HB k1 hld C1
  have hld := H1.out.bx.ld
  go_wp2_with (refine wpList_load_at rfl 28 (.tmp 2) rfl _ _ rfl hld ?_)
  refine (C2.out _).mono ?_
  rintro _ w2 ⟨rfl, k2⟩
  have H2 : Hid (Fd w w2 a c zP) := H1.out.below k2
  clear H1 k2 hld C2
  obtain ⟨⟨z0, z1, z2, z3, z4, z5, z6, z7⟩, y0, y1, y2, y3, y4, y5, y6, y7⟩ := H2.out.zs
  obtain ⟨b, off, hq, ⟨_, e0, e1, e2, e3, e4, e5, e6, e7⟩⟩ := H2.out.ci.p.at' hp
  have c16 := H2.out.bx.c16
  rw [hq] at c16
  generalize a.ca p = q at *
  generalize a.cc p = m at *
  generalize c.pf p = x at *
  go_wp2
  refine bodyPost_ret (v := .tuple #[.agg #[.slice q x.n m, .int .i64 x.o, .int .i64 x.u, .int .i64 x.t, .int .i64 x.s, .int .i64 x.r, .int .i64 x.d, .int .i64 x.z], .int .i64 0]) (by simp [results, Tryz.results94, go_sem, *]) rfl ⟨rfl, ?_⟩
  exact ((((((((H2.out.set 0 _).set 1 _).set 2 _).set 3 _).set 4 _).set 5 _).set 6 _).set 7 _).be
def zs (c : Cf) : Nat → Int
  | 0 => 0
  | k + 1 => zs c k + (c.pf k).z
theorem slots_ok {w : World} {pa : Option Addr} {n pc : Nat} {ca : Nat → Option Addr} {cc : Nat → Nat} {c : Cf} (hP : Prs w pa n ca cc c.pf) (hn : n ≤ 8) (hz : ∀ i, i < n → 1 ≤ (c.pf i).z ∧ (c.pf i).z ≤ 1024) :
    Calls Tryz.prog 93 #[.slice pa n pc] w (One (.int .i64 (zs c n)) w) := by
  have HP : Hid (Prs w pa n ca cc c.pf) := hP
  have HR : Hid (∀ k, k ≤ n → 0 ≤ zs c k ∧ zs c k ≤ 1024 * k) := fun k => by
    induction k with
    | zero => intro _; exact ⟨Int.le_refl _, Int.le_refl _⟩
    | succ k ih =>
      intro hk
      have h1 := ih (by omega)
      have h2 := hz k (by omega)
      simp only [zs]
      omega
  have HZ : Hid (∀ i, i < n → 1 ≤ (c.pf i).z ∧ (c.pf i).z ≤ 1024) := hz
  clear hP hz
  go_enter Tryz.func93, Tryz.ntmps93
  go_wp2
  go_loopw [3, 8] (fun s i wr => ∃ k : Nat, k ≤ n ∧ i = .int .i64 k ∧ s = .int .i64 (zs c k) ∧ Below w.heap.size w wr) (fun _ i _ => n - (intOf i).toNat)
  case atStart => exact ⟨0, by omega, rfl, rfl, Below.refl _ _⟩
  case round =>
    obtain ⟨k, hk, rfl, rfl, hb⟩ := hrel
    have HB : Hid (Below w.heap.size w wr) := hb
    clear hb
    by_cases hlt : k < n
    · obtain ⟨b, off, rfl, ⟨_, c0, c1, c2, c3, c4, c5, c6, c7⟩⟩ := (HP.out.below HB.out).at' hlt
      obtain ⟨r0, r1⟩ := HR.out k hk
      obtain ⟨z0, z1⟩ := HZ.out k hlt
      have HS : Hid (zs c (k + 1) = zs c k + (c.pf k).z) := rfl
      have hb2 : Hid (∀ o, Below w.heap.size w (wr.alloc o)) := fun o => HB.out.alloc HB.out.size o
      generalize zs c k = S at *
      generalize c.pf k = y at *
      generalize ca k = qa at *
      generalize cc k = qm at *
      go_wp2
      go_roundw
      case rel => exact ⟨k + 1, by omega, by go_num, by rw [HS.out], hb2.out _⟩
      case measure => simp [intOf]; omega
    · obtain rfl : k = n := by omega
      go_wp2
      go_ret
      exact ⟨rfl, HB.out⟩
end Go.Proofs.YtkbpnkjjmipjfaaGreat
namespace Go.Proofs.YtkbpnkjjmipjfaaGreat
open Go.ChangeShapes Go.WideShapes Go.ChangeAt Go.RowKit
set_option linter.unusedVariables false

theorem Cf.Ok.part {c : Cf} (h : c.Ok) {p : Nat} (hp : p < c.pn) : POk c p := pBad_iff.1 (h.p p hp)
theorem Cf.Ok.pn8 {c : Cf} (h : c.Ok) : c.pn ≤ 8 := h.m.p2
def ow (c : Cf) (x : Int) : Nat → Option Nat
  | 0 => none
  | k + 1 => (ow c x k).or (if has (c.pf k).n (c.pf k).f x then some k else none)
def Ti (v e : Int) (w : World) (x : Ending) (w' : World) : Prop := x = .returned (.tuple #[.int .i64 v, .int .i64 e]) ∧ Below w.heap.size w w'
theorem Cb.alloc {w0 w : World} {g : Nat} {a : Ad} {c : Cf} (h : Cb w0 w g a c) (o : Obj) : Cb w0 (w.alloc o) g a c := h.below (below_new _ _)
set_option maxRecDepth 20000 in
set_option maxHeartbeats 2000000 in
theorem Total_ok {w : World} {a : Ad} {c : Cf} (hc : Cin w a c) (p : Nat) (hm : may c = true) (hp : p < c.pn) : Calls Tryz.prog 43 #[.agg #[.int .i64 c.F, .int .i64 c.C, .int .i64 c.W, .int .i64 c.S, .int .i64 c.V, .int .i64 c.T, .int .u64 c.k.l1, .int .u64 c.k.llc, .int .u64 c.k.mi, .int .u64 c.k.fa, .int .u64 c.k.st, .int .u64 c.k.di, .int .u64 c.sl, .int .u64 c.pd, .int .u64 c.ft, .slice a.ta c.tn a.tc, .slice a.pa c.pn a.pc], .int .i64 p] w (Ti ((c.pf p).n * (c.F / c.C)) 0 w) := by
  have HB0 := cb_new hc
  have hpl := hc.pl
  have hO := may_iff.1 hm
  have k := hO.part hp
  have C1 : Hid (∀ w', Cin w' a c → Calls Tryz.prog 94 #[.agg #[.int .i64 c.F, .int .i64 c.C, .int .i64 c.W, .int .i64 c.S, .int .i64 c.V, .int .i64 c.T, .int .u64 c.k.l1, .int .u64 c.k.llc, .int .u64 c.k.mi, .int .u64 c.k.fa, .int .u64 c.k.st, .int .u64 c.k.di, .int .u64 c.sl, .int .u64 c.pd, .int .u64 c.ft, .slice a.ta c.tn a.tc, .slice a.pa c.pn a.pc], .int .i64 p] w' (One (.tuple #[.agg #[.slice (a.ca p) (c.pf p).n (a.cc p), .int .i64 (c.pf p).o, .int .i64 (c.pf p).u, .int .i64 (c.pf p).t, .int .i64 (c.pf p).s, .int .i64 (c.pf p).r, .int .i64 (c.pf p).d, .int .i64 (c.pf p).z], .int .i64 0]) w')) := fun w' h => find_ok h p hm hp
  have C2 : Hid (∀ w', Cin w' a c → Calls Tryz.prog 95 #[.agg #[.int .i64 c.F, .int .i64 c.C, .int .i64 c.W, .int .i64 c.S, .int .i64 c.V, .int .i64 c.T, .int .u64 c.k.l1, .int .u64 c.k.llc, .int .u64 c.k.mi, .int .u64 c.k.fa, .int .u64 c.k.st, .int .u64 c.k.di, .int .u64 c.sl, .int .u64 c.pd, .int .u64 c.ft, .slice a.ta c.tn a.tc, .slice a.pa c.pn a.pc], .agg #[.slice (a.ca p) (c.pf p).n (a.cc p), .int .i64 (c.pf p).o, .int .i64 (c.pf p).u, .int .i64 (c.pf p).t, .int .i64 (c.pf p).s, .int .i64 (c.pf p).r, .int .i64 (c.pf p).d, .int .i64 (c.pf p).z]] w' (One (.int .i64 ((c.pf p).n * (c.F / c.C))) w')) := fun w' h => total_ok h hO.m (h.p.col hp) k.ri
  have hld := HB0.bx.ld
  clear hc hO k hm
  go_enter Tryz.func43, Tryz.ntmps43
  go_upto_region 1 with fail
  obtain ⟨W, hW, HB⟩ : ∃ W, (w.alloc (.cells #[.int .i64 c.F, .int .i64 c.C, .int .i64 c.W, .int .i64 c.S, .int .i64 c.V, .int .i64 c.T, .int .u64 c.k.l1, .int .u64 c.k.llc, .int .u64 c.k.mi, .int .u64 c.k.fa, .int .u64 c.k.st, .int .u64 c.k.di, .int .u64 c.sl, .int .u64 c.pd, .int .u64 c.ft, .slice a.ta c.tn a.tc, .slice a.pa c.pn a.pc] 28)) = W ∧ Hid (Cb w W w.heap.size a c) := ⟨_, rfl, HB0⟩
  rw [hW] at hld
  rw [hW]
  clear hW HB0
  go_wp2_with (refine wpList_load_at rfl 28 (.tmp 2) rfl _ _ rfl hld ?_)
  refine (C1.out _ HB.out.ci).mono ?_
  rintro _ w1 ⟨rfl, k1⟩
  have H1 : Hid (Cb w w1 w.heap.size a c) := HB.out.below k1
  clear HB k1 hld C1
  obtain ⟨W2, hW2, H2, hx⟩ : ∃ W2, (w1.alloc (.cells #[.slice (a.ca p) (c.pf p).n (a.cc p), .int .i64 (c.pf p).o, .int .i64 (c.pf p).u, .int .i64 (c.pf p).t, .int .i64 (c.pf p).s, .int .i64 (c.pf p).r, .int .i64 (c.pf p).d, .int .i64 (c.pf p).z] 109)) = W2 ∧ Hid (Cb w W2 w.heap.size a c) ∧ Hid (Ebx W2 w1.heap.size (a.ca p) (a.cc p) (c.pf p)) := ⟨_, rfl, H1.out.alloc _, ebx_new _ _ _ _⟩
  go_upto_region 4 with fail
  clear hW2
  have hld := H2.out.bx.ld
  have hlp := hx.out.ld
  go_wp2_with (first | refine wpList_load_at rfl 28 (.tmp 2) rfl _ _ rfl hld ?_ | refine wpList_load_at rfl 109 (.tmp 6) rfl _ _ rfl hlp ?_)
  refine (C2.out _ H2.out.ci).mono ?_
  rintro _ w3 ⟨rfl, k3⟩
  have FIN : Hid (Below w.heap.size w w3) := H2.out.be.trans (k3.mono H2.out.be.size)
  clear H1 H2 hx hld hlp k3 C2
  go_wp2
  go_ret2
  exact ⟨rfl, FIN.out⟩
set_option maxRecDepth 20000 in
set_option maxHeartbeats 2000000 in
theorem Slots_ok {w : World} {a : Ad} {c : Cf} (hc : Cin w a c) (hm : may c = true) : Calls Tryz.prog 37 #[.agg #[.int .i64 c.F, .int .i64 c.C, .int .i64 c.W, .int .i64 c.S, .int .i64 c.V, .int .i64 c.T, .int .u64 c.k.l1, .int .u64 c.k.llc, .int .u64 c.k.mi, .int .u64 c.k.fa, .int .u64 c.k.st, .int .u64 c.k.di, .int .u64 c.sl, .int .u64 c.pd, .int .u64 c.ft, .slice a.ta c.tn a.tc, .slice a.pa c.pn a.pc]] w (Ti (zs c c.pn) 0 w) := by
  have HB0 := cb_new hc
  have hpl := hc.pl
  have hO := may_iff.1 hm
  have C1 : Hid (∀ w', Cin w' a c → Calls Tryz.prog 92 #[.agg #[.int .i64 c.F, .int .i64 c.C, .int .i64 c.W, .int .i64 c.S, .int .i64 c.V, .int .i64 c.T, .int .u64 c.k.l1, .int .u64 c.k.llc, .int .u64 c.k.mi, .int .u64 c.k.fa, .int .u64 c.k.st, .int .u64 c.k.di, .int .u64 c.sl, .int .u64 c.pd, .int .u64 c.ft, .slice a.ta c.tn a.tc, .slice a.pa c.pn a.pc]] w' (One (.bool true) w')) := fun w' h => by rw [← hm]; exact May_all h
  have C2 : Hid (∀ w', Cin w' a c → Calls Tryz.prog 93 #[.slice a.pa c.pn a.pc] w' (One (.int .i64 (zs c c.pn)) w')) := fun w' h => slots_ok h.p hO.pn8 (fun i hi => ⟨(hO.part hi).z0, (hO.part hi).z1⟩)
  have hld := HB0.bx.ld
  clear hc hO
  go_enter Tryz.func37, Tryz.ntmps37
  go_upto_region 1 with fail
  obtain ⟨W, hW, HB⟩ : ∃ W, (w.alloc (.cells #[.int .i64 c.F, .int .i64 c.C, .int .i64 c.W, .int .i64 c.S, .int .i64 c.V, .int .i64 c.T, .int .u64 c.k.l1, .int .u64 c.k.llc, .int .u64 c.k.mi, .int .u64 c.k.fa, .int .u64 c.k.st, .int .u64 c.k.di, .int .u64 c.sl, .int .u64 c.pd, .int .u64 c.ft, .slice a.ta c.tn a.tc, .slice a.pa c.pn a.pc] 28)) = W ∧ Hid (Cb w W w.heap.size a c) := ⟨_, rfl, HB0⟩
  rw [hW] at hld
  rw [hW]
  clear hW HB0
  go_wp2_with (refine wpList_load_at rfl 28 (.tmp 1) rfl _ _ rfl hld ?_)
  refine (C1.out _ HB.out.ci).mono ?_
  rintro _ w1 ⟨rfl, k1⟩
  have H1 : Hid (Cb w w1 w.heap.size a c) := HB.out.below k1
  clear HB k1 hld C1
  have c16 := H1.out.bx.c16
  go_wp2_with fail
  refine (C2.out _ H1.out.ci).mono ?_
  rintro _ w3 ⟨rfl, k3⟩
  have FIN : Hid (Below w.heap.size w w3) := H1.out.be.trans (k3.mono H1.out.be.size)
  clear H1 c16 k3 C2
  go_wp2
  go_ret2
  exact ⟨rfl, FIN.out⟩
end Go.Proofs.YtkbpnkjjmipjfaaGreat
namespace Go.Proofs.YtkbpnkjjmipjfaaGreat
open Go.ChangeShapes Go.WideShapes Go.ChangeAt Go.RowKit
set_option linter.unusedVariables false

structure Fg (w0 w : World) (a : Ad) (c : Cf) (L : List Value) : Prop where
  be : Below w0.heap.size w0 w
  bx : Sev w w0.heap.size a c
  ci0 : Cin w0 a c
  rs : Blk w (w0.heap.size + 1) 230 L
end Go.Proofs.YtkbpnkjjmipjfaaGreat
