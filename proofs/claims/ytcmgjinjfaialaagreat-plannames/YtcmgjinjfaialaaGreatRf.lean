/- What the document's answer gives for costs at most: behind, Worst, Most. -/
import Derived.Test.YtcmgjinjfaialaaGreatWo
namespace Go.Proofs.YtcmgjinjfaialaaGreat
open Go.ChangeShapes Go.WideShapes Go.ChangeAt Go.RowKit
set_option linter.unusedVariables false

/-- What a kind costs at most behind entering. -/
def bh (c : Co) (s : Sh) : Nat → Int
  | 1 => 17 * c.mi
  | 2 => s.li * pag c + c.mi
  | 3 => c.mi + 16 * s.no * c.mi + s.li * pag c
  | 4 => 113 * c.mi
  | 5 => 64 * pag c
  | 6 => 64 * (c.st + c.mi)
  | 7 => max (113 * c.mi) (64 * pag c)
  | 8 => 26 * c.mi + c.fa + fin c s + c.di
  | 9 => 64 * c.mi + 2 * c.fa + 2 * fin c s + c.di
  | _ => 0
theorem ways (n : Nat) : n = 1 ∨ n = 2 ∨ n = 3 ∨ n = 4 ∨ n = 5 ∨ n = 6 ∨ n = 7 ∨ n = 8 ∨ n = 9 ∨ n = 0 ∨ 10 ≤ n := by omega
theorem bh_great (c : Co) (s : Sh) (n : Nat) (h : 10 ≤ n) : bh c s n = 0 := by
  match n, h with
  | n + 10, _ => rfl
theorem bd_bh (c : Co) (s : Sh) (n : Nat) : bd c s n = ent c s + bh c s n := by
  rcases ways n with rfl | rfl | rfl | rfl | rfl | rfl | rfl | rfl | rfl | rfl | h
  all_goals try (simp only [bd, bh] <;> omega)
  rw [bd_great c s n h, bh_great c s n h]
  exact (Int.add_zero _).symm
theorem bh_range {c : Co} {s : Sh} (h : c.Ok) (k : s.Ok) (n : Nat) : 0 ≤ bh c s n ∧ bh c s n ≤ 10000000000 := by
  obtain ⟨e0, e1, f0, f1, p0, p1, lp0, lp1, nm0, nm1, us0, us1⟩ := pt_of h k
  obtain ⟨a1, a2, a3, a4, b1, b2, d1, d2, e1', e2⟩ := h
  rcases ways n with rfl | rfl | rfl | rfl | rfl | rfl | rfl | rfl | rfl | rfl | h
  all_goals try (simp only [bh]; omega)
  rw [bh_great c s n h]
  omega
set_option maxHeartbeats 1000000 in
theorem behind1 (c : Co) (s : Sh) (h : c.Ok) (k : s.Ok)  (w : World) : Calls Tryz.prog 101 #[.agg #[.int .u64 c.l1, .int .u64 c.llc, .int .u64 c.mi, .int .u64 c.fa, .int .u64 c.st, .int .u64 c.di], .agg #[.int .i64 s.im, .int .i64 s.us, .int .i64 s.li, .int .i64 s.no], .int .u8 1] w (One (.int .u64 (bh c s 1)) w) := by
  have hb := below_two w (.cells #[.int .u64 c.l1, .int .u64 c.llc, .int .u64 c.mi, .int .u64 c.fa, .int .u64 c.st, .int .u64 c.di] 25) (.cells #[.int .i64 s.im, .int .i64 s.us, .int .i64 s.li, .int .i64 s.no] 53)
  obtain ⟨e0, e1, f0, f1, p0, p1, lp0, lp1, nm0, nm1, us0, us1⟩ := pt_of h k
  obtain ⟨a1, a2, a3, a4, b1, b2, d1, d2, e1', e2⟩ := h
  obtain ⟨im, u1, u2, l1, l2, n1, n2⟩ := k
  simp only [bh]
  unfold fin pag ent at *
  clear im
  go_enter Tryz.func101, Tryz.ntmps101
  go_wp2_with (go_quiet (fail))
  go_ret
  exact ⟨ret_int (by first | rfl | go_num), below_drewN hb _⟩
set_option maxHeartbeats 1000000 in
theorem behind2 (c : Co) (s : Sh) (h : c.Ok) (k : s.Ok)  (w : World) : Calls Tryz.prog 101 #[.agg #[.int .u64 c.l1, .int .u64 c.llc, .int .u64 c.mi, .int .u64 c.fa, .int .u64 c.st, .int .u64 c.di], .agg #[.int .i64 s.im, .int .i64 s.us, .int .i64 s.li, .int .i64 s.no], .int .u8 2] w (One (.int .u64 (bh c s 2)) w) := by
  have hb := below_two w (.cells #[.int .u64 c.l1, .int .u64 c.llc, .int .u64 c.mi, .int .u64 c.fa, .int .u64 c.st, .int .u64 c.di] 25) (.cells #[.int .i64 s.im, .int .i64 s.us, .int .i64 s.li, .int .i64 s.no] 53)
  obtain ⟨e0, e1, f0, f1, p0, p1, lp0, lp1, nm0, nm1, us0, us1⟩ := pt_of h k
  obtain ⟨a1, a2, a3, a4, b1, b2, d1, d2, e1', e2⟩ := h
  obtain ⟨im, u1, u2, l1, l2, n1, n2⟩ := k
  simp only [bh]
  unfold fin pag ent at *
  clear im
  go_enter Tryz.func101, Tryz.ntmps101
  go_wp2_with (go_quiet (fail))
  go_ret
  exact ⟨ret_int (by first | rfl | go_num), below_drewN hb _⟩
set_option maxHeartbeats 1000000 in
theorem behind3 (c : Co) (s : Sh) (h : c.Ok) (k : s.Ok)  (w : World) : Calls Tryz.prog 101 #[.agg #[.int .u64 c.l1, .int .u64 c.llc, .int .u64 c.mi, .int .u64 c.fa, .int .u64 c.st, .int .u64 c.di], .agg #[.int .i64 s.im, .int .i64 s.us, .int .i64 s.li, .int .i64 s.no], .int .u8 3] w (One (.int .u64 (bh c s 3)) w) := by
  have hb := below_two w (.cells #[.int .u64 c.l1, .int .u64 c.llc, .int .u64 c.mi, .int .u64 c.fa, .int .u64 c.st, .int .u64 c.di] 25) (.cells #[.int .i64 s.im, .int .i64 s.us, .int .i64 s.li, .int .i64 s.no] 53)
  obtain ⟨e0, e1, f0, f1, p0, p1, lp0, lp1, nm0, nm1, us0, us1⟩ := pt_of h k
  obtain ⟨a1, a2, a3, a4, b1, b2, d1, d2, e1', e2⟩ := h
  obtain ⟨im, u1, u2, l1, l2, n1, n2⟩ := k
  simp only [bh]
  unfold fin pag ent at *
  clear im
  go_enter Tryz.func101, Tryz.ntmps101
  go_wp2_with (go_quiet (fail))
  go_ret
  exact ⟨ret_int (by first | rfl | go_num), below_drewN hb _⟩
set_option maxHeartbeats 1000000 in
theorem behind4 (c : Co) (s : Sh) (h : c.Ok) (k : s.Ok)  (w : World) : Calls Tryz.prog 101 #[.agg #[.int .u64 c.l1, .int .u64 c.llc, .int .u64 c.mi, .int .u64 c.fa, .int .u64 c.st, .int .u64 c.di], .agg #[.int .i64 s.im, .int .i64 s.us, .int .i64 s.li, .int .i64 s.no], .int .u8 4] w (One (.int .u64 (bh c s 4)) w) := by
  have hb := below_two w (.cells #[.int .u64 c.l1, .int .u64 c.llc, .int .u64 c.mi, .int .u64 c.fa, .int .u64 c.st, .int .u64 c.di] 25) (.cells #[.int .i64 s.im, .int .i64 s.us, .int .i64 s.li, .int .i64 s.no] 53)
  obtain ⟨e0, e1, f0, f1, p0, p1, lp0, lp1, nm0, nm1, us0, us1⟩ := pt_of h k
  obtain ⟨a1, a2, a3, a4, b1, b2, d1, d2, e1', e2⟩ := h
  obtain ⟨im, u1, u2, l1, l2, n1, n2⟩ := k
  simp only [bh]
  unfold fin pag ent at *
  clear im
  go_enter Tryz.func101, Tryz.ntmps101
  go_wp2_with (go_quiet (fail))
  go_ret
  exact ⟨ret_int (by first | rfl | go_num), below_drewN hb _⟩
set_option maxHeartbeats 1000000 in
theorem behind5 (c : Co) (s : Sh) (h : c.Ok) (k : s.Ok)  (w : World) : Calls Tryz.prog 101 #[.agg #[.int .u64 c.l1, .int .u64 c.llc, .int .u64 c.mi, .int .u64 c.fa, .int .u64 c.st, .int .u64 c.di], .agg #[.int .i64 s.im, .int .i64 s.us, .int .i64 s.li, .int .i64 s.no], .int .u8 5] w (One (.int .u64 (bh c s 5)) w) := by
  have hb := below_two w (.cells #[.int .u64 c.l1, .int .u64 c.llc, .int .u64 c.mi, .int .u64 c.fa, .int .u64 c.st, .int .u64 c.di] 25) (.cells #[.int .i64 s.im, .int .i64 s.us, .int .i64 s.li, .int .i64 s.no] 53)
  obtain ⟨e0, e1, f0, f1, p0, p1, lp0, lp1, nm0, nm1, us0, us1⟩ := pt_of h k
  obtain ⟨a1, a2, a3, a4, b1, b2, d1, d2, e1', e2⟩ := h
  obtain ⟨im, u1, u2, l1, l2, n1, n2⟩ := k
  simp only [bh]
  unfold fin pag ent at *
  clear im
  go_enter Tryz.func101, Tryz.ntmps101
  go_wp2_with (go_quiet (fail))
  go_ret
  exact ⟨ret_int (by first | rfl | go_num), below_drewN hb _⟩
set_option maxHeartbeats 1000000 in
theorem behind6 (c : Co) (s : Sh) (h : c.Ok) (k : s.Ok)  (w : World) : Calls Tryz.prog 101 #[.agg #[.int .u64 c.l1, .int .u64 c.llc, .int .u64 c.mi, .int .u64 c.fa, .int .u64 c.st, .int .u64 c.di], .agg #[.int .i64 s.im, .int .i64 s.us, .int .i64 s.li, .int .i64 s.no], .int .u8 6] w (One (.int .u64 (bh c s 6)) w) := by
  have hb := below_two w (.cells #[.int .u64 c.l1, .int .u64 c.llc, .int .u64 c.mi, .int .u64 c.fa, .int .u64 c.st, .int .u64 c.di] 25) (.cells #[.int .i64 s.im, .int .i64 s.us, .int .i64 s.li, .int .i64 s.no] 53)
  obtain ⟨e0, e1, f0, f1, p0, p1, lp0, lp1, nm0, nm1, us0, us1⟩ := pt_of h k
  obtain ⟨a1, a2, a3, a4, b1, b2, d1, d2, e1', e2⟩ := h
  obtain ⟨im, u1, u2, l1, l2, n1, n2⟩ := k
  simp only [bh]
  unfold fin pag ent at *
  clear im
  go_enter Tryz.func101, Tryz.ntmps101
  go_wp2_with (go_quiet (fail))
  go_ret
  exact ⟨ret_int (by first | rfl | go_num), below_drewN hb _⟩
set_option maxHeartbeats 1000000 in
theorem behind8 (c : Co) (s : Sh) (h : c.Ok) (k : s.Ok)  (w : World) : Calls Tryz.prog 101 #[.agg #[.int .u64 c.l1, .int .u64 c.llc, .int .u64 c.mi, .int .u64 c.fa, .int .u64 c.st, .int .u64 c.di], .agg #[.int .i64 s.im, .int .i64 s.us, .int .i64 s.li, .int .i64 s.no], .int .u8 8] w (One (.int .u64 (bh c s 8)) w) := by
  have hb := below_two w (.cells #[.int .u64 c.l1, .int .u64 c.llc, .int .u64 c.mi, .int .u64 c.fa, .int .u64 c.st, .int .u64 c.di] 25) (.cells #[.int .i64 s.im, .int .i64 s.us, .int .i64 s.li, .int .i64 s.no] 53)
  obtain ⟨e0, e1, f0, f1, p0, p1, lp0, lp1, nm0, nm1, us0, us1⟩ := pt_of h k
  obtain ⟨a1, a2, a3, a4, b1, b2, d1, d2, e1', e2⟩ := h
  obtain ⟨im, u1, u2, l1, l2, n1, n2⟩ := k
  simp only [bh]
  unfold fin pag ent at *
  clear im
  go_enter Tryz.func101, Tryz.ntmps101
  go_wp2_with (go_quiet (fail))
  go_ret
  exact ⟨ret_int (by first | rfl | go_num), below_drewN hb _⟩
set_option maxHeartbeats 1000000 in
theorem behind9 (c : Co) (s : Sh) (h : c.Ok) (k : s.Ok)  (w : World) : Calls Tryz.prog 101 #[.agg #[.int .u64 c.l1, .int .u64 c.llc, .int .u64 c.mi, .int .u64 c.fa, .int .u64 c.st, .int .u64 c.di], .agg #[.int .i64 s.im, .int .i64 s.us, .int .i64 s.li, .int .i64 s.no], .int .u8 9] w (One (.int .u64 (bh c s 9)) w) := by
  have hb := below_two w (.cells #[.int .u64 c.l1, .int .u64 c.llc, .int .u64 c.mi, .int .u64 c.fa, .int .u64 c.st, .int .u64 c.di] 25) (.cells #[.int .i64 s.im, .int .i64 s.us, .int .i64 s.li, .int .i64 s.no] 53)
  obtain ⟨e0, e1, f0, f1, p0, p1, lp0, lp1, nm0, nm1, us0, us1⟩ := pt_of h k
  obtain ⟨a1, a2, a3, a4, b1, b2, d1, d2, e1', e2⟩ := h
  obtain ⟨im, u1, u2, l1, l2, n1, n2⟩ := k
  simp only [bh]
  unfold fin pag ent at *
  clear im
  go_enter Tryz.func101, Tryz.ntmps101
  go_wp2_with (go_quiet (fail))
  go_ret
  exact ⟨ret_int (by first | rfl | go_num), below_drewN hb _⟩
set_option maxHeartbeats 1000000 in
theorem behind0 (c : Co) (s : Sh) (h : c.Ok) (k : s.Ok)  (w : World) : Calls Tryz.prog 101 #[.agg #[.int .u64 c.l1, .int .u64 c.llc, .int .u64 c.mi, .int .u64 c.fa, .int .u64 c.st, .int .u64 c.di], .agg #[.int .i64 s.im, .int .i64 s.us, .int .i64 s.li, .int .i64 s.no], .int .u8 0] w (One (.int .u64 (bh c s 0)) w) := by
  have hb := below_two w (.cells #[.int .u64 c.l1, .int .u64 c.llc, .int .u64 c.mi, .int .u64 c.fa, .int .u64 c.st, .int .u64 c.di] 25) (.cells #[.int .i64 s.im, .int .i64 s.us, .int .i64 s.li, .int .i64 s.no] 53)
  obtain ⟨e0, e1, f0, f1, p0, p1, lp0, lp1, nm0, nm1, us0, us1⟩ := pt_of h k
  obtain ⟨a1, a2, a3, a4, b1, b2, d1, d2, e1', e2⟩ := h
  obtain ⟨im, u1, u2, l1, l2, n1, n2⟩ := k
  simp only [bh]
  unfold fin pag ent at *
  clear im
  go_enter Tryz.func101, Tryz.ntmps101
  go_wp2_with (go_quiet (fail))
  go_ret
  exact ⟨ret_int (by first | rfl | go_num), below_drewN hb _⟩
set_option maxHeartbeats 1000000 in
theorem behind10 (c : Co) (s : Sh) (h : c.Ok) (k : s.Ok) (q : Int) (hq : 10 ≤ q) (w : World) : Calls Tryz.prog 101 #[.agg #[.int .u64 c.l1, .int .u64 c.llc, .int .u64 c.mi, .int .u64 c.fa, .int .u64 c.st, .int .u64 c.di], .agg #[.int .i64 s.im, .int .i64 s.us, .int .i64 s.li, .int .i64 s.no], .int .u8 q] w (One (.int .u64 (bh c s 10)) w) := by
  have hb := below_two w (.cells #[.int .u64 c.l1, .int .u64 c.llc, .int .u64 c.mi, .int .u64 c.fa, .int .u64 c.st, .int .u64 c.di] 25) (.cells #[.int .i64 s.im, .int .i64 s.us, .int .i64 s.li, .int .i64 s.no] 53)
  obtain ⟨e0, e1, f0, f1, p0, p1, lp0, lp1, nm0, nm1, us0, us1⟩ := pt_of h k
  obtain ⟨a1, a2, a3, a4, b1, b2, d1, d2, e1', e2⟩ := h
  obtain ⟨im, u1, u2, l1, l2, n1, n2⟩ := k
  simp only [bh]
  unfold fin pag ent at *
  clear im
  go_enter Tryz.func101, Tryz.ntmps101
  go_wp2_with (go_quiet (fail))
  go_ret
  exact ⟨ret_int (by first | rfl | go_num), below_drewN hb _⟩
/-- The boxes' cells as one conjunction. -/
def Sx (w : World) (b b' : Nat) (c : Co) (s : Sh) : Prop := w.cell? ⟨b, 0, none⟩ = some (.int .u64 c.l1) ∧ w.cell? ⟨b, 1, none⟩ = some (.int .u64 c.llc) ∧ w.cell? ⟨b, 2, none⟩ = some (.int .u64 c.mi) ∧ w.cell? ⟨b, 3, none⟩ = some (.int .u64 c.fa) ∧ w.cell? ⟨b, 4, none⟩ = some (.int .u64 c.st) ∧ w.cell? ⟨b, 5, none⟩ = some (.int .u64 c.di) ∧ w.cell? ⟨b', 0, none⟩ = some (.int .i64 s.im) ∧ w.cell? ⟨b', 1, none⟩ = some (.int .i64 s.us) ∧ w.cell? ⟨b', 2, none⟩ = some (.int .i64 s.li) ∧ w.cell? ⟨b', 3, none⟩ = some (.int .i64 s.no)
theorem Bx.sx {w0 w : World} {b b' : Nat} {c : Co} {s : Sh} (h : Bx w0 w b b' c s) : Sx w b b' c s := ⟨h.cs.c0, h.cs.c1, h.cs.c2, h.cs.c3, h.cs.c4, h.cs.c5, h.ss.c0, h.ss.c1, h.ss.c2, h.ss.c3⟩
set_option maxRecDepth 20000 in
set_option maxHeartbeats 1000000 in
theorem behind7 (c : Co) (s : Sh) (h : c.Ok) (k : s.Ok) (w : World) : Calls Tryz.prog 101 #[.agg #[.int .u64 c.l1, .int .u64 c.llc, .int .u64 c.mi, .int .u64 c.fa, .int .u64 c.st, .int .u64 c.di], .agg #[.int .i64 s.im, .int .i64 s.us, .int .i64 s.li, .int .i64 s.no], .int .u8 7] w (One (.int .u64 (bh c s 7)) w) := by
  obtain ⟨f, hf, CC⟩ : ∃ f : Int → Int, bh c s 7 = max (f 4) (f 5) ∧ Hid (∀ q w, (q = 4 ∨ q = 5) → Calls Tryz.prog 101 #[.agg #[.int .u64 c.l1, .int .u64 c.llc, .int .u64 c.mi, .int .u64 c.fa, .int .u64 c.st, .int .u64 c.di], .agg #[.int .i64 s.im, .int .i64 s.us, .int .i64 s.li, .int .i64 s.no], .int .u8 q] w (One (.int .u64 (f q)) w)) :=
    ⟨fun q => bh c s q.toNat, rfl, fun q w hq => by
      rcases hq with rfl | rfl
      · exact behind4 c s h k w
      · exact behind5 c s h k w⟩
  rw [hf]
  clear hf
  obtain ⟨e0, e1, f0, f1, p0, p1, lp0, lp1, nm0, nm1, us0, us1⟩ := pt_of h k
  obtain ⟨a1, a2, a3, a4, b1, b2, d1, d2, e1', e2⟩ := h
  obtain ⟨im, u1, u2, l1, l2, n1, n2⟩ := k
  unfold fin pag ent at *
  clear im
  go_enter Tryz.func101, Tryz.ntmps101
  go_upto_region 18 with (go_quiet (fail))
  obtain ⟨W, hW, B0⟩ : ∃ W, ((w.alloc (.cells #[.int .u64 c.l1, .int .u64 c.llc, .int .u64 c.mi, .int .u64 c.fa, .int .u64 c.st, .int .u64 c.di] 25)).alloc (.cells #[.int .i64 s.im, .int .i64 s.us, .int .i64 s.li, .int .i64 s.no] 53)) = W ∧ Hid (∀ n, Bx w (W.drewN n) w.heap.size (w.heap.size + 1) c s) := ⟨_, rfl, fun n => (bx_new w c s).below (below_drewN (Below.refl _ _) n)⟩
  rw [hW]
  clear hW e0 e1 f0 f1 p0 p1 lp0 lp1 nm0 nm1 us0 us1 a1 a2 a3 a4 b1 b2 d1 d2 e1' e2 u1 u2 l1 l2 n1 n2
  go_region_held3 (fun W => W.cell? ⟨w.heap.size, 0, none⟩ = some (.int .u64 c.l1) ∧ W.cell? ⟨w.heap.size, 1, none⟩ = some (.int .u64 c.llc) ∧ W.cell? ⟨w.heap.size, 2, none⟩ = some (.int .u64 c.mi) ∧ W.cell? ⟨w.heap.size, 3, none⟩ = some (.int .u64 c.fa) ∧ W.cell? ⟨w.heap.size, 4, none⟩ = some (.int .u64 c.st) ∧ W.cell? ⟨w.heap.size, 5, none⟩ = some (.int .u64 c.di) ∧ W.cell? ⟨w.heap.size + 1, 0, none⟩ = some (.int .i64 s.im) ∧ W.cell? ⟨w.heap.size + 1, 1, none⟩ = some (.int .i64 s.us) ∧ W.cell? ⟨w.heap.size + 1, 2, none⟩ = some (.int .i64 s.li) ∧ W.cell? ⟨w.heap.size + 1, 3, none⟩ = some (.int .i64 s.no))
    (first | exact B4.out.sx | exact B3.out.sx | exact ((B0.out _).below (below_drew _ _)).sx)
    (first
      | (go_at_call 101; refine (CC.out _ _ (by decide)).mono ?_; rintro e w3 ⟨rfl, k3⟩; first | (have B4 : Hid (Bx w w3 w.heap.size (w.heap.size + 1) c s) := B3.out.below k3; clear k3) | (have B3 : Hid (Bx w w3 w.heap.size (w.heap.size + 1) c s) := ((B0.out _).below (below_drew _ _)).below k3; clear k3)))
  clear B0 B3
  all_goals go_wp2
  all_goals (go_ret; exact ⟨ret_int (by omega), B4.out.be⟩)
theorem behind_any (c : Co) (s : Sh) (h : c.Ok) (k : s.Ok) (q : Int) (h0 : 0 ≤ q) (w : World) : Calls Tryz.prog 101 #[.agg #[.int .u64 c.l1, .int .u64 c.llc, .int .u64 c.mi, .int .u64 c.fa, .int .u64 c.st, .int .u64 c.di], .agg #[.int .i64 s.im, .int .i64 s.us, .int .i64 s.li, .int .i64 s.no], .int .u8 q] w (One (.int .u64 (bh c s q.toNat)) w) := by
  by_cases hq : 10 ≤ q
  · rw [bh_great c s q.toNat (by omega)]
    exact behind10 c s h k q hq w
  · obtain rfl | rfl | rfl | rfl | rfl | rfl | rfl | rfl | rfl | rfl : q = 0 ∨ q = 1 ∨ q = 2 ∨ q = 3 ∨ q = 4 ∨ q = 5 ∨ q = 6 ∨ q = 7 ∨ q = 8 ∨ q = 9 := by omega
    · exact behind0 c s h k w
    · exact behind1 c s h k w
    · exact behind2 c s h k w
    · exact behind3 c s h k w
    · exact behind4 c s h k w
    · exact behind5 c s h k w
    · exact behind6 c s h k w
    · exact behind7 c s h k w
    · exact behind8 c s h k w
    · exact behind9 c s h k w
theorem rWorst_cost (c : Co) (s : Sh) (q : Int) (h : okC c = false) (w : World) : Calls Tryz.prog 94 #[.agg #[.int .u64 c.l1, .int .u64 c.llc, .int .u64 c.mi, .int .u64 c.fa, .int .u64 c.st, .int .u64 c.di], .agg #[.int .i64 s.im, .int .i64 s.us, .int .i64 s.li, .int .i64 s.no], .int .u8 q] w (Two 0 100 w) := by
  have hb := below_two w (.cells #[.int .u64 c.l1, .int .u64 c.llc, .int .u64 c.mi, .int .u64 c.fa, .int .u64 c.st, .int .u64 c.di] 25) (.cells #[.int .i64 s.im, .int .i64 s.us, .int .i64 s.li, .int .i64 s.no] 53)
  have C := rCheck_any c ((w.alloc (.cells #[.int .u64 c.l1, .int .u64 c.llc, .int .u64 c.mi, .int .u64 c.fa, .int .u64 c.st, .int .u64 c.di] 25)).alloc (.cells #[.int .i64 s.im, .int .i64 s.us, .int .i64 s.li, .int .i64 s.no] 53))
  rw [er_f h] at C
  clear h
  go_enter Tryz.func94, Tryz.ntmps94
  go_wp2_with fail
  refine C.mono ?_
  rintro e w1 ⟨rfl, k⟩
  clear C
  go_wp2
  go_ret2
  exact ⟨rfl, hb.trans (k.mono (by simp; omega))⟩
theorem rWorst_arg (c : Co) (s : Sh) (q : Int) (h : okC c = true) (h' : okS s = false) (w : World) : Calls Tryz.prog 94 #[.agg #[.int .u64 c.l1, .int .u64 c.llc, .int .u64 c.mi, .int .u64 c.fa, .int .u64 c.st, .int .u64 c.di], .agg #[.int .i64 s.im, .int .i64 s.us, .int .i64 s.li, .int .i64 s.no], .int .u8 q] w (Two 0 2 w) := by
  have B0 : Hid (Bx w ((w.alloc (.cells #[.int .u64 c.l1, .int .u64 c.llc, .int .u64 c.mi, .int .u64 c.fa, .int .u64 c.st, .int .u64 c.di] 25)).alloc (.cells #[.int .i64 s.im, .int .i64 s.us, .int .i64 s.li, .int .i64 s.no] 53)) w.heap.size (w.heap.size + 1) c s) := bx_new w c s
  have C := rCheck_any c ((w.alloc (.cells #[.int .u64 c.l1, .int .u64 c.llc, .int .u64 c.mi, .int .u64 c.fa, .int .u64 c.st, .int .u64 c.di] 25)).alloc (.cells #[.int .i64 s.im, .int .i64 s.us, .int .i64 s.li, .int .i64 s.no] 53))
  have C2 : Hid (∀ w, Calls Tryz.prog 100 #[.agg #[.int .i64 s.im, .int .i64 s.us, .int .i64 s.li, .int .i64 s.no]] w (One (.bool (okS s)) w)) := fun w => May_any s w
  rw [er_t h] at C
  rw [h'] at C2
  clear h h'
  go_enter Tryz.func94, Tryz.ntmps94
  go_wp2_with fail
  refine C.mono ?_
  rintro e w1 ⟨rfl, k1⟩
  have B1 : Hid (Bx w w1 w.heap.size (w.heap.size + 1) c s) := B0.out.below k1
  obtain ⟨_, s0, s1, s2, s3⟩ := B1.out.ss
  clear C B0 k1
  go_wp2_with fail
  refine (C2.out _).mono ?_
  rintro e w2 ⟨rfl, k2⟩
  have FIN : Hid (Below w.heap.size w w2) := B1.out.be.trans (k2.mono B1.out.be.size)
  clear C2 k2 B1 s0 s1 s2 s3
  go_wp2
  go_ret2
  exact ⟨rfl, FIN.out⟩
set_option maxHeartbeats 1000000 in
theorem rWorst_ok (c : Co) (s : Sh) (h : c.Ok) (k : s.Ok) (q : Int) (h0 : 0 ≤ q) (w : World) : Calls Tryz.prog 94 #[.agg #[.int .u64 c.l1, .int .u64 c.llc, .int .u64 c.mi, .int .u64 c.fa, .int .u64 c.st, .int .u64 c.di], .agg #[.int .i64 s.im, .int .i64 s.us, .int .i64 s.li, .int .i64 s.no], .int .u8 q] w (Two (bd c s q.toNat) 0 w) := by
  have B0 : Hid (Bx w ((w.alloc (.cells #[.int .u64 c.l1, .int .u64 c.llc, .int .u64 c.mi, .int .u64 c.fa, .int .u64 c.st, .int .u64 c.di] 25)).alloc (.cells #[.int .i64 s.im, .int .i64 s.us, .int .i64 s.li, .int .i64 s.no] 53)) w.heap.size (w.heap.size + 1) c s) := bx_new w c s
  have C := rCheck_any c ((w.alloc (.cells #[.int .u64 c.l1, .int .u64 c.llc, .int .u64 c.mi, .int .u64 c.fa, .int .u64 c.st, .int .u64 c.di] 25)).alloc (.cells #[.int .i64 s.im, .int .i64 s.us, .int .i64 s.li, .int .i64 s.no] 53))
  have C2 : Hid (∀ w, Calls Tryz.prog 100 #[.agg #[.int .i64 s.im, .int .i64 s.us, .int .i64 s.li, .int .i64 s.no]] w (One (.bool (okS s)) w)) := fun w => May_any s w
  have C3 : Hid (∀ w, Calls Tryz.prog 101 #[.agg #[.int .u64 c.l1, .int .u64 c.llc, .int .u64 c.mi, .int .u64 c.fa, .int .u64 c.st, .int .u64 c.di], .agg #[.int .i64 s.im, .int .i64 s.us, .int .i64 s.li, .int .i64 s.no], .int .u8 q] w (One (.int .u64 (bh c s q.toNat)) w)) := fun w => behind_any c s h k q h0 w
  rw [er_t (okC_iff.2 h)] at C
  rw [okS_iff.2 k] at C2
  have p := pt_of h k
  have r := bh_range h k q.toNat
  rw [bd_bh]
  have e0 := p.e0
  have e1 := p.e1
  have m0 := h.a4
  have m1 := h.a1
  have m2 := h.a2
  have m3 := h.a3
  have i0 : 1 ≤ s.im := by have := k.im; omega
  have i1 : s.im ≤ 8 := by have := k.im; omega
  generalize bh c s q.toNat = x at *
  unfold ent at *
  clear p h k
  go_enter Tryz.func94, Tryz.ntmps94
  go_wp2_with fail
  refine C.mono ?_
  rintro e w1 ⟨rfl, k1⟩
  have B1 : Hid (Bx w w1 w.heap.size (w.heap.size + 1) c s) := B0.out.below k1
  obtain ⟨_, s0, s1, s2, s3⟩ := B1.out.ss
  clear C B0 k1
  go_wp2_with fail
  refine (C2.out _).mono ?_
  rintro e w2 ⟨rfl, k2⟩
  have B2 : Hid (Bx w w2 w.heap.size (w.heap.size + 1) c s) := B1.out.below k2
  clear C2 k2 B1 s0 s1 s2 s3
  go_wp2_with fail
  go_region_held3 (fun W => W.cell? ⟨w.heap.size, 0, none⟩ = some (.int .u64 c.l1) ∧ W.cell? ⟨w.heap.size, 1, none⟩ = some (.int .u64 c.llc) ∧ W.cell? ⟨w.heap.size, 2, none⟩ = some (.int .u64 c.mi) ∧ W.cell? ⟨w.heap.size, 3, none⟩ = some (.int .u64 c.fa) ∧ W.cell? ⟨w.heap.size, 4, none⟩ = some (.int .u64 c.st) ∧ W.cell? ⟨w.heap.size, 5, none⟩ = some (.int .u64 c.di) ∧ W.cell? ⟨w.heap.size + 1, 0, none⟩ = some (.int .i64 s.im) ∧ W.cell? ⟨w.heap.size + 1, 1, none⟩ = some (.int .i64 s.us) ∧ W.cell? ⟨w.heap.size + 1, 2, none⟩ = some (.int .i64 s.li) ∧ W.cell? ⟨w.heap.size + 1, 3, none⟩ = some (.int .i64 s.no))
    (first | exact B3.out.sx | exact (B2.out.below (below_drew _ _)).sx)
    (first
      | (go_at_call 101; refine (C3.out _).mono ?_; rintro e w3 ⟨rfl, k3⟩; have B3 : Hid (Bx w w3 w.heap.size (w.heap.size + 1) c s) := (B2.out.below (below_drew _ _)).below k3; clear k3))
  clear B2
  all_goals go_wp2
  all_goals (go_ret2; refine ⟨ret_two ?_ rfl, B3.out.be⟩; simp (disch := omega) only [IntWalk.u64_in])
end Go.Proofs.YtcmgjinjfaialaaGreat
