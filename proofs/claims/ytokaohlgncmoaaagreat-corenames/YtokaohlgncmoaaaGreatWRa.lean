/- What the document's answer gives for costs at most: behind, Worst, Most. -/
import Derived.Test.YtokaohlgncmoaaaGreatWWo
import Derived.Test.YtokaohlgncmoaaaGreatWPa
namespace Go.Proofs.YtokaohlgncmoaaaGreat
open Go.ChangeShapes Go.WideShapes Go.ChangeAt Go.RowKit
set_option linter.unusedVariables false

def bh (c : Co) (s : Sh) : Nat → Int
  | 1 => 17 * c.mi
  | 2 => s.li * pag c + c.mi
  | 3 => c.mi + 16 * s.no * c.mi + s.li * pag c
  | 4 => 113 * c.mi
  | 5 => 64 * pag c
  | 6 => 64 * (c.st + c.mi)
  | 7 => max (113 * c.mi) (64 * pag c)
  | 8 => 26 * c.mi + c.fa + fin c s + c.di
  | 9 => 64 * c.mi + 2 * c.fa + 2 * fin c s + c.di
  | _ => 0
theorem ways (n : Nat) : n = 1 ∨ n = 2 ∨ n = 3 ∨ n = 4 ∨ n = 5 ∨ n = 6 ∨ n = 7 ∨ n = 8 ∨ n = 9 ∨ n = 0 ∨ 10 ≤ n := by omega
theorem bh_great (c : Co) (s : Sh) (n : Nat) (h : 10 ≤ n) : bh c s n = 0 := by
  match n, h with
  | n + 10, _ => rfl
theorem bd_bh (c : Co) (s : Sh) (n : Nat) : bd c s n = ent c s + bh c s n := by
  rcases ways n with rfl | rfl | rfl | rfl | rfl | rfl | rfl | rfl | rfl | rfl | h
  all_goals try (simp only [bd, bh] <;> omega)
  rw [bd_great c s n h, bh_great c s n h]
  exact (Int.add_zero _).symm
theorem bh_range {c : Co} {s : Sh} (h : c.Ok) (k : s.Ok) (n : Nat) : 0 ≤ bh c s n ∧ bh c s n ≤ 10000000000 := by
  obtain ⟨e0, e1, f0, f1, p0, p1, lp0, lp1, nm0, nm1, us0, us1⟩ := pt_of h k
  obtain ⟨a1, a2, a3, a4, b1, b2, d1, d2, e1', e2⟩ := h
  rcases ways n with rfl | rfl | rfl | rfl | rfl | rfl | rfl | rfl | rfl | rfl | h
  all_goals try (simp only [bh]; omega)
  rw [bh_great c s n h]
  omega
set_option maxHeartbeats 1000000 in
theorem behind1 (c : Co) (s : Sh) (h : c.Ok) (k : s.Ok)  (w : World) : Calls Tryz.prog 167 #[.agg #[.int .u64 c.l1, .int .u64 c.llc, .int .u64 c.mi, .int .u64 c.fa, .int .u64 c.st, .int .u64 c.di], .agg #[.int .i64 s.im, .int .i64 s.us, .int .i64 s.li, .int .i64 s.no], .int .u8 1] w (One (.int .u64 (bh c s 1)) w) := by
  have hb := below_two w (.cells #[.int .u64 c.l1, .int .u64 c.llc, .int .u64 c.mi, .int .u64 c.fa, .int .u64 c.st, .int .u64 c.di] 24) (.cells #[.int .i64 s.im, .int .i64 s.us, .int .i64 s.li, .int .i64 s.no] 177)
  obtain ⟨e0, e1, f0, f1, p0, p1, lp0, lp1, nm0, nm1, us0, us1⟩ := pt_of h k
  obtain ⟨a1, a2, a3, a4, b1, b2, d1, d2, e1', e2⟩ := h
  obtain ⟨im, u1, u2, l1, l2, n1, n2⟩ := k
  simp only [bh]
  unfold fin pag ent at *
  clear im
  go_enter Tryz.func167, Tryz.ntmps167
  go_wp2_with (go_quiet (fail))
  go_ret
  exact ⟨ret_int (by first | rfl | go_num), below_drewN hb _⟩
set_option maxHeartbeats 1000000 in
theorem behind2 (c : Co) (s : Sh) (h : c.Ok) (k : s.Ok)  (w : World) : Calls Tryz.prog 167 #[.agg #[.int .u64 c.l1, .int .u64 c.llc, .int .u64 c.mi, .int .u64 c.fa, .int .u64 c.st, .int .u64 c.di], .agg #[.int .i64 s.im, .int .i64 s.us, .int .i64 s.li, .int .i64 s.no], .int .u8 2] w (One (.int .u64 (bh c s 2)) w) := by
  have hb := below_two w (.cells #[.int .u64 c.l1, .int .u64 c.llc, .int .u64 c.mi, .int .u64 c.fa, .int .u64 c.st, .int .u64 c.di] 24) (.cells #[.int .i64 s.im, .int .i64 s.us, .int .i64 s.li, .int .i64 s.no] 177)
  obtain ⟨e0, e1, f0, f1, p0, p1, lp0, lp1, nm0, nm1, us0, us1⟩ := pt_of h k
  obtain ⟨a1, a2, a3, a4, b1, b2, d1, d2, e1', e2⟩ := h
  obtain ⟨im, u1, u2, l1, l2, n1, n2⟩ := k
  simp only [bh]
  unfold fin pag ent at *
  clear im
  go_enter Tryz.func167, Tryz.ntmps167
  go_wp2_with (go_quiet (fail))
  go_ret
  exact ⟨ret_int (by first | rfl | go_num), below_drewN hb _⟩
set_option maxHeartbeats 1000000 in
theorem behind3 (c : Co) (s : Sh) (h : c.Ok) (k : s.Ok)  (w : World) : Calls Tryz.prog 167 #[.agg #[.int .u64 c.l1, .int .u64 c.llc, .int .u64 c.mi, .int .u64 c.fa, .int .u64 c.st, .int .u64 c.di], .agg #[.int .i64 s.im, .int .i64 s.us, .int .i64 s.li, .int .i64 s.no], .int .u8 3] w (One (.int .u64 (bh c s 3)) w) := by
  have hb := below_two w (.cells #[.int .u64 c.l1, .int .u64 c.llc, .int .u64 c.mi, .int .u64 c.fa, .int .u64 c.st, .int .u64 c.di] 24) (.cells #[.int .i64 s.im, .int .i64 s.us, .int .i64 s.li, .int .i64 s.no] 177)
  obtain ⟨e0, e1, f0, f1, p0, p1, lp0, lp1, nm0, nm1, us0, us1⟩ := pt_of h k
  obtain ⟨a1, a2, a3, a4, b1, b2, d1, d2, e1', e2⟩ := h
  obtain ⟨im, u1, u2, l1, l2, n1, n2⟩ := k
  simp only [bh]
  unfold fin pag ent at *
  clear im
  go_enter Tryz.func167, Tryz.ntmps167
  go_wp2_with (go_quiet (fail))
  go_ret
  exact ⟨ret_int (by first | rfl | go_num), below_drewN hb _⟩
set_option maxHeartbeats 1000000 in
theorem behind4 (c : Co) (s : Sh) (h : c.Ok) (k : s.Ok)  (w : World) : Calls Tryz.prog 167 #[.agg #[.int .u64 c.l1, .int .u64 c.llc, .int .u64 c.mi, .int .u64 c.fa, .int .u64 c.st, .int .u64 c.di], .agg #[.int .i64 s.im, .int .i64 s.us, .int .i64 s.li, .int .i64 s.no], .int .u8 4] w (One (.int .u64 (bh c s 4)) w) := by
  have hb := below_two w (.cells #[.int .u64 c.l1, .int .u64 c.llc, .int .u64 c.mi, .int .u64 c.fa, .int .u64 c.st, .int .u64 c.di] 24) (.cells #[.int .i64 s.im, .int .i64 s.us, .int .i64 s.li, .int .i64 s.no] 177)
  obtain ⟨e0, e1, f0, f1, p0, p1, lp0, lp1, nm0, nm1, us0, us1⟩ := pt_of h k
  obtain ⟨a1, a2, a3, a4, b1, b2, d1, d2, e1', e2⟩ := h
  obtain ⟨im, u1, u2, l1, l2, n1, n2⟩ := k
  simp only [bh]
  unfold fin pag ent at *
  clear im
  go_enter Tryz.func167, Tryz.ntmps167
  go_wp2_with (go_quiet (fail))
  go_ret
  exact ⟨ret_int (by first | rfl | go_num), below_drewN hb _⟩
set_option maxHeartbeats 1000000 in
theorem behind5 (c : Co) (s : Sh) (h : c.Ok) (k : s.Ok)  (w : World) : Calls Tryz.prog 167 #[.agg #[.int .u64 c.l1, .int .u64 c.llc, .int .u64 c.mi, .int .u64 c.fa, .int .u64 c.st, .int .u64 c.di], .agg #[.int .i64 s.im, .int .i64 s.us, .int .i64 s.li, .int .i64 s.no], .int .u8 5] w (One (.int .u64 (bh c s 5)) w) := by
  have hb := below_two w (.cells #[.int .u64 c.l1, .int .u64 c.llc, .int .u64 c.mi, .int .u64 c.fa, .int .u64 c.st, .int .u64 c.di] 24) (.cells #[.int .i64 s.im, .int .i64 s.us, .int .i64 s.li, .int .i64 s.no] 177)
  obtain ⟨e0, e1, f0, f1, p0, p1, lp0, lp1, nm0, nm1, us0, us1⟩ := pt_of h k
  obtain ⟨a1, a2, a3, a4, b1, b2, d1, d2, e1', e2⟩ := h
  obtain ⟨im, u1, u2, l1, l2, n1, n2⟩ := k
  simp only [bh]
  unfold fin pag ent at *
  clear im
  go_enter Tryz.func167, Tryz.ntmps167
  go_wp2_with (go_quiet (fail))
  go_ret
  exact ⟨ret_int (by first | rfl | go_num), below_drewN hb _⟩
set_option maxHeartbeats 1000000 in
theorem behind6 (c : Co) (s : Sh) (h : c.Ok) (k : s.Ok)  (w : World) : Calls Tryz.prog 167 #[.agg #[.int .u64 c.l1, .int .u64 c.llc, .int .u64 c.mi, .int .u64 c.fa, .int .u64 c.st, .int .u64 c.di], .agg #[.int .i64 s.im, .int .i64 s.us, .int .i64 s.li, .int .i64 s.no], .int .u8 6] w (One (.int .u64 (bh c s 6)) w) := by
  have hb := below_two w (.cells #[.int .u64 c.l1, .int .u64 c.llc, .int .u64 c.mi, .int .u64 c.fa, .int .u64 c.st, .int .u64 c.di] 24) (.cells #[.int .i64 s.im, .int .i64 s.us, .int .i64 s.li, .int .i64 s.no] 177)
  obtain ⟨e0, e1, f0, f1, p0, p1, lp0, lp1, nm0, nm1, us0, us1⟩ := pt_of h k
  obtain ⟨a1, a2, a3, a4, b1, b2, d1, d2, e1', e2⟩ := h
  obtain ⟨im, u1, u2, l1, l2, n1, n2⟩ := k
  simp only [bh]
  unfold fin pag ent at *
  clear im
  go_enter Tryz.func167, Tryz.ntmps167
  go_wp2_with (go_quiet (fail))
  go_ret
  exact ⟨ret_int (by first | rfl | go_num), below_drewN hb _⟩
set_option maxHeartbeats 1000000 in
theorem behind8 (c : Co) (s : Sh) (h : c.Ok) (k : s.Ok)  (w : World) : Calls Tryz.prog 167 #[.agg #[.int .u64 c.l1, .int .u64 c.llc, .int .u64 c.mi, .int .u64 c.fa, .int .u64 c.st, .int .u64 c.di], .agg #[.int .i64 s.im, .int .i64 s.us, .int .i64 s.li, .int .i64 s.no], .int .u8 8] w (One (.int .u64 (bh c s 8)) w) := by
  have hb := below_two w (.cells #[.int .u64 c.l1, .int .u64 c.llc, .int .u64 c.mi, .int .u64 c.fa, .int .u64 c.st, .int .u64 c.di] 24) (.cells #[.int .i64 s.im, .int .i64 s.us, .int .i64 s.li, .int .i64 s.no] 177)
  obtain ⟨e0, e1, f0, f1, p0, p1, lp0, lp1, nm0, nm1, us0, us1⟩ := pt_of h k
  obtain ⟨a1, a2, a3, a4, b1, b2, d1, d2, e1', e2⟩ := h
  obtain ⟨im, u1, u2, l1, l2, n1, n2⟩ := k
  simp only [bh]
  unfold fin pag ent at *
  clear im
  go_enter Tryz.func167, Tryz.ntmps167
  go_wp2_with (go_quiet (fail))
  go_ret
  exact ⟨ret_int (by first | rfl | go_num), below_drewN hb _⟩
set_option maxHeartbeats 1000000 in
theorem behind9 (c : Co) (s : Sh) (h : c.Ok) (k : s.Ok)  (w : World) : Calls Tryz.prog 167 #[.agg #[.int .u64 c.l1, .int .u64 c.llc, .int .u64 c.mi, .int .u64 c.fa, .int .u64 c.st, .int .u64 c.di], .agg #[.int .i64 s.im, .int .i64 s.us, .int .i64 s.li, .int .i64 s.no], .int .u8 9] w (One (.int .u64 (bh c s 9)) w) := by
  have hb := below_two w (.cells #[.int .u64 c.l1, .int .u64 c.llc, .int .u64 c.mi, .int .u64 c.fa, .int .u64 c.st, .int .u64 c.di] 24) (.cells #[.int .i64 s.im, .int .i64 s.us, .int .i64 s.li, .int .i64 s.no] 177)
  obtain ⟨e0, e1, f0, f1, p0, p1, lp0, lp1, nm0, nm1, us0, us1⟩ := pt_of h k
  obtain ⟨a1, a2, a3, a4, b1, b2, d1, d2, e1', e2⟩ := h
  obtain ⟨im, u1, u2, l1, l2, n1, n2⟩ := k
  simp only [bh]
  unfold fin pag ent at *
  clear im
  go_enter Tryz.func167, Tryz.ntmps167
  go_wp2_with (go_quiet (fail))
  go_ret
  exact ⟨ret_int (by first | rfl | go_num), below_drewN hb _⟩
set_option maxHeartbeats 1000000 in
theorem behind0 (c : Co) (s : Sh) (h : c.Ok) (k : s.Ok)  (w : World) : Calls Tryz.prog 167 #[.agg #[.int .u64 c.l1, .int .u64 c.llc, .int .u64 c.mi, .int .u64 c.fa, .int .u64 c.st, .int .u64 c.di], .agg #[.int .i64 s.im, .int .i64 s.us, .int .i64 s.li, .int .i64 s.no], .int .u8 0] w (One (.int .u64 (bh c s 0)) w) := by
  have hb := below_two w (.cells #[.int .u64 c.l1, .int .u64 c.llc, .int .u64 c.mi, .int .u64 c.fa, .int .u64 c.st, .int .u64 c.di] 24) (.cells #[.int .i64 s.im, .int .i64 s.us, .int .i64 s.li, .int .i64 s.no] 177)
  obtain ⟨e0, e1, f0, f1, p0, p1, lp0, lp1, nm0, nm1, us0, us1⟩ := pt_of h k
  obtain ⟨a1, a2, a3, a4, b1, b2, d1, d2, e1', e2⟩ := h
  obtain ⟨im, u1, u2, l1, l2, n1, n2⟩ := k
  simp only [bh]
  unfold fin pag ent at *
  clear im
  go_enter Tryz.func167, Tryz.ntmps167
  go_wp2_with (go_quiet (fail))
  go_ret
  exact ⟨ret_int (by first | rfl | go_num), below_drewN hb _⟩
set_option maxHeartbeats 1000000 in
theorem behind10 (c : Co) (s : Sh) (h : c.Ok) (k : s.Ok) (q : Int) (hq : 10 ≤ q) (w : World) : Calls Tryz.prog 167 #[.agg #[.int .u64 c.l1, .int .u64 c.llc, .int .u64 c.mi, .int .u64 c.fa, .int .u64 c.st, .int .u64 c.di], .agg #[.int .i64 s.im, .int .i64 s.us, .int .i64 s.li, .int .i64 s.no], .int .u8 q] w (One (.int .u64 (bh c s 10)) w) := by
  have hb := below_two w (.cells #[.int .u64 c.l1, .int .u64 c.llc, .int .u64 c.mi, .int .u64 c.fa, .int .u64 c.st, .int .u64 c.di] 24) (.cells #[.int .i64 s.im, .int .i64 s.us, .int .i64 s.li, .int .i64 s.no] 177)
  obtain ⟨e0, e1, f0, f1, p0, p1, lp0, lp1, nm0, nm1, us0, us1⟩ := pt_of h k
  obtain ⟨a1, a2, a3, a4, b1, b2, d1, d2, e1', e2⟩ := h
  obtain ⟨im, u1, u2, l1, l2, n1, n2⟩ := k
  simp only [bh]
  unfold fin pag ent at *
  clear im
  go_enter Tryz.func167, Tryz.ntmps167
  go_wp2_with (go_quiet (fail))
  go_ret
  exact ⟨ret_int (by first | rfl | go_num), below_drewN hb _⟩
def Sx (w : World) (b b' : Nat) (c : Co) (s : Sh) : Prop := w.cell? ⟨b, 0, none⟩ = some (.int .u64 c.l1) ∧ w.cell? ⟨b, 1, none⟩ = some (.int .u64 c.llc) ∧ w.cell? ⟨b, 2, none⟩ = some (.int .u64 c.mi) ∧ w.cell? ⟨b, 3, none⟩ = some (.int .u64 c.fa) ∧ w.cell? ⟨b, 4, none⟩ = some (.int .u64 c.st) ∧ w.cell? ⟨b, 5, none⟩ = some (.int .u64 c.di) ∧ w.cell? ⟨b', 0, none⟩ = some (.int .i64 s.im) ∧ w.cell? ⟨b', 1, none⟩ = some (.int .i64 s.us) ∧ w.cell? ⟨b', 2, none⟩ = some (.int .i64 s.li) ∧ w.cell? ⟨b', 3, none⟩ = some (.int .i64 s.no)
theorem Bx.sx {w0 w : World} {b b' : Nat} {c : Co} {s : Sh} (h : Bx w0 w b b' c s) : Sx w b b' c s := ⟨h.cs.c0, h.cs.c1, h.cs.c2, h.cs.c3, h.cs.c4, h.cs.c5, h.ss.c0, h.ss.c1, h.ss.c2, h.ss.c3⟩
set_option maxRecDepth 20000 in
set_option maxHeartbeats 1000000 in
theorem behind7 (c : Co) (s : Sh) (h : c.Ok) (k : s.Ok) (w : World) : Calls Tryz.prog 167 #[.agg #[.int .u64 c.l1, .int .u64 c.llc, .int .u64 c.mi, .int .u64 c.fa, .int .u64 c.st, .int .u64 c.di], .agg #[.int .i64 s.im, .int .i64 s.us, .int .i64 s.li, .int .i64 s.no], .int .u8 7] w (One (.int .u64 (bh c s 7)) w) := by
  obtain ⟨f, hf, CC⟩ : ∃ f : Int → Int, bh c s 7 = max (f 4) (f 5) ∧ Hid (∀ q w, (q = 4 ∨ q = 5) → Calls Tryz.prog 167 #[.agg #[.int .u64 c.l1, .int .u64 c.llc, .int .u64 c.mi, .int .u64 c.fa, .int .u64 c.st, .int .u64 c.di], .agg #[.int .i64 s.im, .int .i64 s.us, .int .i64 s.li, .int .i64 s.no], .int .u8 q] w (One (.int .u64 (f q)) w)) :=
    ⟨fun q => bh c s q.toNat, rfl, fun q w hq => by
      rcases hq with rfl | rfl
      · exact behind4 c s h k w
      · exact behind5 c s h k w⟩
  rw [hf]
  clear hf
  obtain ⟨e0, e1, f0, f1, p0, p1, lp0, lp1, nm0, nm1, us0, us1⟩ := pt_of h k
  obtain ⟨a1, a2, a3, a4, b1, b2, d1, d2, e1', e2⟩ := h
  obtain ⟨im, u1, u2, l1, l2, n1, n2⟩ := k
  unfold fin pag ent at *
  clear im
  go_enter Tryz.func167, Tryz.ntmps167
  go_upto_region 18 with (go_quiet (fail))
  obtain ⟨W, hW, B0⟩ : ∃ W, ((w.alloc (.cells #[.int .u64 c.l1, .int .u64 c.llc, .int .u64 c.mi, .int .u64 c.fa, .int .u64 c.st, .int .u64 c.di] 24)).alloc (.cells #[.int .i64 s.im, .int .i64 s.us, .int .i64 s.li, .int .i64 s.no] 177)) = W ∧ Hid (∀ n, Bx w (W.drewN n) w.heap.size (w.heap.size + 1) c s) := ⟨_, rfl, fun n => (bx_new w c s).below (below_drewN (Below.refl _ _) n)⟩
  rw [hW]
  clear hW e0 e1 f0 f1 p0 p1 lp0 lp1 nm0 nm1 us0 us1 a1 a2 a3 a4 b1 b2 d1 d2 e1' e2 u1 u2 l1 l2 n1 n2
  go_region_held3 (fun W => W.cell? ⟨w.heap.size, 0, none⟩ = some (.int .u64 c.l1) ∧ W.cell? ⟨w.heap.size, 1, none⟩ = some (.int .u64 c.llc) ∧ W.cell? ⟨w.heap.size, 2, none⟩ = some (.int .u64 c.mi) ∧ W.cell? ⟨w.heap.size, 3, none⟩ = some (.int .u64 c.fa) ∧ W.cell? ⟨w.heap.size, 4, none⟩ = some (.int .u64 c.st) ∧ W.cell? ⟨w.heap.size, 5, none⟩ = some (.int .u64 c.di) ∧ W.cell? ⟨w.heap.size + 1, 0, none⟩ = some (.int .i64 s.im) ∧ W.cell? ⟨w.heap.size + 1, 1, none⟩ = some (.int .i64 s.us) ∧ W.cell? ⟨w.heap.size + 1, 2, none⟩ = some (.int .i64 s.li) ∧ W.cell? ⟨w.heap.size + 1, 3, none⟩ = some (.int .i64 s.no))
    (first | exact B4.out.sx | exact B3.out.sx | exact ((B0.out _).below (below_drew _ _)).sx)
    (first
      | (go_at_call 167; refine (CC.out _ _ (by decide)).mono ?_; rintro e w3 ⟨rfl, k3⟩; first | (have B4 : Hid (Bx w w3 w.heap.size (w.heap.size + 1) c s) := B3.out.below k3; clear k3) | (have B3 : Hid (Bx w w3 w.heap.size (w.heap.size + 1) c s) := ((B0.out _).below (below_drew _ _)).below k3; clear k3)))
  clear B0 B3
  all_goals go_wp2
  all_goals (go_ret; exact ⟨ret_int (by omega), B4.out.be⟩)
theorem behind_any (c : Co) (s : Sh) (h : c.Ok) (k : s.Ok) (q : Int) (h0 : 0 ≤ q) (w : World) : Calls Tryz.prog 167 #[.agg #[.int .u64 c.l1, .int .u64 c.llc, .int .u64 c.mi, .int .u64 c.fa, .int .u64 c.st, .int .u64 c.di], .agg #[.int .i64 s.im, .int .i64 s.us, .int .i64 s.li, .int .i64 s.no], .int .u8 q] w (One (.int .u64 (bh c s q.toNat)) w) := by
  by_cases hq : 10 ≤ q
  · rw [bh_great c s q.toNat (by omega)]
    exact behind10 c s h k q hq w
  · obtain rfl | rfl | rfl | rfl | rfl | rfl | rfl | rfl | rfl | rfl : q = 0 ∨ q = 1 ∨ q = 2 ∨ q = 3 ∨ q = 4 ∨ q = 5 ∨ q = 6 ∨ q = 7 ∨ q = 8 ∨ q = 9 := by omega
    · exact behind0 c s h k w
    · exact behind1 c s h k w
    · exact behind2 c s h k w
    · exact behind3 c s h k w
    · exact behind4 c s h k w
    · exact behind5 c s h k w
    · exact behind6 c s h k w
    · exact behind7 c s h k w
    · exact behind8 c s h k w
    · exact behind9 c s h k w
theorem rWorst_cost (c : Co) (s : Sh) (q : Int) (h : okC c = false) (w : World) : Calls Tryz.prog 156 #[.agg #[.int .u64 c.l1, .int .u64 c.llc, .int .u64 c.mi, .int .u64 c.fa, .int .u64 c.st, .int .u64 c.di], .agg #[.int .i64 s.im, .int .i64 s.us, .int .i64 s.li, .int .i64 s.no], .int .u8 q] w (Two 0 100 w) := by
  have hb := below_two w (.cells #[.int .u64 c.l1, .int .u64 c.llc, .int .u64 c.mi, .int .u64 c.fa, .int .u64 c.st, .int .u64 c.di] 24) (.cells #[.int .i64 s.im, .int .i64 s.us, .int .i64 s.li, .int .i64 s.no] 177)
  have C := rCheck_any c ((w.alloc (.cells #[.int .u64 c.l1, .int .u64 c.llc, .int .u64 c.mi, .int .u64 c.fa, .int .u64 c.st, .int .u64 c.di] 24)).alloc (.cells #[.int .i64 s.im, .int .i64 s.us, .int .i64 s.li, .int .i64 s.no] 177))
  rw [er_f h] at C
  clear h
  go_enter Tryz.func156, Tryz.ntmps156
  go_wp2_with fail
  refine C.mono ?_
  rintro e w1 ⟨rfl, k⟩
  clear C
  go_wp2
  go_ret2
  exact ⟨rfl, hb.trans (k.mono (by simp; omega))⟩
theorem rWorst_arg (c : Co) (s : Sh) (q : Int) (h : okC c = true) (h' : okS s = false) (w : World) : Calls Tryz.prog 156 #[.agg #[.int .u64 c.l1, .int .u64 c.llc, .int .u64 c.mi, .int .u64 c.fa, .int .u64 c.st, .int .u64 c.di], .agg #[.int .i64 s.im, .int .i64 s.us, .int .i64 s.li, .int .i64 s.no], .int .u8 q] w (Two 0 2 w) := by
  have B0 : Hid (Bx w ((w.alloc (.cells #[.int .u64 c.l1, .int .u64 c.llc, .int .u64 c.mi, .int .u64 c.fa, .int .u64 c.st, .int .u64 c.di] 24)).alloc (.cells #[.int .i64 s.im, .int .i64 s.us, .int .i64 s.li, .int .i64 s.no] 177)) w.heap.size (w.heap.size + 1) c s) := bx_new w c s
  have C := rCheck_any c ((w.alloc (.cells #[.int .u64 c.l1, .int .u64 c.llc, .int .u64 c.mi, .int .u64 c.fa, .int .u64 c.st, .int .u64 c.di] 24)).alloc (.cells #[.int .i64 s.im, .int .i64 s.us, .int .i64 s.li, .int .i64 s.no] 177))
  have C2 : Hid (∀ w, Calls Tryz.prog 166 #[.agg #[.int .i64 s.im, .int .i64 s.us, .int .i64 s.li, .int .i64 s.no]] w (One (.bool (okS s)) w)) := fun w => May_any s w
  rw [er_t h] at C
  rw [h'] at C2
  clear h h'
  go_enter Tryz.func156, Tryz.ntmps156
  go_wp2_with fail
  refine C.mono ?_
  rintro e w1 ⟨rfl, k1⟩
  have B1 : Hid (Bx w w1 w.heap.size (w.heap.size + 1) c s) := B0.out.below k1
  obtain ⟨_, s0, s1, s2, s3⟩ := B1.out.ss
  clear C B0 k1
  go_wp2_with fail
  refine (C2.out _).mono ?_
  rintro e w2 ⟨rfl, k2⟩
  have FIN : Hid (Below w.heap.size w w2) := B1.out.be.trans (k2.mono B1.out.be.size)
  clear C2 k2 B1 s0 s1 s2 s3
  go_wp2
  go_ret2
  exact ⟨rfl, FIN.out⟩
set_option maxHeartbeats 1000000 in
theorem rWorst_ok (c : Co) (s : Sh) (h : c.Ok) (k : s.Ok) (q : Int) (h0 : 0 ≤ q) (w : World) : Calls Tryz.prog 156 #[.agg #[.int .u64 c.l1, .int .u64 c.llc, .int .u64 c.mi, .int .u64 c.fa, .int .u64 c.st, .int .u64 c.di], .agg #[.int .i64 s.im, .int .i64 s.us, .int .i64 s.li, .int .i64 s.no], .int .u8 q] w (Two (bd c s q.toNat) 0 w) := by
  have B0 : Hid (Bx w ((w.alloc (.cells #[.int .u64 c.l1, .int .u64 c.llc, .int .u64 c.mi, .int .u64 c.fa, .int .u64 c.st, .int .u64 c.di] 24)).alloc (.cells #[.int .i64 s.im, .int .i64 s.us, .int .i64 s.li, .int .i64 s.no] 177)) w.heap.size (w.heap.size + 1) c s) := bx_new w c s
  have C := rCheck_any c ((w.alloc (.cells #[.int .u64 c.l1, .int .u64 c.llc, .int .u64 c.mi, .int .u64 c.fa, .int .u64 c.st, .int .u64 c.di] 24)).alloc (.cells #[.int .i64 s.im, .int .i64 s.us, .int .i64 s.li, .int .i64 s.no] 177))
  have C2 : Hid (∀ w, Calls Tryz.prog 166 #[.agg #[.int .i64 s.im, .int .i64 s.us, .int .i64 s.li, .int .i64 s.no]] w (One (.bool (okS s)) w)) := fun w => May_any s w
  have C3 : Hid (∀ w, Calls Tryz.prog 167 #[.agg #[.int .u64 c.l1, .int .u64 c.llc, .int .u64 c.mi, .int .u64 c.fa, .int .u64 c.st, .int .u64 c.di], .agg #[.int .i64 s.im, .int .i64 s.us, .int .i64 s.li, .int .i64 s.no], .int .u8 q] w (One (.int .u64 (bh c s q.toNat)) w)) := fun w => behind_any c s h k q h0 w
  rw [er_t (okC_iff.2 h)] at C
  rw [okS_iff.2 k] at C2
  have p := pt_of h k
  have r := bh_range h k q.toNat
  rw [bd_bh]
  have e0 := p.e0
  have e1 := p.e1
  have m0 := h.a4
  have m1 := h.a1
  have m2 := h.a2
  have m3 := h.a3
  have i0 : 1 ≤ s.im := by have := k.im; omega
  have i1 : s.im ≤ 8 := by have := k.im; omega
  generalize bh c s q.toNat = x at *
  unfold ent at *
  clear p h k
  go_enter Tryz.func156, Tryz.ntmps156
  go_wp2_with fail
  refine C.mono ?_
  rintro e w1 ⟨rfl, k1⟩
  have B1 : Hid (Bx w w1 w.heap.size (w.heap.size + 1) c s) := B0.out.below k1
  obtain ⟨_, s0, s1, s2, s3⟩ := B1.out.ss
  clear C B0 k1
  go_wp2_with fail
  refine (C2.out _).mono ?_
  rintro e w2 ⟨rfl, k2⟩
  have B2 : Hid (Bx w w2 w.heap.size (w.heap.size + 1) c s) := B1.out.below k2
  clear C2 k2 B1 s0 s1 s2 s3
  go_wp2_with fail
  go_region_held3 (fun W => W.cell? ⟨w.heap.size, 0, none⟩ = some (.int .u64 c.l1) ∧ W.cell? ⟨w.heap.size, 1, none⟩ = some (.int .u64 c.llc) ∧ W.cell? ⟨w.heap.size, 2, none⟩ = some (.int .u64 c.mi) ∧ W.cell? ⟨w.heap.size, 3, none⟩ = some (.int .u64 c.fa) ∧ W.cell? ⟨w.heap.size, 4, none⟩ = some (.int .u64 c.st) ∧ W.cell? ⟨w.heap.size, 5, none⟩ = some (.int .u64 c.di) ∧ W.cell? ⟨w.heap.size + 1, 0, none⟩ = some (.int .i64 s.im) ∧ W.cell? ⟨w.heap.size + 1, 1, none⟩ = some (.int .i64 s.us) ∧ W.cell? ⟨w.heap.size + 1, 2, none⟩ = some (.int .i64 s.li) ∧ W.cell? ⟨w.heap.size + 1, 3, none⟩ = some (.int .i64 s.no))
    (first | exact B3.out.sx | exact (B2.out.below (below_drew _ _)).sx)
    (first
      | (go_at_call 167; refine (C3.out _).mono ?_; rintro e w3 ⟨rfl, k3⟩; have B3 : Hid (Bx w w3 w.heap.size (w.heap.size + 1) c s) := (B2.out.below (below_drew _ _)).below k3; clear k3))
  clear B2
  all_goals go_wp2
  all_goals (go_ret2; refine ⟨ret_two ?_ rfl, B3.out.be⟩; simp (disch := omega) only [IntWalk.u64_in])
end Go.Proofs.YtokaohlgncmoaaaGreat
namespace Go.Proofs.YtokaohlgncmoaaaGreat
open Go.ChangeShapes Go.WideShapes Go.ChangeAt Go.RowKit
set_option linter.unusedVariables false

theorem rWorst_no (c : Co) (s : Sh) (q : Int) (h : ers c s ≠ 0) (w : World) : Calls Tryz.prog 156 #[.agg #[.int .u64 c.l1, .int .u64 c.llc, .int .u64 c.mi, .int .u64 c.fa, .int .u64 c.st, .int .u64 c.di], .agg #[.int .i64 s.im, .int .i64 s.us, .int .i64 s.li, .int .i64 s.no], .int .u8 q] w (Two 0 (ers c s) w) := by
  cases h0 : okC c
  · rw [ers_f h0]
    exact rWorst_cost c s q h0 w
  · cases h1 : okS s
    · rw [ers_s h0 h1]
      exact rWorst_arg c s q h0 h1 w
    · exact absurd (ers_t h0 h1) h
theorem mx_ge (c : Co) (s : Sh) (n i : Nat) (h : i < n) : bd c s i ≤ mx c s n := by
  induction n with
  | zero => omega
  | succ n ih =>
    simp only [mx]
    by_cases hi : i = n
    · subst hi
      omega
    · have := ih (by omega)
      omega
theorem mx_great (c : Co) (s : Sh) (n : Nat) : mx c s (11 + n) = mx c s 11 := by
  induction n with
  | zero => rfl
  | succ n ih =>
    have h1 : mx c s (11 + (n + 1)) = max (mx c s (11 + n)) (bd c s (11 + n)) := rfl
    have h2 := mx_ge c s 11 0 (by omega)
    rw [h1, ih, bd_great c s (11 + n) (by omega)]
    have h3 : bd c s 0 = ent c s := rfl
    omega
theorem rMost_no (c : Co) (s : Sh) (h : ers c s ≠ 0) (w : World) : Calls Tryz.prog 140 #[.agg #[.int .u64 c.l1, .int .u64 c.llc, .int .u64 c.mi, .int .u64 c.fa, .int .u64 c.st, .int .u64 c.di], .agg #[.int .i64 s.im, .int .i64 s.us, .int .i64 s.li, .int .i64 s.no]] w (Two 0 (ers c s) w) := by
  have B0 : Hid (Bx w ((w.alloc (.cells #[.int .u64 c.l1, .int .u64 c.llc, .int .u64 c.mi, .int .u64 c.fa, .int .u64 c.st, .int .u64 c.di] 24)).alloc (.cells #[.int .i64 s.im, .int .i64 s.us, .int .i64 s.li, .int .i64 s.no] 177)) w.heap.size (w.heap.size + 1) c s) := bx_new w c s
  have C : Hid (∀ q w, Calls Tryz.prog 156 #[.agg #[.int .u64 c.l1, .int .u64 c.llc, .int .u64 c.mi, .int .u64 c.fa, .int .u64 c.st, .int .u64 c.di], .agg #[.int .i64 s.im, .int .i64 s.us, .int .i64 s.li, .int .i64 s.no], .int .u8 q] w (Two 0 (ers c s) w)) := fun q w => rWorst_no c s q h w
  generalize ers c s = x at *
  go_enter Tryz.func140, Tryz.ntmps140
  go_wp2_with fail
  generalize ((w.alloc (.cells #[.int .u64 c.l1, .int .u64 c.llc, .int .u64 c.mi, .int .u64 c.fa, .int .u64 c.st, .int .u64 c.di] 24)).alloc (.cells #[.int .i64 s.im, .int .i64 s.us, .int .i64 s.li, .int .i64 s.no] 177)) = w0 at *
  go_loopw [6, 7] (fun m i wr => i = .int .i64 0 ∧ m = .int .u64 0 ∧ Bx w wr w.heap.size (w.heap.size + 1) c s) (fun _ _ _ => 0)
  case atStart => exact ⟨rfl, rfl, B0.out⟩
  case round =>
    clear B0
    obtain ⟨rfl, rfl, hB⟩ := hrel
    have HB : Hid (Bx w wr w.heap.size (w.heap.size + 1) c s) := hB
    clear hB
    obtain ⟨_, c0, c1, c2, c3, c4, c5⟩ := HB.out.cs
    obtain ⟨_, s0, s1, s2, s3⟩ := HB.out.ss
    go_wp2_with fail
    refine (C.out _ _).mono ?_
    rintro e w1 ⟨rfl, k1⟩
    have FIN : Hid (Below w.heap.size w w1) := HB.out.be.trans (k1.mono HB.out.be.size)
    clear k1 C HB c0 c1 c2 c3 c4 c5 s0 s1 s2 s3
    go_wp2
    go_ret2
    exact ⟨rfl, FIN.out⟩
set_option maxRecDepth 20000 in
theorem rMost_ok (c : Co) (s : Sh) (h : c.Ok) (k : s.Ok) (w : World) : Calls Tryz.prog 140 #[.agg #[.int .u64 c.l1, .int .u64 c.llc, .int .u64 c.mi, .int .u64 c.fa, .int .u64 c.st, .int .u64 c.di], .agg #[.int .i64 s.im, .int .i64 s.us, .int .i64 s.li, .int .i64 s.no]] w (Two (mx c s 11) 0 w) := by
  have B0 : Hid (Bx w ((w.alloc (.cells #[.int .u64 c.l1, .int .u64 c.llc, .int .u64 c.mi, .int .u64 c.fa, .int .u64 c.st, .int .u64 c.di] 24)).alloc (.cells #[.int .i64 s.im, .int .i64 s.us, .int .i64 s.li, .int .i64 s.no] 177)) w.heap.size (w.heap.size + 1) c s) := bx_new w c s
  have C : Hid (∀ (q : Nat) w, Calls Tryz.prog 156 #[.agg #[.int .u64 c.l1, .int .u64 c.llc, .int .u64 c.mi, .int .u64 c.fa, .int .u64 c.st, .int .u64 c.di], .agg #[.int .i64 s.im, .int .i64 s.us, .int .i64 s.li, .int .i64 s.no], .int .u8 (q : Int)] w (Two (bd c s q) 0 w)) := fun q w => by
    have := rWorst_ok c s h k (q : Int) (by omega) w
    rwa [Int.toNat_natCast] at this
  have hm : Hid (∀ n, mx c s (n + 1) = max (mx c s n) (bd c s n)) := fun n => rfl
  obtain ⟨y, hy, HY⟩ : ∃ y, mx c s 11 = y ∧ Hid (mx c s 256 = y) := ⟨_, rfl, mx_great c s 245⟩
  rw [hy]
  clear h k hy
  go_enter Tryz.func140, Tryz.ntmps140
  go_wp2_with fail
  generalize ((w.alloc (.cells #[.int .u64 c.l1, .int .u64 c.llc, .int .u64 c.mi, .int .u64 c.fa, .int .u64 c.st, .int .u64 c.di] 24)).alloc (.cells #[.int .i64 s.im, .int .i64 s.us, .int .i64 s.li, .int .i64 s.no] 177)) = w0 at *
  go_loopw [6, 7] (fun m i wr => ∃ j : Nat, j ≤ 256 ∧ i = .int .i64 j ∧ m = .int .u64 (mx c s j) ∧ Bx w wr w.heap.size (w.heap.size + 1) c s) (fun _ i _ => 256 - (iv i).toNat)
  case atStart => exact ⟨0, by omega, rfl, rfl, B0.out⟩
  case round =>
    clear B0
    obtain ⟨j, hj, rfl, rfl, hB⟩ := hrel
    have HB : Hid (Bx w wr w.heap.size (w.heap.size + 1) c s) := hB
    clear hB
    by_cases hlt : j < 256
    · obtain ⟨_, c0, c1, c2, c3, c4, c5⟩ := HB.out.cs
      obtain ⟨_, s0, s1, s2, s3⟩ := HB.out.ss
      have hj1 := hm.out j
      generalize mx c s j = u at *
      have Cj : Hid (∀ w, Calls Tryz.prog 156 #[.agg #[.int .u64 c.l1, .int .u64 c.llc, .int .u64 c.mi, .int .u64 c.fa, .int .u64 c.st, .int .u64 c.di], .agg #[.int .i64 s.im, .int .i64 s.us, .int .i64 s.li, .int .i64 s.no], .int .u8 (j : Int)] w (Two (bd c s j) 0 w)) := C.out j
      generalize bd c s j = v at *
      go_wp2_with fail
      refine (Cj.out _).mono ?_
      rintro e w1 ⟨rfl, k1⟩
      have B1 : Hid (Bx w w1 w.heap.size (w.heap.size + 1) c s) := HB.out.below k1
      clear k1 C Cj HB c0 c1 c2 c3 c4 c5 s0 s1 s2 s3
      go_wp2
      all_goals
        go_roundw
        case rel => exact ⟨j + 1, by omega, by go_num, by rw [hj1]; congr 1; omega, B1.out⟩
        case measure => simp [iv]; omega
    · have hu : mx c s j = y := by rw [show j = 256 by omega]; exact HY.out
      rw [hu]
      go_wp2
      go_ret2
      exact ⟨rfl, HB.out.be⟩
end Go.Proofs.YtokaohlgncmoaaaGreat
namespace Go.Proofs.YtokaohlgncmoaaaGreat
open Go.ChangeShapes Go.WideShapes Go.ChangeAt Go.RowKit
set_option linter.unusedVariables false

def fitS (c : Cf) (p : Nat) : Bool := !decide (pBad c p = 0) || decide (mx c.k (shp (c.pf p)) 11 ≤ c.sl)
def allS (c : Cf) : Nat → Bool
  | 0 => true
  | p + 1 => allS c p && fitS c p
theorem allS_iff {c : Cf} {n : Nat} : allS c n = true ↔ ∀ p, p < n → fitS c p = true := by
  induction n with
  | zero => simp [allS]
  | succ n ih =>
    simp only [allS, Bool.and_eq_true, ih]
    constructor
    · rintro ⟨h1, h2⟩ p hp
      by_cases e : p = n
      · rw [e]; exact h2
      · exact h1 p (by omega)
    · exact fun h => ⟨fun p hp => h p (by omega), h n (by omega)⟩
def pdM (c : Cf) : Int := (c.S * c.V + c.T) * c.k.st
def sOk (c : Cf) : Bool := s0k c && (!(mOk c && okC c.k) || (decide (pdM c ≤ c.pd) && allS c c.pn))
def allT (c : Cf) : Nat → Bool
  | 0 => true
  | i + 1 => allT c i && (decide (0 ≤ c.tf i) && decide (c.tf i < (c.pn : Int)))
theorem allT_iff {c : Cf} {n : Nat} : allT c n = true ↔ ∀ i, i < n → 0 ≤ c.tf i ∧ c.tf i < (c.pn : Int) := by
  induction n with
  | zero => simp [allT]
  | succ n ih =>
    simp only [allT, Bool.and_eq_true, ih, decide_eq_true_eq]
    constructor
    · rintro ⟨h1, h2⟩ p hp
      by_cases e : p = n
      · rw [e]; exact h2
      · exact h1 p (by omega)
    · exact fun h => ⟨fun p hp => h p (by omega), h n (by omega)⟩
def tOk (c : Cf) : Bool := inB c.tn 1 64 && allT c c.tn
def fl (e at' : Int) : List (Int × Int) := if e = 0 then [] else [(e, at')]
theorem fl_zero (a : Int) : fl 0 a = [] := rfl
theorem fl_len (e a : Int) : (fl e a).length ≤ 1 := by unfold fl; split <;> simp

def chkP (c : Cf) : Nat → List (Int × Int)
  | 0 => []
  | p + 1 => chkP c p ++ fl (pBad c p) (4 + p)
def chk (c : Cf) : List (Int × Int) := fl (un (mOk c) 114) 0 ++ fl (er c.k) 1 ++ fl (un (sOk c) 113) 2 ++ fl (un (tOk c) 112) 3 ++ chkP c (min c.pn 8)
def may (c : Cf) : Bool := (chk c).isEmpty
theorem chkP_len (c : Cf) (p : Nat) : (chkP c p).length ≤ p := by
  induction p with
  | zero => simp [chkP]
  | succ p ih =>
    have := fl_len (pBad c p) (4 + p)
    simp only [chkP, List.length_append]
    omega
theorem chk_len (c : Cf) : (chk c).length ≤ 12 := by
  have h1 := fl_len (un (mOk c) 114) 0
  have h2 := fl_len (er c.k) 1
  have h3 := fl_len (un (sOk c) 113) 2
  have h4 := fl_len (un (tOk c) 112) 3
  have h5 := chkP_len c (min c.pn 8)
  simp only [chk, List.length_append]
  omega
theorem fl_nil {e a : Int} : fl e a = [] ↔ e = 0 := by unfold fl; split <;> simp_all
theorem chkP_nil {c : Cf} {n : Nat} : chkP c n = [] ↔ ∀ p, p < n → pBad c p = 0 := by
  induction n with
  | zero => simp [chkP]
  | succ n ih =>
    simp only [chkP, List.append_eq_nil_iff, ih, fl_nil]
    constructor
    · rintro ⟨h1, h2⟩ p hp
      by_cases e : p = n
      · rw [e]; exact h2
      · exact h1 p (by omega)
    · exact fun h => ⟨fun p hp => h p (by omega), h n (by omega)⟩
theorem un_zero {b : Bool} {e : Int} (he : e ≠ 0) : un b e = 0 ↔ b = true := by cases b <;> simp [un, he]
theorem er_zero {c : Co} : er c = 0 ↔ okC c = true := by
  cases h : okC c
  · rw [er_f h]; simp
  · rw [er_t h]; simp
structure Cf.Ok (c : Cf) : Prop where
  m : c.MOk
  k : c.k.Ok
  s : s0k c = true
  pd : pdM c ≤ c.pd
  mo : ∀ p, p < c.pn → mx c.k (shp (c.pf p)) 11 ≤ c.sl
  t1 : 1 ≤ c.tn
  t2 : c.tn ≤ 64
  t : ∀ i, i < c.tn → 0 ≤ c.tf i ∧ c.tf i < (c.pn : Int)
  p : ∀ p, p < c.pn → pBad c p = 0
theorem may_iff {c : Cf} : may c = true ↔ c.Ok := by
  unfold may chk
  rw [List.isEmpty_iff]
  simp only [List.append_eq_nil_iff, fl_nil, chkP_nil, un_zero (show (114 : Int) ≠ 0 by decide), un_zero (show (113 : Int) ≠ 0 by decide), un_zero (show (112 : Int) ≠ 0 by decide), er_zero]
  constructor
  · rintro ⟨⟨⟨⟨h1, h2⟩, h3⟩, h4⟩, h5⟩
    have hm := mOk_iff.1 h1
    have hp : ∀ p, p < c.pn → pBad c p = 0 := fun p hp => h5 p (by have := hm.p2; omega)
    simp only [sOk, h1, h2, Bool.and_eq_true, Bool.and_self, Bool.not_true, Bool.false_or, decide_eq_true_eq, allS_iff] at h3
    simp only [tOk, Bool.and_eq_true, inB_iff, allT_iff] at h4
    refine ⟨hm, okC_iff.1 h2, h3.1, h3.2.1, fun p hpn => ?_, by omega, by omega, h4.2, hp⟩
    have := h3.2.2 p hpn
    simp only [fitS, hp p hpn, decide_true, Bool.not_true, Bool.false_or, decide_eq_true_eq] at this
    exact this
  · intro h
    have h1 := mOk_iff.2 h.m
    have h2 := okC_iff.2 h.k
    refine ⟨⟨⟨⟨h1, h2⟩, ?_⟩, ?_⟩, fun p hp => h.p p (by omega)⟩
    · simp only [sOk, h1, h2, Bool.and_eq_true, Bool.and_self, Bool.not_true, Bool.false_or, decide_eq_true_eq, allS_iff]
      exact ⟨h.s, h.pd, fun p hp => by simp [fitS, h.mo p hp]⟩
    · simp only [tOk, Bool.and_eq_true, inB_iff, allT_iff]
      exact ⟨⟨by have := h.t1; omega, by have := h.t2; omega⟩, h.t⟩
structure POk (c : Cf) (p : Nat) : Prop where
  ri : rise c.C (c.pf p).f (c.pf p).n = true
  n0 : 0 < (c.pf p).n
  sh : sh c (c.pf p) p = false
  o0 : 0 ≤ (c.pf p).o
  o1 : (c.pf p).o ≤ 3
  u0 : 2 ≤ (c.pf p).u
  u1 : (c.pf p).u ≤ 4096
  t0 : 4 ≤ (c.pf p).t
  t1 : (c.pf p).t ≤ 4096
  s0 : 1 ≤ (c.pf p).s
  s1 : (c.pf p).s ≤ 4096
  r0 : 1 ≤ (c.pf p).r
  r1 : (c.pf p).r ≤ 4096
  d0 : 1 ≤ (c.pf p).d
  d1 : (c.pf p).d ≤ 4096
  z0 : 1 ≤ (c.pf p).z
  z1 : (c.pf p).z ≤ 1024
  sm : sm c p + (c.pf p).z ≤ 1024
  fit : mOk c = true → fit c (c.pf p) = true
theorem pBad_iff {c : Cf} {p : Nat} : pBad c p = 0 ↔ POk c p := by
  have e : pBad c p = 0 ↔ okCol c p = true ∧ okQ c p = true := by
    unfold pBad
    cases okCol c p <;> cases okQ c p <;> simp
  rw [e]
  simp only [okCol, okQ, qOk, zOk, Bool.and_eq_true, inB_iff, decide_eq_true_eq, Bool.not_eq_true', Bool.or_eq_true]
  constructor
  · rintro ⟨⟨h1, h2, h3⟩, ⟨⟨o0, o1⟩, ⟨u0, u1⟩, ⟨t0, t1⟩, ⟨s0, s1⟩, ⟨r0, r1⟩, d0, d1⟩, ⟨z0, z1⟩, h4, h5⟩
    exact ⟨h1, h2, h3, o0, o1, u0, u1, t0, t1, s0, s1, r0, r1, d0, d1, z0, z1, h4, fun hm => by rcases h5 with h5 | h5; · rw [hm] at h5; cases h5
                                                                                                · exact h5⟩
  · intro h
    refine ⟨⟨h.ri, h.n0, h.sh⟩, ⟨⟨h.o0, h.o1⟩, ⟨h.u0, h.u1⟩, ⟨h.t0, h.t1⟩, ⟨h.s0, h.s1⟩, ⟨h.r0, h.r1⟩, h.d0, h.d1⟩, ⟨h.z0, h.z1⟩, h.sm, ?_⟩
    cases hm : mOk c
    · exact Or.inl rfl
    · exact Or.inr (h.fit hm)
theorem POk.shape {c : Cf} {p : Nat} (h : POk c p) : (shp (c.pf p)).Ok := by
  have h1 := im_ways h.o0 h.o1
  have h2 := h.u0
  have h3 := h.u1
  have h4 := h.t0
  have h5 := h.t1
  have h6 := h.d0
  have h7 := h.z0
  have h8 := h.z1
  exact ⟨by simp only [shp]; omega, h2, h3, by simp only [shp, lim]; omega, by simp only [shp, lim]; omega, by simp only [shp]; omega, h5⟩
theorem sm_nonneg (c : Cf) (p : Nat) : 0 ≤ sm c p := by
  induction p with
  | zero => exact Int.le_refl _
  | succ p ih =>
    simp only [sm]
    cases h : zOk (c.pf p)
    · simpa using ih
    · have := inB_iff.1 h
      simp only [cond_true]
      omega
theorem sm_le (c : Cf) (p : Nat) : sm c p ≤ 1024 * p := by
  induction p with
  | zero => exact Int.le_refl _
  | succ p ih =>
    simp only [sm]
    cases h : zOk (c.pf p)
    · simp only [cond_false]; omega
    · have := inB_iff.1 h
      simp only [cond_true]
      omega
end Go.Proofs.YtokaohlgncmoaaaGreat
