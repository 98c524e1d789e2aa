/- What each of the kinds' bounds gives back over what it stands on. -/
import Derived.Test.YtkbpnkjjmipjfaaGreatVFa
import Derived.Deep.RegionHeld3
namespace Go.Proofs.YtkbpnkjjmipjfaaGreat
open Go.ChangeShapes Go.WideShapes Go.ChangeAt Go.RowKit
set_option linter.unusedVariables false

theorem cl0 {w : World} {gc gl gn ge gf gp go : Nat} {c : Co} {s : Sh} (B : Bn w gc gl gn ge gf gp go c s) (h : c.Ok) (k : s.Ok) (p : Pt c s) : Calls Tryz.prog 255 #[.pointer (some ⟨ge, 0, none⟩)] w fun e w' => e = .returned (.int .u64 (bd c s 0)) ∧ w' = w := by
  obtain ⟨⟨_, _, _, m, fa, st, di⟩, _, l, _, n, _, e, _, f, _, p', _, _, _⟩ := B
  obtain ⟨e0, e1, f0, f1, p0, p1, lp0, lp1, nm0, nm1, us0, us1⟩ := p
  obtain ⟨a1, a2, a3, a4, b1, b2, d1, d2, e1', e2⟩ := h
  obtain ⟨_, u1, u2, l1, l2, n1, n2⟩ := k
  simp only [bd]
  generalize ent c s = E at *
  generalize fin c s = F at *
  generalize pag c = Q at *
  go_enter Tryz.func255, Tryz.ntmps255
  go_wp2
  go_ret
  exact ⟨ret_int (by first | rfl | go_num), rfl⟩
theorem cl1 {w : World} {gc gl gn ge gf gp go : Nat} {c : Co} {s : Sh} (B : Bn w gc gl gn ge gf gp go c s) (h : c.Ok) (k : s.Ok) (p : Pt c s) : Calls Tryz.prog 256 #[.pointer (some ⟨ge, 0, none⟩), .pointer (some ⟨gc, 0, none⟩)] w fun e w' => e = .returned (.int .u64 (bd c s 1)) ∧ w' = w := by
  obtain ⟨⟨_, _, _, m, fa, st, di⟩, _, l, _, n, _, e, _, f, _, p', _, _, _⟩ := B
  obtain ⟨e0, e1, f0, f1, p0, p1, lp0, lp1, nm0, nm1, us0, us1⟩ := p
  obtain ⟨a1, a2, a3, a4, b1, b2, d1, d2, e1', e2⟩ := h
  obtain ⟨_, u1, u2, l1, l2, n1, n2⟩ := k
  simp only [bd]
  generalize ent c s = E at *
  generalize fin c s = F at *
  generalize pag c = Q at *
  go_enter Tryz.func256, Tryz.ntmps256
  go_wp2
  go_ret
  exact ⟨ret_int (by first | rfl | go_num), rfl⟩
theorem cl2 {w : World} {gc gl gn ge gf gp go : Nat} {c : Co} {s : Sh} (B : Bn w gc gl gn ge gf gp go c s) (h : c.Ok) (k : s.Ok) (p : Pt c s) : Calls Tryz.prog 257 #[.pointer (some ⟨ge, 0, none⟩), .pointer (some ⟨gl, 0, none⟩), .pointer (some ⟨gp, 0, none⟩), .pointer (some ⟨gc, 0, none⟩)] w fun e w' => e = .returned (.int .u64 (bd c s 2)) ∧ w' = w := by
  obtain ⟨⟨_, _, _, m, fa, st, di⟩, _, l, _, n, _, e, _, f, _, p', _, _, _⟩ := B
  obtain ⟨e0, e1, f0, f1, p0, p1, lp0, lp1, nm0, nm1, us0, us1⟩ := p
  obtain ⟨a1, a2, a3, a4, b1, b2, d1, d2, e1', e2⟩ := h
  obtain ⟨_, u1, u2, l1, l2, n1, n2⟩ := k
  simp only [bd]
  generalize ent c s = E at *
  generalize fin c s = F at *
  generalize pag c = Q at *
  go_enter Tryz.func257, Tryz.ntmps257
  go_wp2
  go_ret
  exact ⟨ret_int (by first | rfl | go_num), rfl⟩
theorem cl3 {w : World} {gc gl gn ge gf gp go : Nat} {c : Co} {s : Sh} (B : Bn w gc gl gn ge gf gp go c s) (h : c.Ok) (k : s.Ok) (p : Pt c s) : Calls Tryz.prog 258 #[.pointer (some ⟨ge, 0, none⟩), .pointer (some ⟨gc, 0, none⟩), .pointer (some ⟨gn, 0, none⟩), .pointer (some ⟨gl, 0, none⟩), .pointer (some ⟨gp, 0, none⟩)] w fun e w' => e = .returned (.int .u64 (bd c s 3)) ∧ w' = w := by
  obtain ⟨⟨_, _, _, m, fa, st, di⟩, _, l, _, n, _, e, _, f, _, p', _, _, _⟩ := B
  obtain ⟨e0, e1, f0, f1, p0, p1, lp0, lp1, nm0, nm1, us0, us1⟩ := p
  obtain ⟨a1, a2, a3, a4, b1, b2, d1, d2, e1', e2⟩ := h
  obtain ⟨_, u1, u2, l1, l2, n1, n2⟩ := k
  simp only [bd]
  generalize ent c s = E at *
  generalize fin c s = F at *
  generalize pag c = Q at *
  go_enter Tryz.func258, Tryz.ntmps258
  go_wp2
  go_ret
  exact ⟨ret_int (by first | rfl | go_num), rfl⟩
theorem cl4 {w : World} {gc gl gn ge gf gp go : Nat} {c : Co} {s : Sh} (B : Bn w gc gl gn ge gf gp go c s) (h : c.Ok) (k : s.Ok) (p : Pt c s) : Calls Tryz.prog 259 #[.pointer (some ⟨ge, 0, none⟩), .pointer (some ⟨gc, 0, none⟩)] w fun e w' => e = .returned (.int .u64 (bd c s 4)) ∧ w' = w := by
  obtain ⟨⟨_, _, _, m, fa, st, di⟩, _, l, _, n, _, e, _, f, _, p', _, _, _⟩ := B
  obtain ⟨e0, e1, f0, f1, p0, p1, lp0, lp1, nm0, nm1, us0, us1⟩ := p
  obtain ⟨a1, a2, a3, a4, b1, b2, d1, d2, e1', e2⟩ := h
  obtain ⟨_, u1, u2, l1, l2, n1, n2⟩ := k
  simp only [bd]
  generalize ent c s = E at *
  generalize fin c s = F at *
  generalize pag c = Q at *
  go_enter Tryz.func259, Tryz.ntmps259
  go_wp2
  go_ret
  exact ⟨ret_int (by first | rfl | go_num), rfl⟩
theorem cl5 {w : World} {gc gl gn ge gf gp go : Nat} {c : Co} {s : Sh} (B : Bn w gc gl gn ge gf gp go c s) (h : c.Ok) (k : s.Ok) (p : Pt c s) : Calls Tryz.prog 260 #[.pointer (some ⟨ge, 0, none⟩), .pointer (some ⟨gp, 0, none⟩)] w fun e w' => e = .returned (.int .u64 (bd c s 5)) ∧ w' = w := by
  obtain ⟨⟨_, _, _, m, fa, st, di⟩, _, l, _, n, _, e, _, f, _, p', _, _, _⟩ := B
  obtain ⟨e0, e1, f0, f1, p0, p1, lp0, lp1, nm0, nm1, us0, us1⟩ := p
  obtain ⟨a1, a2, a3, a4, b1, b2, d1, d2, e1', e2⟩ := h
  obtain ⟨_, u1, u2, l1, l2, n1, n2⟩ := k
  simp only [bd]
  generalize ent c s = E at *
  generalize fin c s = F at *
  generalize pag c = Q at *
  go_enter Tryz.func260, Tryz.ntmps260
  go_wp2
  go_ret
  exact ⟨ret_int (by first | rfl | go_num), rfl⟩
theorem cl6 {w : World} {gc gl gn ge gf gp go : Nat} {c : Co} {s : Sh} (B : Bn w gc gl gn ge gf gp go c s) (h : c.Ok) (k : s.Ok) (p : Pt c s) : Calls Tryz.prog 261 #[.pointer (some ⟨ge, 0, none⟩), .pointer (some ⟨gc, 0, none⟩)] w fun e w' => e = .returned (.int .u64 (bd c s 6)) ∧ w' = w := by
  obtain ⟨⟨_, _, _, m, fa, st, di⟩, _, l, _, n, _, e, _, f, _, p', _, _, _⟩ := B
  obtain ⟨e0, e1, f0, f1, p0, p1, lp0, lp1, nm0, nm1, us0, us1⟩ := p
  obtain ⟨a1, a2, a3, a4, b1, b2, d1, d2, e1', e2⟩ := h
  obtain ⟨_, u1, u2, l1, l2, n1, n2⟩ := k
  simp only [bd]
  generalize ent c s = E at *
  generalize fin c s = F at *
  generalize pag c = Q at *
  go_enter Tryz.func261, Tryz.ntmps261
  go_wp2
  go_ret
  exact ⟨ret_int (by first | rfl | go_num), rfl⟩
theorem cl8 {w : World} {gc gl gn ge gf gp go : Nat} {c : Co} {s : Sh} (B : Bn w gc gl gn ge gf gp go c s) (h : c.Ok) (k : s.Ok) (p : Pt c s) : Calls Tryz.prog 263 #[.pointer (some ⟨ge, 0, none⟩), .pointer (some ⟨gc, 0, none⟩), .pointer (some ⟨gf, 0, none⟩)] w fun e w' => e = .returned (.int .u64 (bd c s 8)) ∧ w' = w := by
  obtain ⟨⟨_, _, _, m, fa, st, di⟩, _, l, _, n, _, e, _, f, _, p', _, _, _⟩ := B
  obtain ⟨e0, e1, f0, f1, p0, p1, lp0, lp1, nm0, nm1, us0, us1⟩ := p
  obtain ⟨a1, a2, a3, a4, b1, b2, d1, d2, e1', e2⟩ := h
  obtain ⟨_, u1, u2, l1, l2, n1, n2⟩ := k
  simp only [bd]
  generalize ent c s = E at *
  generalize fin c s = F at *
  generalize pag c = Q at *
  go_enter Tryz.func263, Tryz.ntmps263
  go_wp2
  go_ret
  exact ⟨ret_int (by first | rfl | go_num), rfl⟩
theorem cl9 {w : World} {gc gl gn ge gf gp go : Nat} {c : Co} {s : Sh} (B : Bn w gc gl gn ge gf gp go c s) (h : c.Ok) (k : s.Ok) (p : Pt c s) : Calls Tryz.prog 264 #[.pointer (some ⟨ge, 0, none⟩), .pointer (some ⟨gc, 0, none⟩), .pointer (some ⟨gf, 0, none⟩)] w fun e w' => e = .returned (.int .u64 (bd c s 9)) ∧ w' = w := by
  obtain ⟨⟨_, _, _, m, fa, st, di⟩, _, l, _, n, _, e, _, f, _, p', _, _, _⟩ := B
  obtain ⟨e0, e1, f0, f1, p0, p1, lp0, lp1, nm0, nm1, us0, us1⟩ := p
  obtain ⟨a1, a2, a3, a4, b1, b2, d1, d2, e1', e2⟩ := h
  obtain ⟨_, u1, u2, l1, l2, n1, n2⟩ := k
  simp only [bd]
  generalize ent c s = E at *
  generalize fin c s = F at *
  generalize pag c = Q at *
  go_enter Tryz.func264, Tryz.ntmps264
  go_wp2
  go_ret
  exact ⟨ret_int (by first | rfl | go_num), rfl⟩
theorem cl10 {w : World} {gc gl gn ge gf gp go : Nat} {c : Co} {s : Sh} (B : Bn w gc gl gn ge gf gp go c s) (h : c.Ok) (k : s.Ok) (p : Pt c s) : Calls Tryz.prog 265 #[.pointer (some ⟨ge, 0, none⟩)] w fun e w' => e = .returned (.int .u64 (bd c s 10)) ∧ w' = w := by
  obtain ⟨⟨_, _, _, m, fa, st, di⟩, _, l, _, n, _, e, _, f, _, p', _, _, _⟩ := B
  obtain ⟨e0, e1, f0, f1, p0, p1, lp0, lp1, nm0, nm1, us0, us1⟩ := p
  obtain ⟨a1, a2, a3, a4, b1, b2, d1, d2, e1', e2⟩ := h
  obtain ⟨_, u1, u2, l1, l2, n1, n2⟩ := k
  simp only [bd]
  generalize ent c s = E at *
  generalize fin c s = F at *
  generalize pag c = Q at *
  go_enter Tryz.func265, Tryz.ntmps265
  go_wp2
  go_ret
  exact ⟨ret_int (by first | rfl | go_num), rfl⟩
theorem below_drew (w : World) (B : Nat) : Below B w w.drew := (Below.refl B w).drew
theorem cl7 {w : World} {gc gl gn ge gf gp go : Nat} {c : Co} {s : Sh} (B : Bn w gc gl gn ge gf gp go c s) (h : c.Ok) (k : s.Ok) (p : Pt c s) : Calls Tryz.prog 262 #[.pointer (some ⟨go, 0, none⟩)] w fun e w' => e = .returned (.int .u64 (bd c s 7)) ∧ Below w.heap.size w w' := by
  have C4 : Hid (Calls Tryz.prog 259 #[.pointer (some ⟨ge, 0, none⟩), .pointer (some ⟨gc, 0, none⟩)] w.drew fun e w' => e = .returned (.int .u64 (bd c s 4)) ∧ w' = w.drew) := cl4 (B.below (below_drew _ _)) h k p
  have C5 : Hid (Calls Tryz.prog 260 #[.pointer (some ⟨ge, 0, none⟩), .pointer (some ⟨gp, 0, none⟩)] w.drew fun e w' => e = .returned (.int .u64 (bd c s 5)) ∧ w' = w.drew) := cl5 (B.below (below_drew _ _)) h k p
  obtain ⟨_, _, _, _, _, _, _, _, _, _, _, _, o4, o5⟩ := B
  clear h k p
  rw [show bd c s 7 = max (bd c s 4) (bd c s 5) from rfl]
  generalize bd c s 4 = x at *
  generalize bd c s 5 = y at *
  go_enter Tryz.func262, Tryz.ntmps262
  go_wp2_with fail
  go_region_held3 (fun W => W.cell? ⟨go, 4, none⟩ = some (.func (.func 259) #[] #[.pointer (some ⟨ge, 0, none⟩), .pointer (some ⟨gc, 0, none⟩)]) ∧ W.cell? ⟨go, 5, none⟩ = some (.func (.func 260) #[] #[.pointer (some ⟨ge, 0, none⟩), .pointer (some ⟨gp, 0, none⟩)]))
    (first | exact ⟨o4, o5⟩)
    (first | (go_at_call 259; refine C4.out.mono ?_; rintro e w' ⟨rfl, rfl⟩) | (go_at_call 260; refine C5.out.mono ?_; rintro e w' ⟨rfl, rfl⟩))
  all_goals go_wp2
  all_goals (go_ret; exact ⟨ret_int (by omega), below_drew _ _⟩)
end Go.Proofs.YtkbpnkjjmipjfaaGreat
