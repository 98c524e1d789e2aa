/- What each of the kinds' bounds gives back over what it stands on. -/
import Derived.Test.YtifchflbhdnfaaaVFa
import Derived.Deep.RegionHeld3
namespace Go.Proofs.Ytifchflbhdnfaaa
open Go.ChangeShapes Go.WideShapes Go.ChangeAt Go.RowKit
set_option linter.unusedVariables false

theorem below_drewN' (w : World) (B n : Nat) : Below B w (w.drewN n) := below_drewN (Below.refl _ _) n
theorem cl0 {w : World} {gc gl gn ge gf gp go : Nat} {c : Co} {s : Sh} (B : Bn w gc gl gn ge gf gp go c s) (h : c.Ok) (k : s.Ok) (p : Pt c s) : Calls Try.prog 78 #[.pointer (some ⟨ge, 0, none⟩)] w fun e w' => e = .returned (.int .u64 (bd c s 0)) ∧ w' = w := by
  obtain ⟨⟨_, _, _, m, fa, st, di⟩, _, l, _, n, _, e, _, f, _, p', _, _, _⟩ := B
  obtain ⟨e0, e1, f0, f1, p0, p1, lp0, lp1, nm0, nm1, us0, us1⟩ := p
  obtain ⟨a1, a2, a3, a4, b1, b2, d1, d2, e1', e2⟩ := h
  obtain ⟨_, u1, u2, l1, l2, n1, n2⟩ := k
  simp only [bd]
  generalize ent c s = E at *
  generalize fin c s = F at *
  generalize pag c = Q at *
  go_enter Try.func78, Try.ntmps78
  go_wp2
  go_ret
  exact ⟨ret_int (by first | rfl | go_num), rfl⟩
theorem cl1 {w : World} {gc gl gn ge gf gp go : Nat} {c : Co} {s : Sh} (B : Bn w gc gl gn ge gf gp go c s) (h : c.Ok) (k : s.Ok) (p : Pt c s) : Calls Try.prog 79 #[.pointer (some ⟨ge, 0, none⟩), .pointer (some ⟨gc, 0, none⟩)] w fun e w' => e = .returned (.int .u64 (bd c s 1)) ∧ w' = w := by
  obtain ⟨⟨_, _, _, m, fa, st, di⟩, _, l, _, n, _, e, _, f, _, p', _, _, _⟩ := B
  obtain ⟨e0, e1, f0, f1, p0, p1, lp0, lp1, nm0, nm1, us0, us1⟩ := p
  obtain ⟨a1, a2, a3, a4, b1, b2, d1, d2, e1', e2⟩ := h
  obtain ⟨_, u1, u2, l1, l2, n1, n2⟩ := k
  simp only [bd]
  generalize ent c s = E at *
  generalize fin c s = F at *
  generalize pag c = Q at *
  go_enter Try.func79, Try.ntmps79
  go_wp2
  go_ret
  exact ⟨ret_int (by first | rfl | go_num), rfl⟩
theorem cl2 {w : World} {gc gl gn ge gf gp go : Nat} {c : Co} {s : Sh} (B : Bn w gc gl gn ge gf gp go c s) (h : c.Ok) (k : s.Ok) (p : Pt c s) : Calls Try.prog 80 #[.pointer (some ⟨ge, 0, none⟩), .pointer (some ⟨gl, 0, none⟩), .pointer (some ⟨gp, 0, none⟩), .pointer (some ⟨gc, 0, none⟩)] w fun e w' => e = .returned (.int .u64 (bd c s 2)) ∧ w' = w := by
  obtain ⟨⟨_, _, _, m, fa, st, di⟩, _, l, _, n, _, e, _, f, _, p', _, _, _⟩ := B
  obtain ⟨e0, e1, f0, f1, p0, p1, lp0, lp1, nm0, nm1, us0, us1⟩ := p
  obtain ⟨a1, a2, a3, a4, b1, b2, d1, d2, e1', e2⟩ := h
  obtain ⟨_, u1, u2, l1, l2, n1, n2⟩ := k
  simp only [bd]
  generalize ent c s = E at *
  generalize fin c s = F at *
  generalize pag c = Q at *
  go_enter Try.func80, Try.ntmps80
  go_wp2
  go_ret
  exact ⟨ret_int (by first | rfl | go_num), rfl⟩
theorem cl3 {w : World} {gc gl gn ge gf gp go : Nat} {c : Co} {s : Sh} (B : Bn w gc gl gn ge gf gp go c s) (h : c.Ok) (k : s.Ok) (p : Pt c s) : Calls Try.prog 81 #[.pointer (some ⟨ge, 0, none⟩), .pointer (some ⟨gc, 0, none⟩), .pointer (some ⟨gn, 0, none⟩), .pointer (some ⟨gl, 0, none⟩), .pointer (some ⟨gp, 0, none⟩)] w fun e w' => e = .returned (.int .u64 (bd c s 3)) ∧ w' = w := by
  obtain ⟨⟨_, _, _, m, fa, st, di⟩, _, l, _, n, _, e, _, f, _, p', _, _, _⟩ := B
  obtain ⟨e0, e1, f0, f1, p0, p1, lp0, lp1, nm0, nm1, us0, us1⟩ := p
  obtain ⟨a1, a2, a3, a4, b1, b2, d1, d2, e1', e2⟩ := h
  obtain ⟨_, u1, u2, l1, l2, n1, n2⟩ := k
  simp only [bd]
  generalize ent c s = E at *
  generalize fin c s = F at *
  generalize pag c = Q at *
  go_enter Try.func81, Try.ntmps81
  go_wp2
  go_ret
  exact ⟨ret_int (by first | rfl | go_num), rfl⟩
theorem cl4 {w : World} {gc gl gn ge gf gp go : Nat} {c : Co} {s : Sh} (B : Bn w gc gl gn ge gf gp go c s) (h : c.Ok) (k : s.Ok) (p : Pt c s) : Calls Try.prog 82 #[.pointer (some ⟨ge, 0, none⟩), .pointer (some ⟨gc, 0, none⟩)] w fun e w' => e = .returned (.int .u64 (bd c s 4)) ∧ w' = w := by
  obtain ⟨⟨_, _, _, m, fa, st, di⟩, _, l, _, n, _, e, _, f, _, p', _, _, _⟩ := B
  obtain ⟨e0, e1, f0, f1, p0, p1, lp0, lp1, nm0, nm1, us0, us1⟩ := p
  obtain ⟨a1, a2, a3, a4, b1, b2, d1, d2, e1', e2⟩ := h
  obtain ⟨_, u1, u2, l1, l2, n1, n2⟩ := k
  simp only [bd]
  generalize ent c s = E at *
  generalize fin c s = F at *
  generalize pag c = Q at *
  go_enter Try.func82, Try.ntmps82
  go_wp2
  go_ret
  exact ⟨ret_int (by first | rfl | go_num), rfl⟩
theorem cl5 {w : World} {gc gl gn ge gf gp go : Nat} {c : Co} {s : Sh} (B : Bn w gc gl gn ge gf gp go c s) (h : c.Ok) (k : s.Ok) (p : Pt c s) : Calls Try.prog 83 #[.pointer (some ⟨ge, 0, none⟩), .pointer (some ⟨gp, 0, none⟩)] w fun e w' => e = .returned (.int .u64 (bd c s 5)) ∧ w' = w := by
  obtain ⟨⟨_, _, _, m, fa, st, di⟩, _, l, _, n, _, e, _, f, _, p', _, _, _⟩ := B
  obtain ⟨e0, e1, f0, f1, p0, p1, lp0, lp1, nm0, nm1, us0, us1⟩ := p
  obtain ⟨a1, a2, a3, a4, b1, b2, d1, d2, e1', e2⟩ := h
  obtain ⟨_, u1, u2, l1, l2, n1, n2⟩ := k
  simp only [bd]
  generalize ent c s = E at *
  generalize fin c s = F at *
  generalize pag c = Q at *
  go_enter Try.func83, Try.ntmps83
  go_wp2
  go_ret
  exact ⟨ret_int (by first | rfl | go_num), rfl⟩
theorem cl6 {w : World} {gc gl gn ge gf gp go : Nat} {c : Co} {s : Sh} (B : Bn w gc gl gn ge gf gp go c s) (h : c.Ok) (k : s.Ok) (p : Pt c s) : Calls Try.prog 84 #[.pointer (some ⟨ge, 0, none⟩), .pointer (some ⟨gc, 0, none⟩)] w fun e w' => e = .returned (.int .u64 (bd c s 6)) ∧ w' = w := by
  obtain ⟨⟨_, _, _, m, fa, st, di⟩, _, l, _, n, _, e, _, f, _, p', _, _, _⟩ := B
  obtain ⟨e0, e1, f0, f1, p0, p1, lp0, lp1, nm0, nm1, us0, us1⟩ := p
  obtain ⟨a1, a2, a3, a4, b1, b2, d1, d2, e1', e2⟩ := h
  obtain ⟨_, u1, u2, l1, l2, n1, n2⟩ := k
  simp only [bd]
  generalize ent c s = E at *
  generalize fin c s = F at *
  generalize pag c = Q at *
  go_enter Try.func84, Try.ntmps84
  go_wp2
  go_ret
  exact ⟨ret_int (by first | rfl | go_num), rfl⟩
theorem cl8 {w : World} {gc gl gn ge gf gp go : Nat} {c : Co} {s : Sh} (B : Bn w gc gl gn ge gf gp go c s) (h : c.Ok) (k : s.Ok) (p : Pt c s) : Calls Try.prog 86 #[.pointer (some ⟨ge, 0, none⟩), .pointer (some ⟨gc, 0, none⟩), .pointer (some ⟨gf, 0, none⟩)] w fun e w' => e = .returned (.int .u64 (bd c s 8)) ∧ w' = w := by
  obtain ⟨⟨_, _, _, m, fa, st, di⟩, _, l, _, n, _, e, _, f, _, p', _, _, _⟩ := B
  obtain ⟨e0, e1, f0, f1, p0, p1, lp0, lp1, nm0, nm1, us0, us1⟩ := p
  obtain ⟨a1, a2, a3, a4, b1, b2, d1, d2, e1', e2⟩ := h
  obtain ⟨_, u1, u2, l1, l2, n1, n2⟩ := k
  simp only [bd]
  generalize ent c s = E at *
  generalize fin c s = F at *
  generalize pag c = Q at *
  go_enter Try.func86, Try.ntmps86
  go_wp2
  go_ret
  exact ⟨ret_int (by first | rfl | go_num), rfl⟩
theorem cl9 {w : World} {gc gl gn ge gf gp go : Nat} {c : Co} {s : Sh} (B : Bn w gc gl gn ge gf gp go c s) (h : c.Ok) (k : s.Ok) (p : Pt c s) : Calls Try.prog 87 #[.pointer (some ⟨ge, 0, none⟩), .pointer (some ⟨gc, 0, none⟩), .pointer (some ⟨gf, 0, none⟩)] w fun e w' => e = .returned (.int .u64 (bd c s 9)) ∧ w' = w := by
  obtain ⟨⟨_, _, _, m, fa, st, di⟩, _, l, _, n, _, e, _, f, _, p', _, _, _⟩ := B
  obtain ⟨e0, e1, f0, f1, p0, p1, lp0, lp1, nm0, nm1, us0, us1⟩ := p
  obtain ⟨a1, a2, a3, a4, b1, b2, d1, d2, e1', e2⟩ := h
  obtain ⟨_, u1, u2, l1, l2, n1, n2⟩ := k
  simp only [bd]
  generalize ent c s = E at *
  generalize fin c s = F at *
  generalize pag c = Q at *
  go_enter Try.func87, Try.ntmps87
  go_wp2
  go_ret
  exact ⟨ret_int (by first | rfl | go_num), rfl⟩
theorem cl10 {w : World} {gc gl gn ge gf gp go : Nat} {c : Co} {s : Sh} (B : Bn w gc gl gn ge gf gp go c s) (h : c.Ok) (k : s.Ok) (p : Pt c s) : Calls Try.prog 88 #[.pointer (some ⟨ge, 0, none⟩)] w fun e w' => e = .returned (.int .u64 (bd c s 10)) ∧ w' = w := by
  obtain ⟨⟨_, _, _, m, fa, st, di⟩, _, l, _, n, _, e, _, f, _, p', _, _, _⟩ := B
  obtain ⟨e0, e1, f0, f1, p0, p1, lp0, lp1, nm0, nm1, us0, us1⟩ := p
  obtain ⟨a1, a2, a3, a4, b1, b2, d1, d2, e1', e2⟩ := h
  obtain ⟨_, u1, u2, l1, l2, n1, n2⟩ := k
  simp only [bd]
  generalize ent c s = E at *
  generalize fin c s = F at *
  generalize pag c = Q at *
  go_enter Try.func88, Try.ntmps88
  go_wp2
  go_ret
  exact ⟨ret_int (by first | rfl | go_num), rfl⟩
theorem below_drew (w : World) (B : Nat) : Below B w w.drew := (Below.refl B w).drew
theorem cl7 {w : World} {gc gl gn ge gf gp go : Nat} {c : Co} {s : Sh} (B : Bn w gc gl gn ge gf gp go c s) (h : c.Ok) (k : s.Ok) (p : Pt c s) : Calls Try.prog 85 #[.pointer (some ⟨go, 0, none⟩)] w fun e w' => e = .returned (.int .u64 (bd c s 7)) ∧ Below w.heap.size w w' := by
  have C4 : Hid (Calls Try.prog 82 #[.pointer (some ⟨ge, 0, none⟩), .pointer (some ⟨gc, 0, none⟩)] w.drew fun e w' => e = .returned (.int .u64 (bd c s 4)) ∧ w' = w.drew) := cl4 (B.below (below_drew _ _)) h k p
  have C5 : Hid (Calls Try.prog 83 #[.pointer (some ⟨ge, 0, none⟩), .pointer (some ⟨gp, 0, none⟩)] w.drew fun e w' => e = .returned (.int .u64 (bd c s 5)) ∧ w' = w.drew) := cl5 (B.below (below_drew _ _)) h k p
  obtain ⟨_, _, _, _, _, _, _, _, _, _, _, _, o4, o5⟩ := B
  clear h k p
  rw [show bd c s 7 = max (bd c s 4) (bd c s 5) from rfl]
  generalize bd c s 4 = x at *
  generalize bd c s 5 = y at *
  go_enter Try.func85, Try.ntmps85
  go_wp2_with fail
  go_region_held3 (fun W => W.cell? ⟨go, 4, none⟩ = some (.func (.func 82) #[] #[.pointer (some ⟨ge, 0, none⟩), .pointer (some ⟨gc, 0, none⟩)]) ∧ W.cell? ⟨go, 5, none⟩ = some (.func (.func 83) #[] #[.pointer (some ⟨ge, 0, none⟩), .pointer (some ⟨gp, 0, none⟩)]))
    (first | exact ⟨o4, o5⟩)
    (first | (go_at_call 82; refine C4.out.mono ?_; rintro e w' ⟨rfl, rfl⟩) | (go_at_call 83; refine C5.out.mono ?_; rintro e w' ⟨rfl, rfl⟩))
  all_goals go_wp2
  all_goals (go_ret; exact ⟨ret_int (by omega), below_drew _ _⟩)
end Go.Proofs.Ytifchflbhdnfaaa
