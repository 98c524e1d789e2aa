/- What each of the kinds' bounds gives back over what it stands on. -/
import Derived.Test.YtokaohlgncmoaaaGreatWFa
import Derived.Deep.RegionHeld3
namespace Go.Proofs.YtokaohlgncmoaaaGreat
open Go.ChangeShapes Go.WideShapes Go.ChangeAt Go.RowKit
set_option linter.unusedVariables false

theorem cl0 {w : World} {gc gl gn ge gf gp go : Nat} {c : Co} {s : Sh} (B : Bn w gc gl gn ge gf gp go c s) (h : c.Ok) (k : s.Ok) (p : Pt c s) : Calls Tryz.prog 180 #[.pointer (some ⟨ge, 0, none⟩)] w fun e w' => e = .returned (.int .u64 (bd c s 0)) ∧ w' = w := by
  obtain ⟨⟨_, _, _, m, fa, st, di⟩, _, l, _, n, _, e, _, f, _, p', _, _, _⟩ := B
  obtain ⟨e0, e1, f0, f1, p0, p1, lp0, lp1, nm0, nm1, us0, us1⟩ := p
  obtain ⟨a1, a2, a3, a4, b1, b2, d1, d2, e1', e2⟩ := h
  obtain ⟨_, u1, u2, l1, l2, n1, n2⟩ := k
  simp only [bd]
  generalize ent c s = E at *
  generalize fin c s = F at *
  generalize pag c = Q at *
  go_enter Tryz.func180, Tryz.ntmps180
  go_wp2
  go_ret
  exact ⟨ret_int (by first | rfl | go_num), rfl⟩
theorem cl1 {w : World} {gc gl gn ge gf gp go : Nat} {c : Co} {s : Sh} (B : Bn w gc gl gn ge gf gp go c s) (h : c.Ok) (k : s.Ok) (p : Pt c s) : Calls Tryz.prog 181 #[.pointer (some ⟨ge, 0, none⟩), .pointer (some ⟨gc, 0, none⟩)] w fun e w' => e = .returned (.int .u64 (bd c s 1)) ∧ w' = w := by
  obtain ⟨⟨_, _, _, m, fa, st, di⟩, _, l, _, n, _, e, _, f, _, p', _, _, _⟩ := B
  obtain ⟨e0, e1, f0, f1, p0, p1, lp0, lp1, nm0, nm1, us0, us1⟩ := p
  obtain ⟨a1, a2, a3, a4, b1, b2, d1, d2, e1', e2⟩ := h
  obtain ⟨_, u1, u2, l1, l2, n1, n2⟩ := k
  simp only [bd]
  generalize ent c s = E at *
  generalize fin c s = F at *
  generalize pag c = Q at *
  go_enter Tryz.func181, Tryz.ntmps181
  go_wp2
  go_ret
  exact ⟨ret_int (by first | rfl | go_num), rfl⟩
theorem cl2 {w : World} {gc gl gn ge gf gp go : Nat} {c : Co} {s : Sh} (B : Bn w gc gl gn ge gf gp go c s) (h : c.Ok) (k : s.Ok) (p : Pt c s) : Calls Tryz.prog 182 #[.pointer (some ⟨ge, 0, none⟩), .pointer (some ⟨gl, 0, none⟩), .pointer (some ⟨gp, 0, none⟩), .pointer (some ⟨gc, 0, none⟩)] w fun e w' => e = .returned (.int .u64 (bd c s 2)) ∧ w' = w := by
  obtain ⟨⟨_, _, _, m, fa, st, di⟩, _, l, _, n, _, e, _, f, _, p', _, _, _⟩ := B
  obtain ⟨e0, e1, f0, f1, p0, p1, lp0, lp1, nm0, nm1, us0, us1⟩ := p
  obtain ⟨a1, a2, a3, a4, b1, b2, d1, d2, e1', e2⟩ := h
  obtain ⟨_, u1, u2, l1, l2, n1, n2⟩ := k
  simp only [bd]
  generalize ent c s = E at *
  generalize fin c s = F at *
  generalize pag c = Q at *
  go_enter Tryz.func182, Tryz.ntmps182
  go_wp2
  go_ret
  exact ⟨ret_int (by first | rfl | go_num), rfl⟩
theorem cl3 {w : World} {gc gl gn ge gf gp go : Nat} {c : Co} {s : Sh} (B : Bn w gc gl gn ge gf gp go c s) (h : c.Ok) (k : s.Ok) (p : Pt c s) : Calls Tryz.prog 183 #[.pointer (some ⟨ge, 0, none⟩), .pointer (some ⟨gc, 0, none⟩), .pointer (some ⟨gn, 0, none⟩), .pointer (some ⟨gl, 0, none⟩), .pointer (some ⟨gp, 0, none⟩)] w fun e w' => e = .returned (.int .u64 (bd c s 3)) ∧ w' = w := by
  obtain ⟨⟨_, _, _, m, fa, st, di⟩, _, l, _, n, _, e, _, f, _, p', _, _, _⟩ := B
  obtain ⟨e0, e1, f0, f1, p0, p1, lp0, lp1, nm0, nm1, us0, us1⟩ := p
  obtain ⟨a1, a2, a3, a4, b1, b2, d1, d2, e1', e2⟩ := h
  obtain ⟨_, u1, u2, l1, l2, n1, n2⟩ := k
  simp only [bd]
  generalize ent c s = E at *
  generalize fin c s = F at *
  generalize pag c = Q at *
  go_enter Tryz.func183, Tryz.ntmps183
  go_wp2
  go_ret
  exact ⟨ret_int (by first | rfl | go_num), rfl⟩
theorem cl4 {w : World} {gc gl gn ge gf gp go : Nat} {c : Co} {s : Sh} (B : Bn w gc gl gn ge gf gp go c s) (h : c.Ok) (k : s.Ok) (p : Pt c s) : Calls Tryz.prog 184 #[.pointer (some ⟨ge, 0, none⟩), .pointer (some ⟨gc, 0, none⟩)] w fun e w' => e = .returned (.int .u64 (bd c s 4)) ∧ w' = w := by
  obtain ⟨⟨_, _, _, m, fa, st, di⟩, _, l, _, n, _, e, _, f, _, p', _, _, _⟩ := B
  obtain ⟨e0, e1, f0, f1, p0, p1, lp0, lp1, nm0, nm1, us0, us1⟩ := p
  obtain ⟨a1, a2, a3, a4, b1, b2, d1, d2, e1', e2⟩ := h
  obtain ⟨_, u1, u2, l1, l2, n1, n2⟩ := k
  simp only [bd]
  generalize ent c s = E at *
  generalize fin c s = F at *
  generalize pag c = Q at *
  go_enter Tryz.func184, Tryz.ntmps184
  go_wp2
  go_ret
  exact ⟨ret_int (by first | rfl | go_num), rfl⟩
theorem cl5 {w : World} {gc gl gn ge gf gp go : Nat} {c : Co} {s : Sh} (B : Bn w gc gl gn ge gf gp go c s) (h : c.Ok) (k : s.Ok) (p : Pt c s) : Calls Tryz.prog 185 #[.pointer (some ⟨ge, 0, none⟩), .pointer (some ⟨gp, 0, none⟩)] w fun e w' => e = .returned (.int .u64 (bd c s 5)) ∧ w' = w := by
  obtain ⟨⟨_, _, _, m, fa, st, di⟩, _, l, _, n, _, e, _, f, _, p', _, _, _⟩ := B
  obtain ⟨e0, e1, f0, f1, p0, p1, lp0, lp1, nm0, nm1, us0, us1⟩ := p
  obtain ⟨a1, a2, a3, a4, b1, b2, d1, d2, e1', e2⟩ := h
  obtain ⟨_, u1, u2, l1, l2, n1, n2⟩ := k
  simp only [bd]
  generalize ent c s = E at *
  generalize fin c s = F at *
  generalize pag c = Q at *
  go_enter Tryz.func185, Tryz.ntmps185
  go_wp2
  go_ret
  exact ⟨ret_int (by first | rfl | go_num), rfl⟩
theorem cl6 {w : World} {gc gl gn ge gf gp go : Nat} {c : Co} {s : Sh} (B : Bn w gc gl gn ge gf gp go c s) (h : c.Ok) (k : s.Ok) (p : Pt c s) : Calls Tryz.prog 186 #[.pointer (some ⟨ge, 0, none⟩), .pointer (some ⟨gc, 0, none⟩)] w fun e w' => e = .returned (.int .u64 (bd c s 6)) ∧ w' = w := by
  obtain ⟨⟨_, _, _, m, fa, st, di⟩, _, l, _, n, _, e, _, f, _, p', _, _, _⟩ := B
  obtain ⟨e0, e1, f0, f1, p0, p1, lp0, lp1, nm0, nm1, us0, us1⟩ := p
  obtain ⟨a1, a2, a3, a4, b1, b2, d1, d2, e1', e2⟩ := h
  obtain ⟨_, u1, u2, l1, l2, n1, n2⟩ := k
  simp only [bd]
  generalize ent c s = E at *
  generalize fin c s = F at *
  generalize pag c = Q at *
  go_enter Tryz.func186, Tryz.ntmps186
  go_wp2
  go_ret
  exact ⟨ret_int (by first | rfl | go_num), rfl⟩
theorem cl8 {w : World} {gc gl gn ge gf gp go : Nat} {c : Co} {s : Sh} (B : Bn w gc gl gn ge gf gp go c s) (h : c.Ok) (k : s.Ok) (p : Pt c s) : Calls Tryz.prog 188 #[.pointer (some ⟨ge, 0, none⟩), .pointer (some ⟨gc, 0, none⟩), .pointer (some ⟨gf, 0, none⟩)] w fun e w' => e = .returned (.int .u64 (bd c s 8)) ∧ w' = w := by
  obtain ⟨⟨_, _, _, m, fa, st, di⟩, _, l, _, n, _, e, _, f, _, p', _, _, _⟩ := B
  obtain ⟨e0, e1, f0, f1, p0, p1, lp0, lp1, nm0, nm1, us0, us1⟩ := p
  obtain ⟨a1, a2, a3, a4, b1, b2, d1, d2, e1', e2⟩ := h
  obtain ⟨_, u1, u2, l1, l2, n1, n2⟩ := k
  simp only [bd]
  generalize ent c s = E at *
  generalize fin c s = F at *
  generalize pag c = Q at *
  go_enter Tryz.func188, Tryz.ntmps188
  go_wp2
  go_ret
  exact ⟨ret_int (by first | rfl | go_num), rfl⟩
theorem cl9 {w : World} {gc gl gn ge gf gp go : Nat} {c : Co} {s : Sh} (B : Bn w gc gl gn ge gf gp go c s) (h : c.Ok) (k : s.Ok) (p : Pt c s) : Calls Tryz.prog 189 #[.pointer (some ⟨ge, 0, none⟩), .pointer (some ⟨gc, 0, none⟩), .pointer (some ⟨gf, 0, none⟩)] w fun e w' => e = .returned (.int .u64 (bd c s 9)) ∧ w' = w := by
  obtain ⟨⟨_, _, _, m, fa, st, di⟩, _, l, _, n, _, e, _, f, _, p', _, _, _⟩ := B
  obtain ⟨e0, e1, f0, f1, p0, p1, lp0, lp1, nm0, nm1, us0, us1⟩ := p
  obtain ⟨a1, a2, a3, a4, b1, b2, d1, d2, e1', e2⟩ := h
  obtain ⟨_, u1, u2, l1, l2, n1, n2⟩ := k
  simp only [bd]
  generalize ent c s = E at *
  generalize fin c s = F at *
  generalize pag c = Q at *
  go_enter Tryz.func189, Tryz.ntmps189
  go_wp2
  go_ret
  exact ⟨ret_int (by first | rfl | go_num), rfl⟩
theorem cl10 {w : World} {gc gl gn ge gf gp go : Nat} {c : Co} {s : Sh} (B : Bn w gc gl gn ge gf gp go c s) (h : c.Ok) (k : s.Ok) (p : Pt c s) : Calls Tryz.prog 190 #[.pointer (some ⟨ge, 0, none⟩)] w fun e w' => e = .returned (.int .u64 (bd c s 10)) ∧ w' = w := by
  obtain ⟨⟨_, _, _, m, fa, st, di⟩, _, l, _, n, _, e, _, f, _, p', _, _, _⟩ := B
  obtain ⟨e0, e1, f0, f1, p0, p1, lp0, lp1, nm0, nm1, us0, us1⟩ := p
  obtain ⟨a1, a2, a3, a4, b1, b2, d1, d2, e1', e2⟩ := h
  obtain ⟨_, u1, u2, l1, l2, n1, n2⟩ := k
  simp only [bd]
  generalize ent c s = E at *
  generalize fin c s = F at *
  generalize pag c = Q at *
  go_enter Tryz.func190, Tryz.ntmps190
  go_wp2
  go_ret
  exact ⟨ret_int (by first | rfl | go_num), rfl⟩
theorem below_drew (w : World) (B : Nat) : Below B w w.drew := (Below.refl B w).drew
theorem cl7 {w : World} {gc gl gn ge gf gp go : Nat} {c : Co} {s : Sh} (B : Bn w gc gl gn ge gf gp go c s) (h : c.Ok) (k : s.Ok) (p : Pt c s) : Calls Tryz.prog 187 #[.pointer (some ⟨go, 0, none⟩)] w fun e w' => e = .returned (.int .u64 (bd c s 7)) ∧ Below w.heap.size w w' := by
  have C4 : Hid (Calls Tryz.prog 184 #[.pointer (some ⟨ge, 0, none⟩), .pointer (some ⟨gc, 0, none⟩)] w.drew fun e w' => e = .returned (.int .u64 (bd c s 4)) ∧ w' = w.drew) := cl4 (B.below (below_drew _ _)) h k p
  have C5 : Hid (Calls Tryz.prog 185 #[.pointer (some ⟨ge, 0, none⟩), .pointer (some ⟨gp, 0, none⟩)] w.drew fun e w' => e = .returned (.int .u64 (bd c s 5)) ∧ w' = w.drew) := cl5 (B.below (below_drew _ _)) h k p
  obtain ⟨_, _, _, _, _, _, _, _, _, _, _, _, o4, o5⟩ := B
  clear h k p
  rw [show bd c s 7 = max (bd c s 4) (bd c s 5) from rfl]
  generalize bd c s 4 = x at *
  generalize bd c s 5 = y at *
  go_enter Tryz.func187, Tryz.ntmps187
  go_wp2_with fail
  go_region_held3 (fun W => W.cell? ⟨go, 4, none⟩ = some (.func (.func 184) #[] #[.pointer (some ⟨ge, 0, none⟩), .pointer (some ⟨gc, 0, none⟩)]) ∧ W.cell? ⟨go, 5, none⟩ = some (.func (.func 185) #[] #[.pointer (some ⟨ge, 0, none⟩), .pointer (some ⟨gp, 0, none⟩)]))
    (first | exact ⟨o4, o5⟩)
    (first | (go_at_call 184; refine C4.out.mono ?_; rintro e w' ⟨rfl, rfl⟩) | (go_at_call 185; refine C5.out.mono ?_; rintro e w' ⟨rfl, rfl⟩))
  all_goals go_wp2
  all_goals (go_ret; exact ⟨ret_int (by omega), below_drew _ _⟩)
end Go.Proofs.YtokaohlgncmoaaaGreat
