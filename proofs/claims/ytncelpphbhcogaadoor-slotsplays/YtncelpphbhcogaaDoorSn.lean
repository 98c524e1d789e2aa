/- Both sides of SlotsPlays under one state: areas, or none; no condition but those that each theorem names. -/
import Derived.Test.YtncelpphbhcogaaDoorSk
namespace Go.Proofs.YtncelpphbhcogaaDoor.Z
open Go.ChangeShapes Go.WideShapes Go.ChangeAt Go.RowKit
set_option linter.unusedVariables false
set_option maxRecDepth 8192

theorem rTake_nil (w : World) : Calls Tryd.prog 9 #[.pointer none] w fun e w' => e = .returned (.tuple #[.int .i64 0, .int .i64 1]) ∧ w' = w := by
  go_enter Tryd.func9, Tryd.ntmps9
  go_wp2
  go_ret2
  exact ⟨rfl, rfl⟩
theorem rGive_nil (x : Int) (w : World) : Calls Tryd.prog 11 #[.pointer none, .int .i64 x] w fun e w' => e = .returned (.int .i64 1) ∧ w' = w := by
  go_enter Tryd.func11, Tryd.ntmps11
  go_wp2
  go_ret
  exact ⟨rfl, rfl⟩
theorem rFree_nil (w : World) : Calls Tryd.prog 14 #[.pointer none] w fun e w' => e = .returned (.int .i64 0) ∧ w' = w := by
  go_enter Tryd.func14, Tryd.ntmps14
  go_wp2
  go_ret
  exact ⟨rfl, rfl⟩
theorem rUsed_nil (w : World) : Calls Tryd.prog 16 #[.pointer none] w fun e w' => e = .returned (.slice none 0 0) ∧ w' = w := by
  go_enter Tryd.func16, Tryd.ntmps16
  go_wp2
  go_ret
  exact ⟨rfl, rfl⟩
theorem tk_all (T : List Bool) : ∃ T' a er, TkS T T' a er := by
  rcases fr_or T with ⟨i, h⟩ | h
  · exact ⟨_, _, _, Or.inl ⟨i, h, rfl, rfl, rfl⟩⟩
  · exact ⟨_, _, _, Or.inr ⟨h, rfl, rfl, rfl⟩⟩
theorem gv_all (T : List Bool) (x : Int) : ∃ T' er, GvS T x T' er := by
  by_cases h : ∃ k : Nat, x = (k : Int) ∧ T[k]? = some true
  · obtain ⟨k, h1, h2⟩ := h
    exact ⟨_, _, Or.inl ⟨k, h1, h2, rfl, rfl⟩⟩
  · exact ⟨_, _, Or.inr ⟨fun k h1 h2 => h ⟨k, h1, h2⟩, rfl, rfl⟩⟩
/-- Answers of an area, or of none. -/
def TkO : Option (List Bool) → Option (List Bool) → Int → Int → Prop
  | none, S', a, e => S' = none ∧ a = 0 ∧ e = 1
  | some T, S', a, e => ∃ T', S' = some T' ∧ TkS T T' a e
def GvO : Option (List Bool) → Int → Option (List Bool) → Int → Prop
  | none, _, S', e => S' = none ∧ e = 1
  | some T, x, S', e => ∃ T', S' = some T' ∧ GvS T x T' e
def usO : Option (List Bool) → List Nat
  | none => []
  | some T => us T
def frO : Option (List Bool) → Int
  | none => 0
  | some T => (T.length : Int) - (cT T : Nat)
theorem tkO_all (S : Option (List Bool)) : ∃ S' a er, TkO S S' a er := by
  cases S with
  | none => exact ⟨_, _, _, rfl, rfl, rfl⟩
  | some T =>
    obtain ⟨T', a, er, h⟩ := tk_all T
    exact ⟨_, a, er, T', rfl, h⟩
theorem gvO_all (S : Option (List Bool)) (x : Int) : ∃ S' er, GvO S x S' er := by
  cases S with
  | none => exact ⟨_, _, rfl, rfl⟩
  | some T =>
    obtain ⟨T', er, h⟩ := gv_all T x
    exact ⟨_, er, T', rfl, h⟩
/-- Both sides: the program's area in the state S, the document's in the state R; or none of both. -/
structure Pl (w0 w : World) (vs vr : Value) (S R : Option (List Bool)) : Prop where
  be : Below w0.heap.size w0 w
  tb : Tb w
  c : (S = none ∧ R = none ∧ vs = .pointer none ∧ vr = .pointer none) ∨
    ∃ s g r h T U, S = some T ∧ R = some U ∧ vs = .pointer (some ⟨s, 0, none⟩) ∧ vr = .pointer (some ⟨r, 0, none⟩) ∧ Ap w s g T ∧ Rl w r h U ∧ (w0.heap.size ≤ g ∧ w0.heap.size ≤ h) ∧ h ≠ 0 ∧ g ≠ r ∧ g ≠ h ∧ s ≠ h
theorem Pl.below {w0 w w' : World} {vs vr : Value} {S R : Option (List Bool)} (p : Pl w0 w vs vr S R) (k : Below w.heap.size w w') : Pl w0 w' vs vr S R := by
  refine ⟨bs p.be k, p.tb.below k, ?_⟩
  rcases p.c with q | ⟨s, g, r, h, T, U, e1, e2, e3, e4, ha, hr, hz⟩
  · exact Or.inl q
  · exact Or.inr ⟨s, g, r, h, T, U, e1, e2, e3, e4, ha.below k, hr.below k, hz⟩
theorem takeP {w0 w : World} {vs vr : Value} {S R S' : Option (List Bool)} {a er : Int} (p : Pl w0 w vs vr S R) (t : TkO S S' a er) : Calls Tryd.prog 8 #[vs] w fun e w' => e = .returned (.tuple #[.int .i64 a, .int .i64 er]) ∧ Pl w0 w' vs vr S' R := by
  rcases p.c with ⟨rfl, rfl, rfl, rfl⟩ | ⟨s, g, r, h, T, U, rfl, rfl, rfl, rfl, ha, hr, hz, h0, hgr, hgh, hsh⟩
  · obtain ⟨rfl, rfl, rfl⟩ := t
    exact (Take_no (q := none) (Or.inl rfl)).mono fun e w' ⟨he, hw⟩ => ⟨he, by rw [hw]; exact p⟩
  · obtain ⟨T', rfl, t⟩ := t
    exact (aTake_is ha p.tb t).mono fun e w' ⟨he, ha2, hk, ht⟩ => ⟨he, p.be.grown hk p.be.size (fun k hk => by cases hk; exact hz.1), ht, Or.inr ⟨s, g, r, h, T', U, rfl, rfl, rfl, rfl, ha2, hr.kept hk (Ne.symm hgr) (Ne.symm hgh), hz, h0, hgr, hgh, hsh⟩⟩
theorem takeR {w0 w : World} {vs vr : Value} {S R R' : Option (List Bool)} {a er : Int} (p : Pl w0 w vs vr S R) (t : TkO R R' a er) : Calls Tryd.prog 9 #[vr] w fun e w' => e = .returned (.tuple #[.int .i64 a, .int .i64 er]) ∧ Pl w0 w' vs vr S R' := by
  rcases p.c with ⟨rfl, rfl, rfl, rfl⟩ | ⟨s, g, r, h, T, U, rfl, rfl, rfl, rfl, ha, hr, hz, h0, hgr, hgh, hsh⟩
  · obtain ⟨rfl, rfl, rfl⟩ := t
    exact (rTake_nil w).mono fun e w' ⟨he, hw⟩ => ⟨he, by rw [hw]; exact p⟩
  · obtain ⟨U', rfl, t⟩ := t
    exact (rTake_any hr).mono fun e w' ⟨U2, a2, er2, he, t2, hr2, hk⟩ => by
      obtain ⟨rfl, rfl, rfl⟩ := t2.uniq t
      exact ⟨he, p.be.grown hk p.be.size (fun k hk => by cases hk; exact hz.2), p.tb.kept hk h0, Or.inr ⟨s, g, r, h, T, _, rfl, rfl, rfl, rfl, ha.kept hk hsh hgh, hr2, hz, h0, hgr, hgh, hsh⟩⟩
theorem giveP {w0 w : World} {vs vr : Value} {S R S' : Option (List Bool)} {x er : Int} (p : Pl w0 w vs vr S R) (t : GvO S x S' er) : Calls Tryd.prog 10 #[vs, .int .i64 x] w fun e w' => e = .returned (.int .i64 er) ∧ Pl w0 w' vs vr S' R := by
  rcases p.c with ⟨rfl, rfl, rfl, rfl⟩ | ⟨s, g, r, h, T, U, rfl, rfl, rfl, rfl, ha, hr, hz, h0, hgr, hgh, hsh⟩
  · obtain ⟨rfl, rfl⟩ := t
    exact (Give_no (q := none) (Or.inl rfl) x).mono fun e w' ⟨he, hw⟩ => ⟨he, by rw [hw]; exact p⟩
  · obtain ⟨T', rfl, t⟩ := t
    exact (aGive_is ha p.tb t).mono fun e w' ⟨he, ha2, hk, ht⟩ => ⟨he, p.be.grown hk p.be.size (fun k hk => by cases hk; exact hz.1), ht, Or.inr ⟨s, g, r, h, T', U, rfl, rfl, rfl, rfl, ha2, hr.kept hk (Ne.symm hgr) (Ne.symm hgh), hz, h0, hgr, hgh, hsh⟩⟩
theorem giveR {w0 w : World} {vs vr : Value} {S R R' : Option (List Bool)} {x er : Int} (p : Pl w0 w vs vr S R) (t : GvO R x R' er) : Calls Tryd.prog 11 #[vr, .int .i64 x] w fun e w' => e = .returned (.int .i64 er) ∧ Pl w0 w' vs vr S R' := by
  rcases p.c with ⟨rfl, rfl, rfl, rfl⟩ | ⟨s, g, r, h, T, U, rfl, rfl, rfl, rfl, ha, hr, hz, h0, hgr, hgh, hsh⟩
  · obtain ⟨rfl, rfl⟩ := t
    exact (rGive_nil x w).mono fun e w' ⟨he, hw⟩ => ⟨he, by rw [hw]; exact p⟩
  · obtain ⟨U', rfl, t⟩ := t
    exact (rGive_any hr x).mono fun e w' ⟨U2, er2, he, t2, hr2, hk⟩ => by
      obtain ⟨rfl, rfl⟩ := t2.uniq t
      exact ⟨he, p.be.grown hk p.be.size (fun k hk => by cases hk; exact hz.2), p.tb.kept hk h0, Or.inr ⟨s, g, r, h, T, _, rfl, rfl, rfl, rfl, ha.kept hk hsh hgh, hr2, hz, h0, hgr, hgh, hsh⟩⟩
theorem freeP {w0 w : World} {vs vr : Value} {S R : Option (List Bool)} (p : Pl w0 w vs vr S R) : Calls Tryd.prog 13 #[vs] w fun e w' => e = .returned (.int .i64 (frO S)) ∧ Below w.heap.size w w' := by
  rcases p.c with ⟨rfl, rfl, rfl, rfl⟩ | ⟨s, g, r, h, T, U, rfl, rfl, rfl, rfl, ha, hr, hz⟩
  · exact (Free_no (q := none) (Or.inl rfl)).mono fun e w' ⟨he, hw⟩ => ⟨he, by rw [hw]; exact Below.refl _ _⟩
  · exact aFree ha
theorem freeR {w0 w : World} {vs vr : Value} {S R : Option (List Bool)} (p : Pl w0 w vs vr S R) : Calls Tryd.prog 14 #[vr] w fun e w' => e = .returned (.int .i64 (frO R)) ∧ Below w.heap.size w w' := by
  rcases p.c with ⟨rfl, rfl, rfl, rfl⟩ | ⟨s, g, r, h, T, U, rfl, rfl, rfl, rfl, ha, hr, hz⟩
  · exact (rFree_nil w).mono fun e w' ⟨he, hw⟩ => ⟨he, by rw [hw]; exact Below.refl _ _⟩
  · exact rFree_any hr
theorem usedP {w0 w : World} {vs vr : Value} {S R : Option (List Bool)} (p : Pl w0 w vs vr S R) : Calls Tryd.prog 12 #[vs] w fun e w' => ∃ v, e = .returned v ∧ Is w' w.heap.size v (usO S) ∧ Below w.heap.size w w' := by
  rcases p.c with ⟨rfl, rfl, rfl, rfl⟩ | ⟨s, g, r, h, T, U, rfl, rfl, rfl, rfl, ha, hr, hz⟩
  · exact (Used_no (q := none) (Or.inl rfl)).mono fun e w' ⟨he, hw⟩ => ⟨_, he, Is.nil _ _, by rw [hw]; exact Below.refl _ _⟩
  · exact aUsed ha
theorem usedR {w0 w : World} {vs vr : Value} {S R : Option (List Bool)} (p : Pl w0 w vs vr S R) : Calls Tryd.prog 16 #[vr] w fun e w' => ∃ v, e = .returned v ∧ Is w' w.heap.size v (usO R) ∧ Below w.heap.size w w' := by
  rcases p.c with ⟨rfl, rfl, rfl, rfl⟩ | ⟨s, g, r, h, T, U, rfl, rfl, rfl, rfl, ha, hr, hz⟩
  · exact (rUsed_nil w).mono fun e w' ⟨he, hw⟩ => ⟨_, he, Is.nil _ _, by rw [hw]; exact Below.refl _ _⟩
  · exact rUsed_any hr
theorem usO_le {w0 w : World} {vs vr : Value} {S R : Option (List Bool)} (p : Pl w0 w vs vr S R) : (usO S).length ≤ 4096 := by
  rcases p.c with ⟨rfl, _⟩ | ⟨s, g, r, h, T, U, rfl, rfl, rfl, rfl, ha, hr, hz⟩
  · simp [usO]
  · have h1 := ha.n
    have h2 := cT_le T
    show (us T).length ≤ 4096
    rw [us_len]
    omega
/-- Both sides made, or refused. -/
theorem pl_none {w0 w : World} (hb : Below w0.heap.size w0 w) (ht : Tb w) : Pl w0 w (.pointer none) (.pointer none) none none := ⟨hb, ht, Or.inl ⟨rfl, rfl, rfl, rfl⟩⟩
theorem pl_some {w0 w w1 w2 : World} {s g r h n : Nat} (hb : Below w0.heap.size w0 w) (ht : Tb w) (ha : Ap w1 s g (nw n)) (hs : w.heap.size ≤ s) (hg : w.heap.size ≤ g) (hb1 : Below w.heap.size w w1) (hr : Rl w2 r h (nw n)) (hr1 : w1.heap.size ≤ r) (hh1 : w1.heap.size ≤ h) (hb2 : Below w1.heap.size w1 w2) :
    Pl w0 w2 (.pointer (some ⟨s, 0, none⟩)) (.pointer (some ⟨r, 0, none⟩)) (some (nw n)) (some (nw n)) := by
  have q := ha.lt
  have z := hb.size
  have z1 := hb1.size
  have z2 := ht.lt
  exact ⟨bs (bs hb hb1) hb2, (ht.below hb1).below hb2, Or.inr ⟨s, g, r, h, _, _, rfl, rfl, rfl, rfl, ha.below hb2, hr, ⟨by omega, by omega⟩, by omega, by omega, by omega, by omega⟩⟩
end Go.Proofs.YtncelpphbhcogaaDoor.Z
