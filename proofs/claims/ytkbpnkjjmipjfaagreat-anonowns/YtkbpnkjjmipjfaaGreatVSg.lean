/- A pool and a slab over it, made since a call began: what the slab's calls tell and leave; the chapter's example; works; no condition but those that each theorem names. -/
import Derived.Test.YtkbpnkjjmipjfaaGreatVSv
import Derived.Test.YtkbpnkjjmipjfaaGreatVOw
namespace Go.Proofs.YtkbpnkjjmipjfaaGreat.P
open B Go.ChangeShapes Go.WideShapes Go.ChangeAt Go.RowKit
set_option linter.unusedVariables false
set_option maxRecDepth 8192

structure Se (w0 w : World) (F : Nat → Prop) (p : Nat) (P : Par) (us : Us) (s b u : Nat) (mk : Ms) : Prop where
  be : Below w0.heap.size w0 w
  fl : ∀ x, F x → w0.heap.size ≤ x
  s0 : w0.heap.size ≤ s
  b0 : w0.heap.size ≤ b
  po : Po w F p P us
  sl : Sl w s b p u mk
  d1 : ¬ F s
  d2 : ¬ F b
  lk : Lk u us mk
theorem Se.below {w0 w w' : World} {F : Nat → Prop} {p : Nat} {P : Par} {us : Us} {s b u : Nat} {mk : Ms} (h : Se w0 w F p P us s b u mk) (k : Below w.heap.size w w') : Se w0 w' F p P us s b u mk :=
  { h with be := h.be.trans (k.mono h.be.size), po := h.po.below k, sl := h.sl.below k }
theorem Se.next {w0 w w' : World} {F F' : Nat → Prop} {p : Nat} {P : Par} {us us' : Us} {s b u : Nat} {mk mk' : Ms} (h : Se w0 w F p P us s b u mk) (hp : Po w' F' p P us') (hs : Sl w' s b p u mk') (d1 : ¬ F' s) (d2 : ¬ F' b) (lk : Lk u us' mk') (k : Kp (fun x => F x ∨ x = b) (fun x => F' x ∨ x = b) w w') : Se w0 w' F' p P us' s b u mk' := by
  refine ⟨h.be.trans (k.below _ h.be.size (fun x hx => ?_)), fun x hx => ?_, h.s0, h.b0, hp, hs, d1, d2, lk⟩
  · rcases hx with z | z
    · exact h.fl x z
    · rw [z]; exact h.b0
  · rcases k.new x (Or.inl hx) with (z | z) | z
    · exact h.fl x z
    · rw [z]; exact h.b0
    · exact Nat.le_trans h.be.size z
theorem Se.take {w0 w : World} {F : Nat → Prop} {p : Nat} {P : Par} {us : Us} {s b u : Nat} {mk : Ms} (h : Se w0 w F p P us s b u mk) : Calls Tryz.prog 75 #[.pointer (some ⟨s, 0, none⟩)] w fun x w' => ∃ (a e : Nat) (us' : Us) (mk' : Ms) (F' : Nat → Prop), x = .returned (.tuple #[.int .u64 a, .int .i64 e]) ∧ TkS P u us mk a e us' mk' ∧ Se w0 w' F' p P us' s b u mk' ∧ Kp (fun x => F x ∨ x = b) (fun x => F' x ∨ x = b) w w' := by
  refine (STake_s h.po h.sl h.d1 h.d2 h.lk).mono ?_
  rintro x w' ⟨a, e, us', mk', F', rfl, h1, h2, h3, h4, h5, h6⟩
  exact ⟨a, e, us', mk', F', rfl, h1, h.next h2 h3 h4 h5 (h1.lk h.lk) h6, h6⟩
theorem Se.give {w0 w : World} {F : Nat → Prop} {p : Nat} {P : Par} {us : Us} {s b u : Nat} {mk : Ms} (h : Se w0 w F p P us s b u mk) {a e : Nat} {us' : Us} {mk' : Ms} (ha : a < 18446744073709551616) (hg : GvS u us mk a e us' mk') : Calls Tryz.prog 82 #[.pointer (some ⟨s, 0, none⟩), .int .u64 a] w fun x w' => ∃ F', x = .returned (.int .i64 e) ∧ Se w0 w' F' p P us' s b u mk' ∧ Kp (fun x => F x ∨ x = b) (fun x => F' x ∨ x = b) w w' := by
  refine (SGive_s h.po h.sl h.d1 h.d2 h.lk ha hg).mono ?_
  rintro x w' ⟨F', rfl, h2, h3, h4, h5, h6⟩
  exact ⟨F', rfl, h.next h2 h3 h4 h5 (hg.lk h.lk) h6, h6⟩
theorem Se.held {w0 w : World} {F : Nat → Prop} {p : Nat} {P : Par} {us : Us} {s b u : Nat} {mk : Ms} (h : Se w0 w F p P us s b u mk) : Calls Tryz.prog 83 #[.pointer (some ⟨s, 0, none⟩)] w fun x w' => ∃ v, x = .returned v ∧ Iu w' w.heap.size v (hel u mk) ∧ Below w.heap.size w w' ∧ Se w0 w' F p P us s b u mk := by
  refine (SHeld_s h.sl).mono ?_
  rintro x w' ⟨v, rfl, h1, h2⟩
  exact ⟨v, rfl, h1, h2, h.below h2⟩
theorem Se.other {w0 w w' : World} {F : Nat → Prop} {p : Nat} {P : Par} {us : Us} {s b u : Nat} {mk : Ms} {row : Option Nat} (h : Se w0 w F p P us s b u mk) (g : w.grownBy w' row) (hr : ∀ k, row = some k → w0.heap.size ≤ k ∧ ¬ F k ∧ k ≠ b ∧ k ≠ s) : Se w0 w' F p P us s b u mk := by
  have hn : ∀ x, (F x ∨ x = b ∨ x = s) → some x ≠ row := fun x hx e => by
    have := hr x e.symm
    rcases hx with z | z | z
    · exact this.2.1 z
    · exact this.2.2.1 z
    · exact this.2.2.2 z
  exact { h with
    be := h.be.trans (below_of g _ h.be.size (fun k hk => (hr k hk).1))
    po := h.po.of_eq g.size (fun x hx => g.block x (h.po.lt x hx) (hn x (Or.inl hx)))
    sl := h.sl.of_eq g.size (g.block s h.sl.lt (hn s (Or.inr (Or.inr rfl)))) (g.block b h.sl.mp.lt (hn b (Or.inr (Or.inl rfl)))) }
structure To (w : World) (base : Nat) (F : Nat → Prop) (s b : Nat) (v : Value) (l : List Int) : Prop where
  iu : Iu w base v l
  ap : ∀ k, v.ownBlock = some k → ¬ F k ∧ k ≠ b ∧ k ≠ s
end Go.Proofs.YtkbpnkjjmipjfaaGreat.P
namespace Go.Proofs.YtkbpnkjjmipjfaaGreat.P
open B Go.ChangeShapes Go.WideShapes Go.ChangeAt Go.RowKit
set_option linter.unusedVariables false
set_option maxRecDepth 8192

structure Pe (w0 w : World) (F : Nat → Prop) (p : Nat) (P : Par) (us : Us) : Prop where
  be : Below w0.heap.size w0 w
  fl : ∀ x, F x → w0.heap.size ≤ x
  po : Po w F p P us
theorem new_pe {w0 W : World} (hb : Below w0.heap.size w0 W) {a : Ad} {c : Cf} (hcu : c = us) (hc : Cin W a c) : Calls Tryz.prog 10 #[.agg #[.int .i64 c.F, .int .i64 c.C, .int .i64 c.W, .int .i64 c.S, .int .i64 c.V, .int .i64 c.T, .int .u64 c.k.l1, .int .u64 c.k.llc, .int .u64 c.k.mi, .int .u64 c.k.fa, .int .u64 c.k.st, .int .u64 c.k.di, .int .u64 c.sl, .int .u64 c.pd, .int .u64 c.ft, .slice a.ta c.tn a.tc, .slice a.pa c.pn a.pc], .int .i64 0] W fun e w' => ∃ p F, e = .returned (.tuple #[.pointer (some ⟨p, 0, none⟩), .int .i64 0]) ∧ Pe w0 w' F p PU (fun _ => none) := by
  subst hcu
  refine (New_p hc 0 us_may (by decide)).mono ?_
  rintro e w' ⟨p, F, rfl, hP, hK⟩
  refine ⟨p, F, rfl, hb.trans ((kp_false hK).mono hb.size), fun x hx => ?_, hP⟩
  rcases hK.new x hx with z | z
  · exact z.elim
  · exact Nat.le_trans hb.size z
theorem snew_pe {w0 w : World} {F : Nat → Prop} {p : Nat} {P : Par} {us : Us} (h : Pe w0 w F p P us) {u : Nat} (hu : 4 ≤ u ∧ u ≤ 6) : Calls Tryz.prog 11 #[.pointer (some ⟨p, 0, none⟩), .int .u8 u] w fun e w' => ∃ s b, e = .returned (.tuple #[.pointer (some ⟨s, 0, none⟩), .int .i64 0]) ∧ Se w0 w' F p P us s b u (fun _ => 0) := by
  refine (SNew_s h.po hu).mono ?_
  rintro e w' ⟨s, b, rfl, h1, h2, h3, h4⟩
  refine ⟨s, b, rfl, h.be.trans (h4.mono h.be.size), h.fl, Nat.le_trans h.be.size h2, Nat.le_trans h.be.size h3, h.po.below h4, h1, fun z => ?_, fun z => ?_, fun g z => absurd rfl z⟩
  · have := h.po.lt _ z; omega
  · have := h.po.lt _ z; omega
end Go.Proofs.YtkbpnkjjmipjfaaGreat.P
