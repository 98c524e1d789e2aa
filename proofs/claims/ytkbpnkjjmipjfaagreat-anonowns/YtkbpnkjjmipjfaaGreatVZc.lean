/- Where records stand: their core, their slab over its pool, and they themselves, all of their blocks made since a call began and apart; a part turned; no condition but those that each theorem names. -/
import Derived.Test.YtkbpnkjjmipjfaaGreatVZb
import Derived.Test.YtkbpnkjjmipjfaaGreatVCq
import Derived.Test.YtkbpnkjjmipjfaaGreatVJc
import Derived.Test.YtkbpnkjjmipjfaaGreatVJb
import Derived.Deep.RegionWith
namespace Go.Proofs.YtkbpnkjjmipjfaaGreat.Az
open B P Go.ChangeShapes Go.WideShapes Go.ChangeAt Go.RowKit
set_option linter.unusedVariables false

theorem kpC {X X' : Nat → Prop} {w w' : World} (h : C.Kp X X' w w') : Kp X X' w w' := ⟨h.os, h.tape, h.output, h.size, h.block, h.new⟩
structure Pz where
  a : Nat
  b : Nat
  h : Nat
  s : Nat
  q : Nat
  p : Nat
theorem se_kept {w0 w w' : World} {F H H' : Nat → Prop} {p : Nat} {Q : Par} {us : Us} {s b u : Nat} {mk : Ms} (h : P.Se w0 w F p Q us s b u mk) (k : Kp H H' w w') (hl : ∀ x, H x → w0.heap.size ≤ x) (hd : ∀ x, H x → ¬ F x ∧ x ≠ s ∧ x ≠ b) : P.Se w0 w' F p Q us s b u mk :=
  { h with
    be := h.be.trans (k.below _ h.be.size hl)
    po := h.po.kept k (fun x hx z => (hd x z).1 hx)
    sl := h.sl.kp k (fun z => (hd s z).2.1 rfl) (fun z => (hd b z).2.2 rfl) }
structure Tu (w0 w : World) (z : Pz) (X F : Nat → Prop) (L : Nat → Nat) (hw : E.Hw) (sc : E.Sc) (Q : Par) (us : Us) (mk : Ms) (u N : Nat) (f : Rs) (g : Nat → Nat) (V : Nat → Value) (A : Nat → Nat) : Prop where
  co : E.Cr E.pK w X z.h hw sc
  xl : ∀ x, X x → w0.heap.size ≤ x
  se : P.Se w0 w F z.p Q us z.s z.q u mk
  an : An w L z.a z.h z.s z.b N f g V A
  ll : ∀ x, L x ≠ 0 → w0.heap.size ≤ x
  d1 : ∀ x, X x → ¬ F x ∧ x ≠ z.s ∧ x ≠ z.q ∧ L x = 0
  d2 : ∀ x, (F x ∨ x = z.s ∨ x = z.q) → L x = 0
  nn : Q.N * Q.C ≤ hw.n
section
variable {w0 w w' : World} {z : Pz} {X F : Nat → Prop} {L : Nat → Nat} {hw : E.Hw} {sc : E.Sc} {Q : Par} {us : Us} {mk : Ms} {u N : Nat} {f : Rs} {g : Nat → Nat} {V : Nat → Value} {A : Nat → Nat}
theorem Tu.below (K : Tu w0 w z X F L hw sc Q us mk u N f g V A) (k : Below w.heap.size w w') : Tu w0 w' z X F L hw sc Q us mk u N f g V A :=
  { K with co := K.co.below k, se := K.se.below k, an := K.an.below k }
theorem Tu.be (K : Tu w0 w z X F L hw sc Q us mk u N f g V A) : Below w0.heap.size w0 w := K.se.be
theorem Tu.flt (K : Tu w0 w z X F L hw sc Q us mk u N f g V A) : ∀ x, (F x ∨ x = z.s ∨ x = z.q) → x < w.heap.size := by
  rintro x (h | rfl | rfl)
  · exact K.se.po.lt x h
  · exact K.se.sl.lt
  · exact K.se.sl.mp.lt
def Yt (X F : Nat → Prop) (L : Nat → Nat) (z : Pz) : Nat → Prop := fun x => X x ∨ F x ∨ x = z.s ∨ x = z.q ∨ L x ≠ 0
theorem kp_up {A A' Y Y' : Nat → Prop} (k : Kp A A' w w') (h1 : ∀ x, A x → Y x) (h2 : ∀ x, Y' x → Y x ∨ A' x) : Kp Y Y' w w' := ⟨k.os, k.tape, k.output, k.size, fun x hx hn => k.block x hx (fun q => hn (h1 x q)), fun x hx => (h2 x hx).elim Or.inl (fun q => (k.new x q).imp (h1 x) id)⟩
theorem Tu.ylt (K : Tu w0 w z X F L hw sc Q us mk u N f g V A) : ∀ x, Yt X F L z x → x < w.heap.size := by
  rintro x (h | h | h | h | h)
  · exact K.co.lt x h
  · exact K.flt x (Or.inl h)
  · exact K.flt x (Or.inr (Or.inl h))
  · exact K.flt x (Or.inr (Or.inr h))
  · exact K.an.lt x h
theorem Tu.recs (K : Tu w0 w z X F L hw sc Q us mk u N f g V A) {L' : Nat → Nat} {f' : Rs} {g' : Nat → Nat} {V' : Nat → Value} {A' : Nat → Nat} (k : Kp (Fo L) (Fo L') w w') (an' : An w' L' z.a z.h z.s z.b N f' g' V' A') : Tu w0 w' z X F L' hw sc Q us mk u N f' g' V' A' ∧ Kp (Yt X F L z) (Yt X F L' z) w w' := by
  have old : ∀ x, x < w.heap.size → L x = 0 → L' x = 0 := fun x hx h0 => by
    by_cases e : L' x = 0
    · exact e
    · rcases k.new x e with y | y
      · exact absurd h0 y
      · omega
  refine ⟨⟨K.co.of_eq k.size (fun x hx => k.block x (K.co.lt x hx) (fun y => y (K.d1 x hx).2.2.2)), K.xl, se_kept K.se k K.ll (fun x hx => ⟨fun y => hx (K.d2 x (Or.inl y)), fun y => hx (K.d2 x (Or.inr (Or.inl y))), fun y => hx (K.d2 x (Or.inr (Or.inr y)))⟩), an', fun x hx => ?_, fun x hx => ?_, fun x hx => old x (K.flt x hx) (K.d2 x hx), K.nn⟩, kp_up k (fun x hx => Or.inr (Or.inr (Or.inr (Or.inr hx)))) (fun x hx => ?_)⟩
  · rcases k.new x hx with y | y
    · exact K.ll x y
    · exact Nat.le_trans K.se.be.size y
  · obtain ⟨h1, h2, h3, h4⟩ := K.d1 x hx
    exact ⟨h1, h2, h3, old x (K.co.lt x hx) h4⟩
  · rcases hx with y | y | y | y | y
    · exact Or.inl (Or.inl y)
    · exact Or.inl (Or.inr (Or.inl y))
    · exact Or.inl (Or.inr (Or.inr (Or.inl y)))
    · exact Or.inl (Or.inr (Or.inr (Or.inr (Or.inl y))))
    · exact Or.inr y
theorem Tu.core (K : Tu w0 w z X F L hw sc Q us mk u N f g V A) {sc' : E.Sc} (G : E.Gv E.pK w X z.h hw sc' w') : ∃ X', Tu w0 w' z X' F L hw sc' Q us mk u N f g V A ∧ Kp (Yt X F L z) (Yt X' F L z) w w' := by
  obtain ⟨X', co', k⟩ := G
  have k := kpC k
  refine ⟨X', ⟨co', fun x hx => ?_, se_kept K.se k K.xl (fun x hx => ⟨(K.d1 x hx).1, (K.d1 x hx).2.1, (K.d1 x hx).2.2.1⟩), K.an.of_eq k.size (fun x hx => k.block x (K.an.lt x hx) (fun y => hx (K.d1 x y).2.2.2)), K.ll, fun x hx => ?_, K.d2, K.nn⟩, kp_up k (fun x hx => Or.inl hx) (fun x hx => ?_)⟩
  · rcases k.new x hx with y | y
    · exact K.xl x y
    · exact Nat.le_trans K.se.be.size y
  · rcases k.new x hx with y | y
    · exact K.d1 x y
    · refine ⟨fun y' => ?_, fun y' => ?_, fun y' => ?_, ?_⟩
      · have := K.flt x (Or.inl y'); omega
      · have := K.flt x (Or.inr (Or.inl y')); omega
      · have := K.flt x (Or.inr (Or.inr y')); omega
      · by_cases e : L x = 0
        · exact e
        · have := K.an.lt x e; omega
  · rcases hx with y | y
    · exact Or.inr y
    · exact Or.inl (Or.inr y)
theorem Tu.slab (K : Tu w0 w z X F L hw sc Q us mk u N f g V A) {F' : Nat → Prop} {us' : Us} {mk' : Ms} (S : P.Se w0 w' F' z.p Q us' z.s z.q u mk') (k : Kp (fun x => F x ∨ x = z.q) (fun x => F' x ∨ x = z.q) w w') : Tu w0 w' z X F' L hw sc Q us' mk' u N f g V A ∧ Kp (Yt X F L z) (Yt X F' L z) w w' := by
  have hf : ∀ x, F x ∨ x = z.q → L x = 0 := fun x hx => K.d2 x (hx.imp id Or.inr)
  refine ⟨⟨K.co.of_eq k.size (fun x hx => k.block x (K.co.lt x hx) (fun y => ?_)), K.xl, S, K.an.of_eq k.size (fun x hx => k.block x (K.an.lt x hx) (fun y => hx (hf x y))), K.ll, fun x hx => ?_, fun x hx => ?_, K.nn⟩, kp_up k (fun x hx => hx.elim (fun y => Or.inr (Or.inl y)) (fun y => Or.inr (Or.inr (Or.inr (Or.inl y))))) (fun x hx => ?_)⟩
  · obtain ⟨h1, h2, h3, h4⟩ := K.d1 x hx
    rcases y with y | y
    · exact h1 y
    · exact h3 y
  · obtain ⟨h1, h2, h3, h4⟩ := K.d1 x hx
    refine ⟨fun y => ?_, h2, h3, h4⟩
    rcases k.new x (Or.inl y) with (y' | y') | y'
    · exact h1 y'
    · exact h3 y'
    · have := K.co.lt x hx; omega
  · rcases hx with y | y | y
    · rcases k.new x (Or.inl y) with (y' | y') | y'
      · exact K.d2 x (Or.inl y')
      · exact K.d2 x (Or.inr (Or.inr y'))
      · by_cases e : L x = 0
        · exact e
        · have := K.an.lt x e; omega
    · exact K.d2 x (Or.inr (Or.inl y))
    · exact K.d2 x (Or.inr (Or.inr y))
  · rcases hx with y | y | y
    · exact Or.inl (Or.inl y)
    · exact Or.inr (Or.inl y)
    · exact Or.inl (Or.inr (Or.inr y))
theorem Tu.other (K : Tu w0 w z X F L hw sc Q us mk u N f g V A) {row : Option Nat} (G : w.grownBy w' row) (hr : ∀ k, row = some k → w0.heap.size ≤ k ∧ ¬ Yt X F L z k) : Tu w0 w' z X F L hw sc Q us mk u N f g V A := by
  have hn : ∀ x, Yt X F L z x → some x ≠ row := fun x hx e => (hr x e.symm).2 hx
  exact { K with
    co := K.co.of_eq G.size (fun x hx => G.block x (K.co.lt x hx) (hn x (Or.inl hx)))
    se := K.se.other G (fun k hk => ⟨(hr k hk).1, fun q => (hr k hk).2 (Or.inr (Or.inl q)), fun q => (hr k hk).2 (Or.inr (Or.inr (Or.inr (Or.inl q)))), fun q => (hr k hk).2 (Or.inr (Or.inr (Or.inl q)))⟩)
    an := K.an.of_eq G.size (fun x hx => G.block x (K.an.lt x hx) (hn x (Or.inr (Or.inr (Or.inr (Or.inr hx)))))) }
theorem Tu.in_ (K : Tu w0 w z X F L hw sc Q us mk u N f g V A) {x : Int} (hx : x ∈ hel u mk) : ∃ n : Nat, x = n ∧ n < hw.n * 256 := by
  obtain ⟨y, i, h1, h2, h3, h4⟩ := mem_hel.1 hx
  have hne : mk y ≠ 0 := fun e => by rw [e] at h3; simp at h3
  obtain ⟨_, _, j, c, hj, hc, e⟩ := K.se.po.va.us1 y u (K.se.lk y hne)
  have hok := K.se.po.ok
  have h5 := Nat.mul_le_mul_right Q.C (show c + 1 ≤ Q.N from hc)
  have h6 := hok.fC j hj
  have h7 : y < Q.N * Q.C := by
    rw [Nat.add_mul] at h5
    unfold fm at e
    omega
  have h8 := Nat.lt_of_lt_of_le h7 K.nn
  have h9 := Nat.mul_le_mul_right (sz u) (show i + 1 ≤ pn u from h2)
  rw [pn_sz, Nat.add_mul] at h9
  have := sz_le u
  exact ⟨_, h4, by omega⟩
end
def Tt (Y : Nat → Prop) (w0 w : World) (z : Pz) (hw : E.Hw) (Q : Par) (u N : Nat) (f : Rs) : Prop :=
  ∃ X F L sc us mk g V A, Tu w0 w z X F L hw sc Q us mk u N f g V A ∧ Ob f A (hel u mk) ∧ P.Lb u (fun _ => none) us mk ∧ Y = Yt X F L z
section
variable {Y : Nat → Prop} {w0 w w' : World} {z : Pz} {hw : E.Hw} {Q : Par} {u N : Nat} {f : Rs}
theorem Tt.below (K : Tt Y w0 w z hw Q u N f) (k : Below w.heap.size w w') : Tt Y w0 w' z hw Q u N f := by
  obtain ⟨X, F, L, sc, us, mk, g, V, A, h1, h2⟩ := K
  exact ⟨X, F, L, sc, us, mk, g, V, A, h1.below k, h2⟩
theorem Tt.be (K : Tt Y w0 w z hw Q u N f) : Below w0.heap.size w0 w := by
  obtain ⟨X, F, L, sc, us, mk, g, V, A, h1, h2⟩ := K
  exact h1.be
theorem Tt.lt (K : Tt Y w0 w z hw Q u N f) : ∀ x, Y x → x < w.heap.size := by
  obtain ⟨X, F, L, sc, us, mk, g, V, A, h1, _, _, rfl⟩ := K
  exact h1.ylt
theorem Tt.ok (K : Tt Y w0 w z hw Q u N f) : Ok f N := by
  obtain ⟨X, F, L, sc, us, mk, g, V, A, h1, _⟩ := K
  exact h1.an.ok
theorem Tt.other (K : Tt Y w0 w z hw Q u N f) {row : Option Nat} (G : w.grownBy w' row) (hr : ∀ k, row = some k → w0.heap.size ≤ k ∧ ¬ Y k) : Tt Y w0 w' z hw Q u N f := by
  obtain ⟨X, F, L, sc, us, mk, g, V, A, h1, h2, h3, rfl⟩ := K
  exact ⟨X, F, L, sc, us, mk, g, V, A, h1.other G hr, h2, h3, rfl⟩
theorem Tt.few (K : Tt Y w0 w z hw Q u N f) (h2 : 2 ≤ u) (h6 : u ≤ 6) : cn f N ≤ pn u * Q.q u := by
  obtain ⟨X, F, L, sc, us, mk, g, V, A, K, o, lb, _⟩ := K
  rw [← o.len K.an.ok.far]
  have e1 := P.hl_le u mk 4096
  have e2 := P.nf_cU lb (fun g q => by cases q) 4096
  have e3 := K.se.po.va.qu u h2 h6
  rw [e2] at e3
  exact Nat.le_trans e1 (Nat.mul_le_mul_left _ e3)
end
def Tl (Y : Nat → Prop) (w0 : World) (z : Pz) (hw : E.Hw) (Q : Par) (u N : Nat) (w : World) (f' : Rs) (w' : World) : Prop := ∃ Y', Tt Y' w0 w' z hw Q u N f' ∧ Kp Y Y' w w'
theorem Tt.tl {Y : Nat → Prop} {w0 w w' : World} {z : Pz} {hw : E.Hw} {Q : Par} {u N : Nat} {f : Rs} (K : Tt Y w0 w z hw Q u N f) (k : Below w.heap.size w w') : Tl Y w0 z hw Q u N w f w' :=
  ⟨Y, K.below k, ⟨k.os, k.tape, k.output, k.size, fun x hx _ => k.block x hx, fun x hx => Or.inl hx⟩⟩
end Go.Proofs.YtkbpnkjjmipjfaaGreat.Az
namespace Go.Proofs.YtkbpnkjjmipjfaaGreat.Az
open B P Go.ChangeShapes Go.WideShapes Go.ChangeAt Go.RowKit
set_option linter.unusedVariables false

section
variable {w0 w w' : World} {z : Pz} {X F : Nat → Prop} {L : Nat → Nat} {hw : E.Hw} {sc : E.Sc} {Q : Par} {us : Us} {mk : Ms} {u N : Nat} {f : Rs} {g : Nat → Nat} {V : Nat → Value} {A : Nat → Nat}
theorem Tu.rowed (K : Tu w0 w z X F L hw sc Q us mk u N f g V A) {i : Nat} {r q : Rc} {v' : Value} (hr : f i = some r) (eb : B.Blk w' (g i) 160 (ro q v' (A i))) (ow' : Own w' v' q.ps) (k : Kp (fun x => x = g i ∨ (V i).ownBlock = some x) (fun x => v'.ownBlock = some x) w w') (hg : v'.ownBlock ≠ some (g i)) (ok' : Ok (put f i (some q)) N) :
    ∃ L', Tu w0 w' z X F L' hw sc Q us mk u N (put f i (some q)) g (put' V i v') A ∧ Kp (Yt X F L z) (Yt X F L' z) w w' := by
  obtain ⟨A1, A2⟩ := K.an.turned hr k.size eb ow' (fun x hx => by
    rcases k.new x hx with (y | y) | y
    · exact absurd (y ▸ hx) hg
    · exact Or.inl y
    · exact Or.inr y) (fun x hx h1 h2 => k.block x hx (fun q => q.elim h1 h2)) ok'
  obtain ⟨T1, T2⟩ := K.recs ⟨k.os, k.tape, k.output, k.size, fun x hx hn => k.block x hx (fun y => hn (by
    show L x ≠ 0
    rcases y with y | y
    · rw [y, K.an.lg i r hr]; omega
    · rw [K.an.lv i r x hr y]; omega)), A2⟩ A1
  exact ⟨_, T1, T2⟩
theorem Tu.made (K : Tu w0 w z X F L hw sc Q us mk u N f g V A) {i y c at_ : Nat} {q : Rc} {v' : Value} (hr : f i = none) (mp' : Mv 3 ik w' z.b (N + 1) (pk (pts f g) (i : Int) (some (.pointer (some ⟨y, 0, none⟩))))) (eb : B.Blk w' y 160 (ro q v' at_)) (ow' : Own w' v' q.ps) (hv : v'.ownBlock = some c) (hy : w.heap.size ≤ y) (hc : w.heap.size ≤ c) (hyc : y ≠ c)
    (k : Kp (fun x => x = z.b) (fun _ => False) w w') (ok' : Ok (put f i (some q)) N) :
    ∃ L', Tu w0 w' z X F L' hw sc Q us mk u N (put f i (some q)) (put' g i y) (put' V i v') (put' A i at_) ∧ Kp (Yt X F L z) (Yt X F L' z) w w' := by
  obtain ⟨A1, A2⟩ := K.an.added hr k.size mp' eb ow' hv hy hc hyc (fun x hx h1 => k.block x hx h1) ok'
  obtain ⟨T1, T2⟩ := K.recs ⟨k.os, k.tape, k.output, k.size, fun x hx hn => k.block x hx (fun e => hn (by
    show L x ≠ 0
    have e : x = z.b := e
    rw [e, K.an.lb]; omega)), A2⟩ A1
  exact ⟨_, T1, T2⟩
theorem Tu.struck (K : Tu w0 w z X F L hw sc Q us mk u N f g V A) {i : Nat} {r : Rc} (hr : f i = some r) (mp' : Mv 3 ik w' z.b N (pk (pts f g) (i : Int) none)) (k : Kp (fun x => x = z.b ∨ x = g i ∨ (V i).ownBlock = some x) (fun _ => False) w w') :
    Tu w0 w' z X F L hw sc Q us mk u N (put f i none) g V A ∧ Kp (Yt X F L z) (Yt X F L z) w w' := by
  have h := K.an.struck k.size mp' (fun x hx h1 h2 h3 => k.block x hx (fun q => by
    rcases q with y | y | y
    · exact h1 y
    · exact h2 (by rw [y]; exact K.an.lg i r hr)
    · exact h3 (K.an.lv i r x hr y)))
  refine K.recs ⟨k.os, k.tape, k.output, k.size, fun x hx hn => k.block x hx (fun q => hn ?_), fun x hx => Or.inl hx⟩ h
  show L x ≠ 0
  rcases q with y | y | y
  · rw [y, K.an.lb]; omega
  · rw [y, K.an.lg i r hr]; omega
  · rw [K.an.lv i r x hr y]; omega
end
end Go.Proofs.YtkbpnkjjmipjfaaGreat.Az
namespace Go.Proofs.YtkbpnkjjmipjfaaGreat.Az
open B P Go.ChangeShapes Go.WideShapes Go.ChangeAt Go.RowKit
set_option linter.unusedVariables false
set_option maxRecDepth 8192

section
variable {w0 w w' : World} {z : Pz} {X F : Nat → Prop} {L : Nat → Nat} {hw : E.Hw} {sc : E.Sc} {Q : Par} {us : Us} {mk : Ms} {u N : Nat} {f : Rs} {g : Nat → Nat} {V : Nat → Value} {A : Nat → Nat}
theorem Tu.touch_ok (K : Tu w0 w z X F L hw sc Q us mk u N f g V A) {i : Nat} {r : Rc} (hr : f i = some r) (hA : (A i : Int) ∈ hel u mk) : Calls Tryz.prog 77 #[.pointer (some ⟨z.a, 0, none⟩), .pointer (some ⟨g i, 0, none⟩)] w fun e w' => e = .returned (.tuple #[]) ∧ ∃ X' sc', Tu w0 w' z X' F L hw sc' Q us mk u N f g V A ∧ Kp (Yt X F L z) (Yt X' F L z) w w' := by
  obtain ⟨n, hn, hlt⟩ := K.in_ hA
  obtain rfl : n = A i := by omega
  have B1 : Below w.heap.size w (w.alloc (.cells #[.int .u64 (A i)] 22)) := (Below.refl _ _).alloc (Nat.le_refl _) _
  have B2 : Below w.heap.size w (w.alloc (.cells #[.int .u64 (A i)] 22)).drew := B1.drew
  have K2 := K.below B2
  have hsz := K.an.st.lt
  have c0 := K.an.c0
  have c0' := (K.an.below B1).c0
  have c4 : w.cell? ⟨g i, 4, none⟩ = some (.int .u64 (A i)) := (K.an.rc i r hr).cell 4
  have hau : E.AU (w.alloc (.cells #[.int .u64 (A i)] 22)).drew (some ⟨w.heap.size, 0, none⟩) 1 (fun _ => A i) := Or.inr ⟨w.heap.size, 0, rfl, by simp, fun j hj => by
    obtain rfl : j = 0 := by omega
    exact (B.blk_new w [.int .u64 (A i)] 22).cell 0⟩
  have CT : Hid (Calls Tryz.prog 99 #[.pointer (some ⟨z.h, 0, none⟩), .slice (some ⟨w.heap.size, 0, none⟩) 1 1] (w.alloc (.cells #[.int .u64 (A i)] 22)).drew fun e w' => (∃ x y, e = .returned (.tuple #[.agg #[.bool x, .bool y], .int .i64 0])) ∧ ∃ X' sc', Tu w0 w' z X' F L hw sc' Q us mk u N f g V A ∧ Kp (Yt X F L z) (Yt X' F L z) w w') := by
    refine (E.Touch_ok (c := 1) K2.co (by unfold maxLen; omega) hau (fun _ b off e hX => ?_) (fun _ _ => hlt)).mono ?_
    · injection e with e
      injection e with e
      have := K.co.lt b hX
      omega
    · rintro e w' ⟨rfl, hG⟩
      obtain ⟨X', t1, t2⟩ := K2.core hG
      exact ⟨⟨_, _, rfl⟩, X', _, t1, (⟨B2.os, B2.tape, B2.output, B2.size, fun x hx _ => B2.block x hx, fun x hx => Or.inl hx⟩ : Kp (Yt X F L z) (Yt X F L z) _ _).trans t2⟩
  clear K K2 B1 B2 hau hA hlt hn
  go_enter Tryz.func77, Tryz.ntmps77
  go_region_with (go_at_call 99; refine CT.out.mono ?_; rintro e w1 ⟨⟨x, y, rfl⟩, hT⟩; have HT : Hid (∃ X' sc', Tu w0 w1 z X' F L hw sc' Q us mk u N f g V A ∧ Kp (Yt X F L z) (Yt X' F L z) w w1) := hT; clear hT)
  all_goals
    go_wp2
    go_end0
    exact ⟨rfl, HT.out⟩
end
end Go.Proofs.YtkbpnkjjmipjfaaGreat.Az
