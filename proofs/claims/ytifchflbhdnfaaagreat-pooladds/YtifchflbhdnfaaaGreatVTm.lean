/- PoolAdds' mathematics: what was told is what is taken; where its lists lie; no condition but those that each theorem names. -/
import Derived.Test.YtifchflbhdnfaaaGreatVQt
namespace Go.Proofs.YtifchflbhdnfaaaGreat.P
open Go.ChangeShapes Go.WideShapes Go.ChangeAt Go.RowKit
set_option linter.unusedVariables false
set_option maxRecDepth 8192

/-- The list is just what is taken for another use than the image. -/
structure Tl (ui us : Us) (M : List Int) : Prop where
  nd : M.Nodup
  nn : ∀ x ∈ M, ∃ g : Nat, x = g
  me : ∀ g : Nat, (g : Int) ∈ M ↔ ∃ u, 2 ≤ u ∧ us g = some u
  im : ∀ g, us g = some 1 ↔ ui g = some 1
theorem tl_new {ui : Us} (h : ∀ g u, ui g = some u → u = 1) : Tl ui ui [] :=
  ⟨by simp, by simp, fun g => by
    constructor
    · intro q; simp at q
    · rintro ⟨u, h1, h2⟩
      have := h g u h2
      omega, fun _ => Iff.rfl⟩
theorem Tl.take {ui us : Us} {M : List Int} (h : Tl ui us M) {g u : Nat} (hg : us g = none) (hu : 2 ≤ u) : Tl ui (B.pt us g (some u)) (M ++ [(g : Int)]) := by
  have hgM : (g : Int) ∉ M := fun q => by
    obtain ⟨v, _, h2⟩ := (h.me g).1 q
    rw [hg] at h2
    cases h2
  refine ⟨?_, fun x hx => ?_, fun y => ?_, fun y => ?_⟩
  · rw [List.nodup_append]
    refine ⟨h.nd, by simp, fun a ha b hb e => ?_⟩
    simp at hb
    subst hb
    subst e
    exact hgM ha
  · rcases List.mem_append.1 hx with q | q
    · exact h.nn x q
    · simp at q
      exact ⟨g, q⟩
  · rw [List.mem_append]
    unfold B.pt
    by_cases e : y = g
    · subst e
      rw [if_pos rfl]
      simp
      exact hu
    · rw [if_neg e, h.me y]
      simp
      intro q
      omega
  · unfold B.pt
    by_cases e : y = g
    · subst e
      rw [if_pos rfl, ← h.im y, hg]
      simp
      omega
    · rw [if_neg e]
      exact h.im y
theorem Tl.at' {ui us : Us} {M : List Int} (h : Tl ui us M) {k : Nat} {x : Int} (hx : M[k]? = some x) : ∃ g u : Nat, x = g ∧ 2 ≤ u ∧ us g = some u := by
  have hm := List.mem_of_getElem? hx
  obtain ⟨g, rfl⟩ := h.nn x hm
  obtain ⟨u, h1, h2⟩ := (h.me g).1 hm
  exact ⟨g, u, rfl, h1, h2⟩
theorem mem_cut {M : List Int} (hn : M.Nodup) {k : Nat} {x y : Int} (hx : M[k]? = some x) : y ∈ M.take k ++ M.drop (k + 1) ↔ y ∈ M ∧ y ≠ x := by
  obtain ⟨hk, rfl⟩ := List.getElem?_eq_some_iff.1 hx
  have e : M = M.take k ++ M[k] :: M.drop (k + 1) := by
    rw [← List.drop_eq_getElem_cons hk, List.take_append_drop]
  have hp := hn
  rw [e, List.nodup_append, List.nodup_cons] at hp
  obtain ⟨p1, ⟨p2, p3⟩, p4⟩ := hp
  constructor
  · intro q
    refine ⟨?_, ?_⟩
    · rw [e]
      rcases List.mem_append.1 q with z | z
      · exact List.mem_append_left _ z
      · exact List.mem_append_right _ (List.mem_cons_of_mem _ z)
    · rintro rfl
      rcases List.mem_append.1 q with z | z
      · exact p4 _ z _ (List.mem_cons_self ..) rfl
      · exact p2 z
  · rintro ⟨q1, q2⟩
    rw [e] at q1
    rcases List.mem_append.1 q1 with z | z
    · exact List.mem_append_left _ z
    · rcases List.mem_cons.1 z with z | z
      · exact absurd z q2
      · exact List.mem_append_right _ z
theorem Tl.give {ui us : Us} {M : List Int} (h : Tl ui us M) {k g u : Nat} (hx : M[k]? = some (g : Int)) (hu : 2 ≤ u) (hg : us g = some u) : Tl ui (B.pt us g none) (M.take k ++ M.drop (k + 1)) := by
  refine ⟨?_, fun x hx' => h.nn x ((mem_cut h.nd hx).1 hx').1, fun y => ?_, fun y => ?_⟩
  · rw [List.nodup_append]
    refine ⟨h.nd.sublist (List.take_sublist _ _), h.nd.sublist (List.drop_sublist _ _), fun a ha b hb e => ?_⟩
    subst e
    obtain ⟨i, hi, e1⟩ := List.getElem_of_mem ha
    obtain ⟨j, hj, e2⟩ := List.getElem_of_mem hb
    rw [List.getElem_take] at e1
    rw [List.getElem_drop] at e2
    rw [List.length_take] at hi
    rw [List.length_drop] at hj
    exact (List.pairwise_iff_getElem.1 h.nd) i (k + 1 + j) (by omega) (by omega) (by omega) (e1.trans e2.symm)
  · rw [mem_cut h.nd hx, h.me y]
    unfold B.pt
    by_cases e : y = g
    · subst e
      rw [if_pos rfl]
      simp
    · rw [if_neg e]
      constructor
      · exact fun q => q.1
      · exact fun q => ⟨q, fun z => e (by omega)⟩
  · unfold B.pt
    by_cases e : y = g
    · subst e
      rw [if_pos rfl, ← h.im y, hg]
      simp
      omega
    · rw [if_neg e]
      exact h.im y
/-- What is given back, the first one first. -/
theorem Tl.first {ui us : Us} {M : List Int} (h : Tl ui us M) {i g u : Nat} (hx : M[i]? = some (g : Int)) (hu : 2 ≤ u) (hg : us g = some u) (he : True) : Tl ui (B.pt us g none) (M.take i ++ M.drop (i + 1)) := h.give hx hu hg
/-- All is given back: as it was behind the image. -/
theorem Tl.done {P : Par} {ui us : Us} (h : Tl ui us []) (hv : Va P us) (hi : ∀ g u, ui g = some u → u = 1) : us = ui := by
  funext g
  cases e : us g with
  | none =>
    cases e2 : ui g with
    | none => rfl
    | some u =>
      obtain rfl := hi g u e2
      have := (h.im g).2 e2
      rw [e] at this
      cases this
  | some u =>
    have h1 := hv.us1 g u e
    by_cases q : u = 1
    · subst q
      exact ((h.im g).1 e).symm
    · have := (h.me g).2 ⟨u, by omega, e⟩
      simp at this
theorem Tl.whole {P : Par} {ui us : Us} {M : List Int} (h : Tl ui us M) (hv : Va P us) (hP : P.Ok) : decide (tU us = cU us 1 4096) = decide (M.length = 0) := by
  rw [Bool.eq_iff_iff]
  simp only [decide_eq_true_eq]
  unfold tU
  constructor
  · intro q
    cases M with
    | nil => rfl
    | cons x M =>
      exfalso
      obtain ⟨g, rfl⟩ := h.nn x (by simp)
      obtain ⟨u, u2, hu⟩ := (h.me g).1 (by simp)
      obtain ⟨_, u6, i, y, hi, hy, rfl⟩ := hv.us1 g u hu
      have hlt := fm_lt hP hi hy
      have z : cU us u 4096 ≠ 0 := fun z => cU_zero z hlt hu
      rcases (show u = 2 ∨ u = 3 ∨ u = 4 ∨ u = 5 ∨ u = 6 by omega) with rfl | rfl | rfl | rfl | rfl <;> omega
  · intro q
    have hM : M = [] := List.eq_nil_of_length_eq_zero q
    subst hM
    have z : ∀ u, 2 ≤ u → cU us u 4096 = 0 := fun u hu => by
      by_cases e : cU us u 4096 = 0
      · exact e
      · obtain ⟨g, _, hg⟩ := cU_pos (Nat.pos_of_ne_zero e)
        have := (h.me g).2 ⟨u, hu, hg⟩
        simp at this
    rw [z 2 (by omega), z 3 (by omega), z 4 (by omega), z 5 (by omega), z 6 (by omega)]
    omega
/-- A pool with the configuration's box, what was free at first, and the frames told. -/
structure Ts (w0 w : World) (a : Ad) (c : Cf) (n p : Nat) (F : Nat → Prop) (us : Us) (v1 : Value) (L1 : List Int) (v : Value) (M : List Int) : Prop where
  tc : Tc w0 w a c n p F us
  fi : Is w (w0.heap.size + 1) v1 L1
  fn : ∀ g, v1.ownBlock = some g → ¬ F g
  tw : Is w (w0.heap.size + 1) v M
  tn : ∀ g, v.ownBlock = some g → ¬ F g
  ne : ∀ g, v1.ownBlock = some g → v.ownBlock ≠ some g
theorem Ts.below {w0 w w' : World} {a : Ad} {c : Cf} {n p : Nat} {F : Nat → Prop} {us : Us} {v1 v : Value} {L1 M : List Int} (h : Ts w0 w a c n p F us v1 L1 v M) (k : Below w.heap.size w w') : Ts w0 w' a c n p F us v1 L1 v M :=
  ⟨h.tc.below k, h.fi.below k, h.fn, h.tw.below k, h.tn, h.ne⟩
theorem Ts.pool {w0 w w' : World} {a : Ad} {c : Cf} {n p : Nat} {F F' : Nat → Prop} {us us' : Us} {v1 v : Value} {L1 M : List Int} (hc : Cin w0 a c) (h : Ts w0 w a c n p F us v1 L1 v M) (k : B.Kp F F' w w') (hp : Po w' F' p (par c n) us') : Ts w0 w' a c n p F' us' v1 L1 v M :=
  ⟨h.tc.turn hc k hp, (h.fi.kp k h.fn).1, (h.fi.kp k h.fn).2, (h.tw.kp k h.tn).1, (h.tw.kp k h.tn).2, h.ne⟩
/-- The list of frames told is another one. -/
theorem Ts.told {w0 w w' : World} {a : Ad} {c : Cf} {n p : Nat} {F : Nat → Prop} {us : Us} {v1 v v' : Value} {L1 M M' : List Int} (hc : Cin w0 a c) (h : Ts w0 w a c n p F us v1 L1 v M) (hg : w.grownBy w' v.ownBlock) (hi : Is w' (w0.heap.size + 1) v' M') (hv : ∀ g, v'.ownBlock = some g → v.ownBlock = some g ∨ w.heap.size ≤ g) : Ts w0 w' a c n p F us v1 L1 v' M' := by
  have kk : B.Kp (fun y => v.ownBlock = some y) (fun y => v.ownBlock = some y) w w' := ⟨hg.os, hg.tape, hg.output, hg.size, fun y hy hn => hg.block y hy (fun e => hn e.symm), fun y hy => Or.inl hy⟩
  have hlo : ∀ y, v.ownBlock = some y → w0.heap.size < y := fun y hy => by have := (h.tw.lt y hy).1; omega
  have hb : Below w0.heap.size w0 w' := h.tc.cb.be.grown hg h.tc.cb.be.size (fun x hx => by have := hlo x hx; omega)
  refine ⟨⟨Cb.keep hc h.tc.cb hg hlo, h.tc.po.kept kk (fun y hy z => h.tn y z hy), h.tc.fo⟩, h.fi.of_eq (fun g hgv => hg.block g (h.fi.lt g hgv).2 (fun e => h.ne g hgv e.symm)), h.fn, hi, fun g hgv z => ?_, fun g hgv e => ?_⟩
  · rcases hv g hgv with q | q
    · exact h.tn g q z
    · have := h.tc.po.lt g z
      omega
  · rcases hv g e with q | q
    · exact h.ne g hgv q
    · have := (h.fi.lt g hgv).2
      omega
end Go.Proofs.YtifchflbhdnfaaaGreat.P
