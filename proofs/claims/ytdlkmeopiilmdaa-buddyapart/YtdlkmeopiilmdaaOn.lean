/- One buddy and the blocks that are noted as taken; no condition but those that each theorem names. -/
import Derived.Test.YtdlkmeopiilmdaaOp
namespace Go.Proofs.Ytdlkmeopiilmdaa
open Go.ChangeShapes Go.WideShapes Go.ChangeAt Go.RowKit
set_option linter.unusedVariables false

/-- One buddy, and the notes v; what P says is none of theirs. -/
def One (P : Nat → Prop) (w : World) (p : Nat) (v : Value) (L : Nat → List Nat) (tk : Nat → Option Nat) (h : List (Int × Int)) : Prop :=
  ∃ G, Bu w G p L tk ∧ Hd w v h ∧ (∀ k, G k → v.ownBlock ≠ some k) ∧ ∀ k, P k → ¬ G k ∧ v.ownBlock ≠ some k ∧ k < w.heap.size
theorem One.new {P : Nat → Prop} {w w' : World} {p : Nat} {v : Value} {L : Nat → List Nat} {tk : Nat → Option Nat} {h : List (Int × Int)} (T : One P w p v L tk h) (g : w.grownBy w' none) : One P w' p v L tk h ∧ Kp (NP P) (NP P) w w' := by
  obtain ⟨G, a1, a3, a5, a7⟩ := T
  exact ⟨⟨G, a1.none g, a3.of_eq (fun k hk => g.block k (a3.lt k hk) (by simp)), a5, fun k hk => ⟨(a7 k hk).1, (a7 k hk).2.1, Nat.lt_of_lt_of_le (a7 k hk).2.2 g.size⟩⟩, Kp.of_none g⟩
theorem One.prog {P G : Nat → Prop} {w w' : World} {p : Nat} {v : Value} {h : List (Int × Int)} (bl : ∀ k, G k → k < w.heap.size) (a3 : Hd w v h) (a5 : ∀ k, G k → v.ownBlock ≠ some k) (a7 : ∀ k, P k → ¬ G k ∧ v.ownBlock ≠ some k ∧ k < w.heap.size)
    {G' : Nat → Prop} {L' : Nat → List Nat} {tk' : Nat → Option Nat} (b : Bu w' G' p L' tk') (K : Kp G G' w w') : One P w' p v L' tk' h ∧ Kp (NP P) (NP P) w w' := by
  refine ⟨⟨G', b, a3.of_eq (fun k hk => K.block k (a3.lt k hk) (fun z => a5 k z hk)), fun k hk z => ?_, fun k hk => ⟨fun z => ?_, (a7 k hk).2.1, Nat.lt_of_lt_of_le (a7 k hk).2.2 K.size⟩⟩, ⟨K.os, K.tape, K.output, K.size, fun k hk hn => K.block k hk (fun z => ?_), fun k z => Or.inl z⟩⟩
  · rcases K.new k hk with y | y
    · exact a5 k y z
    · have := a3.lt k z; omega
  · rcases K.new k z with y | y
    · exact (a7 k hk).1 y
    · have := (a7 k hk).2.2; omega
  · exact hn (fun y => (a7 k y).1 z)
theorem One.held {P : Nat → Prop} {w w' : World} {p : Nat} {v v' : Value} {L : Nat → List Nat} {tk : Nat → Option Nat} {h h' : List (Int × Int)} (T : One P w p v L tk h) (g : w.grownBy w' v.ownBlock) (b : Hd w' v' h') (hn : ∀ c, v'.ownBlock = some c → v.ownBlock = some c ∨ w.heap.size ≤ c) : One P w' p v' L tk h' ∧ Kp (NP P) (NP P) w w' := by
  obtain ⟨G, a1, a3, a5, a7⟩ := T
  refine ⟨⟨G, a1.grown g (fun k hk e => a5 k hk e.symm), b, fun k hk e => ?_, fun k hk => ⟨(a7 k hk).1, fun e => ?_, Nat.lt_of_lt_of_le (a7 k hk).2.2 g.size⟩⟩, Kp.of_grown g (fun k e z => (a7 k z).2.1 e) (fun k z => Or.inl z)⟩
  · rcases hn k e with y | y
    · exact a5 k hk y
    · have := a1.lt k hk; omega
  · rcases hn k e with y | y
    · exact (a7 k hk).2.1 y
    · have := (a7 k hk).2.2; omega
/-- What is written at a block that is none of theirs. -/
theorem One.wrote {P : Nat → Prop} {w w' : World} {p : Nat} {v : Value} {L : Nat → List Nat} {tk : Nat → Option Nat} {h : List (Int × Int)} (T : One P w p v L tk h) {b : Nat} (g : w.grownBy w' (some b)) (hb : P b) : One P w' p v L tk h := by
  obtain ⟨G, a1, a3, a5, a7⟩ := T
  exact ⟨G, a1.grown g (fun k hk e => (a7 b hb).1 (by injection e with e; exact e ▸ hk)), a3.of_eq (fun k hk => g.block k (a3.lt k hk) (fun e => (a7 b hb).2.1 (by rw [← e]; exact hk))), a5, fun k hk => ⟨(a7 k hk).1, (a7 k hk).2.1, Nat.lt_of_lt_of_le (a7 k hk).2.2 g.size⟩⟩
theorem One.less {P P' : Nat → Prop} {w : World} {p : Nat} {v : Value} {L : Nat → List Nat} {tk : Nat → Option Nat} {h : List (Int × Int)} (T : One P w p v L tk h) (e : ∀ k, P' k → P k) : One P' w p v L tk h := by
  obtain ⟨G, a1, a3, a5, a7⟩ := T
  exact ⟨G, a1, a3, a5, fun k hk => a7 k (e k hk)⟩
/-! ### The notes are just what is taken -/
structure Hk (h : List (Int × Int)) (tk : Nat → Option Nat) : Prop where
  nod : h.Pairwise (fun a b => a.1 ≠ b.1)
  is : ∀ y ∈ h, ∃ a o : Nat, y = ((a : Int), (o : Int)) ∧ tk a = some o
  all : ∀ a o, tk a = some o → ((a : Int), (o : Int)) ∈ h
theorem Hk.nil : Hk [] (fun _ => none) := ⟨List.Pairwise.nil, fun y hy => by simp at hy, fun a o h => by cases h⟩
theorem Hk.add {h : List (Int × Int)} {tk : Nat → Option Nat} (H : Hk h tk) {a : Nat} (o : Nat) (ht : tk a = none) : Hk (h ++ [((a : Int), (o : Int))]) (pt tk a (some o)) := by
  refine ⟨?_, fun y hy => ?_, fun b u hb => ?_⟩
  · rw [List.pairwise_append]
    refine ⟨H.nod, by simp, fun x hx y hy => ?_⟩
    rw [List.mem_singleton] at hy
    subst hy
    obtain ⟨b, u, rfl, hb⟩ := H.is x hx
    intro e
    have e' : b = a := by
      have e2 : (b : Int) = (a : Int) := e
      omega
    rw [e', ht] at hb
    cases hb
  · rcases List.mem_append.1 hy with z | z
    · obtain ⟨b, u, rfl, hb⟩ := H.is y z
      refine ⟨b, u, rfl, ?_⟩
      unfold pt
      rw [if_neg]
      · exact hb
      · intro e
        rw [e, ht] at hb
        cases hb
    · rw [List.mem_singleton] at z
      exact ⟨a, o, z, by simp [pt]⟩
  · unfold pt at hb
    rw [List.mem_append, List.mem_singleton]
    by_cases e : b = a
    · subst e
      rw [if_pos rfl] at hb
      cases hb
      exact Or.inr rfl
    · rw [if_neg e] at hb
      exact Or.inl (H.all b u hb)
theorem mem_erase_of {h : List (Int × Int)} (hn : h.Pairwise (fun a b => a.1 ≠ b.1)) : ∀ {k : Nat} {x y : Int × Int}, h[k]? = some x → (y ∈ h.eraseIdx k ↔ y ∈ h ∧ y.1 ≠ x.1) := by
  induction h with
  | nil => intro k x y e; simp at e
  | cons z h ih =>
    intro k x y e
    have hc := List.pairwise_cons.1 hn
    cases k with
    | zero =>
      simp at e
      subst e
      rw [List.eraseIdx_cons_zero, List.mem_cons]
      constructor
      · intro q
        exact ⟨Or.inr q, fun e => hc.1 y q e.symm⟩
      · rintro ⟨q | q, e⟩
        · exact absurd (by rw [q]) e
        · exact q
    | succ k =>
      simp at e
      rw [List.eraseIdx_cons_succ, List.mem_cons, List.mem_cons, ih hc.2 e]
      constructor
      · rintro (q | q)
        · exact ⟨Or.inl q, by rw [q]; exact hc.1 x (List.mem_of_getElem? e)⟩
        · exact ⟨Or.inr q.1, q.2⟩
      · rintro ⟨q | q, e'⟩
        · exact Or.inl q
        · exact Or.inr ⟨q, e'⟩
theorem Hk.del {h : List (Int × Int)} {tk : Nat → Option Nat} (H : Hk h tk) {k a o : Nat} (hx : h[k]? = some ((a : Int), (o : Int))) : Hk (h.eraseIdx k) (pt tk a none) := by
  refine ⟨H.nod.sublist (List.eraseIdx_sublist _ _), fun y hy => ?_, fun b u hb => ?_⟩
  · obtain ⟨q1, q2⟩ := (mem_erase_of H.nod hx).1 hy
    obtain ⟨b, u, rfl, hb⟩ := H.is y q1
    refine ⟨b, u, rfl, ?_⟩
    unfold pt
    rw [if_neg]
    · exact hb
    · intro e
      exact q2 (by rw [e])
  · unfold pt at hb
    by_cases e : b = a
    · rw [if_pos e] at hb; cases hb
    · rw [if_neg e] at hb
      exact (mem_erase_of H.nod hx).2 ⟨H.all b u hb, fun q => e (by have e2 : (b : Int) = (a : Int) := q; omega)⟩
theorem Hk.at {h : List (Int × Int)} {tk : Nat → Option Nat} (H : Hk h tk) {k : Nat} (hk : k < h.length) : ∃ a o : Nat, h[k]? = some ((a : Int), (o : Int)) ∧ tk a = some o := by
  have e : h[k]? = some h[k] := List.getElem?_eq_getElem hk
  obtain ⟨a, o, e1, e2⟩ := H.is _ (List.getElem_mem hk)
  exact ⟨a, o, by rw [e, e1], e2⟩
/-- How many places they have. -/
def hs : List (Int × Int) → Nat
  | [] => 0
  | y :: h => 2 ^ y.2.toNat + hs h
theorem hs_app (h : List (Int × Int)) (y : Int × Int) : hs (h ++ [y]) = hs h + 2 ^ y.2.toNat := by
  induction h with
  | nil => simp [hs]
  | cons z h ih => simp only [List.cons_append, hs, ih]; omega
theorem hs_del : ∀ (h : List (Int × Int)) (k : Nat) (y : Int × Int), h[k]? = some y → hs (h.eraseIdx k) + 2 ^ y.2.toNat = hs h
  | [], k, y, e => by simp at e
  | z :: h, 0, y, e => by
    simp at e
    subst e
    simp only [List.eraseIdx_cons_zero, hs]
    omega
  | z :: h, k + 1, y, e => by
    simp at e
    have := hs_del h k y e
    simp only [List.eraseIdx_cons_succ, hs]
    omega
theorem hs_zero (h : List (Int × Int)) : hs h = 0 ↔ h = [] := by
  cases h with
  | nil => simp [hs]
  | cons z h =>
    have := Nat.two_pow_pos z.2.toNat
    simp only [hs]
    constructor
    · intro q; omega
    · intro q; cases q
theorem Hk.whole {h : List (Int × Int)} {tk : Nat → Option Nat} (H : Hk h tk) : (∀ x, tk x = none) ↔ h = [] := by
  constructor
  · intro q
    cases h with
    | nil => rfl
    | cons z h =>
      obtain ⟨a, o, _, e⟩ := H.is z (by simp)
      rw [q a] at e
      cases e
  · rintro rfl x
    cases e : tk x with
    | none => rfl
    | some o => have := H.all x o e; simp at this
end Go.Proofs.Ytdlkmeopiilmdaa
