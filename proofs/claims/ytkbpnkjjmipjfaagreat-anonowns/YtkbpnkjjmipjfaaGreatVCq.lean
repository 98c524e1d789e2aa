/- How many objects there are against how many frames: what a full slab holds; what Take and Give make of the list of objects; no condition but those that each theorem names. -/
import Derived.Test.YtkbpnkjjmipjfaaGreatVSg
namespace Go.Proofs.YtkbpnkjjmipjfaaGreat.P
open B Go.ChangeShapes Go.WideShapes Go.ChangeAt Go.RowKit
set_option linter.unusedVariables false

def nf (mk : Ms) : Nat → Nat
  | 0 => 0
  | n + 1 => nf mk n + if mk n = 0 then 0 else 1
def hl (u : Nat) (mk : Ms) (n : Nat) : List Int := (List.range n).flatMap fun g => adr u g (mk g)
theorem hl_succ (u : Nat) (mk : Ms) (n : Nat) : hl u mk (n + 1) = hl u mk n ++ adr u n (mk n) := by
  unfold hl
  rw [List.range_succ, List.flatMap_append]
  simp
theorem adr_zero (u g : Nat) : adr u g 0 = [] := by simp [adr]
theorem adr_le (u g x : Nat) : (adr u g x).length ≤ pn u := by
  unfold adr
  rw [List.length_map]
  have := List.length_filter_le (fun i => x.testBit i) (List.range (pn u))
  rwa [List.length_range] at this
theorem adr_full {u g x : Nat} (h : x = 2 ^ pn u - 1) : (adr u g x).length = pn u := by
  unfold adr
  rw [List.length_map, List.filter_eq_self.2, List.length_range]
  intro i hi
  rw [h, Nat.testBit_two_pow_sub_one]
  simpa using hi
theorem hl_le (u : Nat) (mk : Ms) : ∀ n, (hl u mk n).length ≤ pn u * nf mk n
  | 0 => by simp [hl, nf]
  | n + 1 => by
    have := hl_le u mk n
    rw [hl_succ, List.length_append, nf]
    by_cases e : mk n = 0
    · rw [if_pos e, e, adr_zero]
      simpa using this
    · rw [if_neg e, Nat.mul_add, Nat.mul_one]
      have := adr_le u n (mk n)
      omega
theorem hl_full {u : Nat} {mk : Ms} (h : ∀ g, ¬ rmy u mk g) : ∀ n, (hl u mk n).length = pn u * nf mk n
  | 0 => by simp [hl, nf]
  | n + 1 => by
    have := hl_full h n
    rw [hl_succ, List.length_append, nf, this]
    by_cases e : mk n = 0
    · rw [if_pos e, e, adr_zero]
      simp
    · rw [if_neg e, Nat.mul_add, Nat.mul_one, adr_full]
      by_cases q : mk n = 2 ^ pn u - 1
      · exact q
      · exact absurd ⟨e, q⟩ (h n)
def Lb (u : Nat) (us0 us : Us) (mk : Ms) : Prop := ∀ g, us g = if mk g ≠ 0 then some u else us0 g
theorem nf_cU {u : Nat} {us0 us : Us} {mk : Ms} (h : Lb u us0 us mk) (h0 : ∀ g, us0 g ≠ some u) : ∀ n, cU us u n = nf mk n
  | 0 => rfl
  | n + 1 => by
    rw [cU, nf, nf_cU h h0 n]
    by_cases e : mk n = 0
    · have hne : us n ≠ some u := by
        rw [h n, if_neg (fun z => z e)]
        exact h0 n
      rw [if_neg hne, if_pos e]
    · have he : us n = some u := by rw [h n, if_pos e]
      rw [if_pos he, if_neg e]
theorem TkS.lb {P : Par} {u : Nat} {us0 us : Us} {mk : Ms} {a e : Nat} {us' : Us} {mk' : Ms} (h : TkS P u us mk a e us' mk') (hl : Lb u us0 us mk) : Lb u us0 us' mk' := by
  rcases h with ⟨g, i, h1, h2, rfl, rfl, rfl, rfl⟩ | ⟨h0, g, h1, h2⟩
  · intro z
    by_cases q : z = g
    · subst q
      rw [hl z, put_same, if_pos h1.1.1, if_pos or_ne]
    · rw [put_other _ _ _ _ q]
      exact hl z
  · rcases h1 with ⟨rfl, ⟨x, t1, t2, rfl⟩, t3⟩ | ⟨rfl, t1, rfl, t3⟩
    · rcases h2 with ⟨_, _, rfl⟩ | ⟨q, _⟩
      · intro z
        unfold pt
        by_cases q : z = g
        · rw [if_pos q, q, put_same, if_pos (by omega)]
        · rw [if_neg q, put_other _ _ _ _ q]
          exact hl z
      · exact absurd rfl q
    · rcases h2 with ⟨q, _⟩ | ⟨_, _, rfl⟩
      · cases q
      · exact hl
theorem GvS.lb {u : Nat} {us0 us : Us} {mk : Ms} {a e : Nat} {us' : Us} {mk' : Ms} (h : GvS u us mk a e us' mk') (hl : Lb u us0 us mk) (hn : ∀ g, mk g ≠ 0 → us0 g = none) : Lb u us0 us' mk' := by
  rcases h with ⟨g, i, h1, rfl, rfl, rfl⟩ | ⟨h0, rfl, rfl, rfl⟩
  · have hg : mk g ≠ 0 := fun q => by have := h1.2.2; rw [q] at this; simp at this
    intro z
    by_cases q : z = g
    · subst q
      rw [put_same]
      by_cases e : clr (mk z) i = 0
      · rw [if_pos e, if_neg (by simp [e])]
        simp [pt, hn z hg]
      · rw [if_neg e, if_pos e, hl z, if_pos hg]
    · rw [put_other _ _ _ _ q]
      split
      · unfold pt
        rw [if_neg q]
        exact hl z
      · exact hl z
  · exact hl
theorem hel_take {P : Par} {u : Nat} {us : Us} {mk : Ms} {a : Nat} {us' : Us} {mk' : Ms} (hfr : ∀ g, mk g ≠ 0 → g < 4096) (hP : P.Ok) (hlk : Lk u us mk) (h : TkS P u us mk a 0 us' mk') : ((a : Int)) ∉ hel u mk ∧ ∀ x, x ∈ hel u mk' ↔ x = a ∨ x ∈ hel u mk := by
  have hpn := pn_le u
  have key : ∀ g i, g < 4096 → LP u (mk g) i → ((256 * g + i * sz u : Nat) : Int) ∉ hel u mk ∧ ∀ x, x ∈ hel u (put mk g (mk g ||| 2 ^ i)) ↔ x = ((256 * g + i * sz u : Nat) : Int) ∨ x ∈ hel u mk := fun g i hg hi => by
    refine ⟨fun z => ?_, fun x => ?_⟩
    · obtain ⟨g', i', z1, z2, z3, z4⟩ := mem_hel.1 z
      obtain ⟨rfl, rfl⟩ := addr_inj (u := u) (g := g) (g' := g') hi.1 z2 (by omega)
      rw [hi.2.1] at z3
      cases z3
    · rw [mem_hel, mem_hel]
      constructor
      · rintro ⟨g', i', z1, z2, z3, z4⟩
        by_cases q : g' = g
        · subst q
          rw [put_same, Nat.testBit_or, Nat.testBit_two_pow] at z3
          by_cases q2 : i = i'
          · subst q2; exact Or.inl z4
          · simp [q2] at z3
            exact Or.inr ⟨g', i', z1, z2, z3, z4⟩
        · rw [put_other _ _ _ _ q] at z3
          exact Or.inr ⟨g', i', z1, z2, z3, z4⟩
      · rintro (z | ⟨g', i', z1, z2, z3, z4⟩)
        · exact ⟨g, i, hg, hi.1, by rw [put_same, Nat.testBit_or, Nat.testBit_two_pow]; simp, z⟩
        · refine ⟨g', i', z1, z2, ?_, z4⟩
          by_cases q : g' = g
          · subst q
            rw [put_same, Nat.testBit_or, z3]
            rfl
          · rw [put_other _ _ _ _ q]
            exact z3
  rcases h with ⟨g, i, h1, h2, rfl, _, rfl, rfl⟩ | ⟨h0, g, h1, h2⟩
  · exact key g i (hfr g h1.1.1) h2
  · rcases h1 with ⟨_, ⟨x0, t1, t2, rfl⟩, t3⟩ | ⟨q, _⟩
    · rcases h2 with ⟨_, rfl, rfl⟩ | ⟨q, _⟩
      · have hgn : us g = none := by rw [t2]; exact (opn_iff.1 t1.open).2
        have hg4 : g < 4096 := by rw [t2]; exact fm_lt hP (best_lt hP us) (opn_iff.1 t1.open).1
        have hmg : mk g = 0 := by
          by_cases q : mk g = 0
          · exact q
          · have := hlk g q
            rw [hgn] at this
            cases this
        have := key g 0 hg4 ⟨by omega, by rw [hmg]; simp, fun j hj => by omega⟩
        rw [hmg] at this
        simpa using this
      · exact absurd rfl q
    · cases q
theorem hel_give {u : Nat} {us : Us} {mk : Ms} {a : Nat} {us' : Us} {mk' : Ms} (hml : ∀ g, mk g < 2 ^ pn u) (h : GvS u us mk a 0 us' mk') : ∀ x, x ∈ hel u mk' ↔ x ≠ a ∧ x ∈ hel u mk := by
  rcases h with ⟨g, i, h1, _, rfl, rfl⟩ | ⟨h0, q, _⟩
  · have hi16 : i < 16 := Nat.lt_of_lt_of_le h1.1 (pn_le u).2
    have hx : mk g < 65536 := Nat.lt_of_lt_of_le (hml g) (two_pn u)
    intro x
    rw [mem_hel, mem_hel]
    constructor
    · rintro ⟨g', i', z1, z2, z3, z4⟩
      by_cases q : g' = g
      · subst q
        rw [put_same, clr_bit hi16 hx] at z3
        simp only [Bool.and_eq_true, decide_eq_true_eq] at z3
        refine ⟨fun e => z3.2 ?_, g', i', z1, z2, z3.1, z4⟩
        have := h1.2.1
        exact (addr_inj (u := u) (g := g') (g' := g') z2 h1.1 (by omega)).2
      · rw [put_other _ _ _ _ q] at z3
        refine ⟨fun e => q ?_, g', i', z1, z2, z3, z4⟩
        have := h1.2.1
        exact (addr_inj (u := u) (g := g') (g' := g) z2 h1.1 (by omega)).1
    · rintro ⟨hne, g', i', z1, z2, z3, z4⟩
      refine ⟨g', i', z1, z2, ?_, z4⟩
      by_cases q : g' = g
      · subst q
        rw [put_same, clr_bit hi16 hx, z3]
        have : i' ≠ i := fun e => hne (by rw [z4, h1.2.1, e])
        simp [this]
      · rw [put_other _ _ _ _ q]
        exact z3
  · cases q
theorem hit_of_mem {u : Nat} {mk : Ms} {x : Int} (h : x ∈ hel u mk) : ∃ a g i : Nat, x = a ∧ Hit u mk a g i := by
  obtain ⟨g, i, h1, h2, h3, h4⟩ := mem_hel.1 h
  exact ⟨_, g, i, h4, h2, rfl, h3⟩
end Go.Proofs.YtkbpnkjjmipjfaaGreat.P
