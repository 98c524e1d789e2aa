/- Seven lists in new memory; no condition. -/
import Derived.Test.YtifchflbhdnfaaaGreatVBd
import Derived.Test.YtifchflbhdnfaaaGreatVBa
namespace Go.Proofs.YtifchflbhdnfaaaGreat.B
open Go.ChangeShapes Go.WideShapes Go.ChangeAt Go.RowKit
set_option linter.unusedVariables false

/-- Seven lists in memory from B on: the row's slice v, the lists' numbers M. -/
def Ls (B : Nat) (w : World) (v : Value) (M : Nat → List Int) : Prop := ∃ g cap F V, v = .slice (some ⟨g, 0, none⟩) 7 cap ∧ Rws w F g 7 M V ∧ ∀ b, F b → B ≤ b
/-- The first j of them. -/
structure Lst (B : Nat) (w : World) (v : Value) (j : Nat) (V : Nat → Value) (L : Nat → List Nat) : Prop where
  row : w.ownsRow 0 25 1 v j ((List.range j).map V)
  new : ∀ g, v.ownBlock = some g → B ≤ g
  own : ∀ i, i < j → Own w (V i) (ints (L i))
  far : ∀ i g, i < j → (V i).ownBlock = some g → B ≤ g ∧ v.ownBlock ≠ some g
  inj : ∀ i k g, i < j → k < j → i ≠ k → (V i).ownBlock = some g → (V k).ownBlock ≠ some g
theorem row_lt {w : World} {v : Value} {j : Nat} {xs : List Value} (h : w.ownsRow 0 25 1 v j xs) : ∀ g, v.ownBlock = some g → g < w.heap.size := by
  intro g hg
  rcases h.2 with ⟨e, _⟩ | ⟨g', cap, cur, e, _, hb, _⟩
  · rw [e] at hg; cases hg
  · rw [e] at hg
    cases hg
    exact (Array.getElem?_eq_some_iff.1 hb).1
theorem Lst.step {B : Nat} {w w2 w3 : World} {v : Value} {j : Nat} {V : Nat → Value} {L : Nat → List Nat} (h : Lst B w v j V L) (hB : B ≤ w.heap.size) (x : Value) (G2 : w.grownBy w2 none) (ho : Own w2 x (ints (L j))) (hx : ∀ c, x.ownBlock = some c → w.heap.size ≤ c)
    (g1 k1 : Nat) (G3 : w2.grownBy w3 v.ownBlock) (o3 : w3.ownsRow 0 25 1 (.slice (some ⟨g1, 0, none⟩) (j + 1) k1) (j + 1) ((List.range j).map V ++ [x])) (at3 : v.ownBlock = some g1 ∨ w2.heap.size ≤ g1) :
    Lst B w3 (.slice (some ⟨g1, 0, none⟩) (j + 1) k1) (j + 1) (put V j x) L := by
  have s2 := G2.size
  have hvlt := row_lt h.row
  have hV : ∀ i g, i < j → (V i).ownBlock = some g → g < w.heap.size := fun i g hi hg => (h.own i hi).lt g hg
  have hxv : ∀ c, x.ownBlock = some c → v.ownBlock ≠ some c := fun c hc e => by have := hvlt c e; have := hx c hc; omega
  refine ⟨?_, ?_, ?_, ?_, ?_⟩
  · have e : (List.range (j + 1)).map (put V j x) = (List.range j).map V ++ [x] := by
      rw [List.range_succ, List.map_append, List.map_singleton, put_same]
      congr 1
      apply List.map_congr_left
      intro i hi
      rw [put_other _ _ _ _ (by have := List.mem_range.1 hi; omega)]
    rw [e]
    exact o3
  · intro g hg
    obtain rfl : g1 = g := by simpa [Value.ownBlock] using hg
    rcases at3 with q | q
    · exact h.new _ q
    · omega
  · intro i hi
    by_cases e : i = j
    · subst e
      rw [put_same]
      exact ho.of_eq (fun c hc => G3.block c (ho.lt c hc) (fun e => hxv c hc e.symm))
    · rw [put_other _ _ _ _ e]
      have hi' : i < j := by omega
      refine ((h.own i hi').of_eq (fun c hc => G2.block c (hV i c hi' hc) (by simp))).of_eq (fun c hc => G3.block c (by have := hV i c hi' hc; omega) (fun e => (h.far i c hi' hc).2 e.symm))
  · intro i g hi hg
    by_cases e : i = j
    · subst e
      rw [put_same] at hg
      refine ⟨Nat.le_trans hB (hx g hg), ?_⟩
      intro q
      obtain rfl : g1 = g := by simpa [Value.ownBlock] using q
      rcases at3 with q | q
      · exact hxv _ hg q
      · have := ho.lt _ hg; omega
    · rw [put_other _ _ _ _ e] at hg
      have hi' : i < j := by omega
      refine ⟨(h.far i g hi' hg).1, ?_⟩
      intro q
      obtain rfl : g1 = g := by simpa [Value.ownBlock] using q
      rcases at3 with q | q
      · exact (h.far i _ hi' hg).2 q
      · have := hV i _ hi' hg; omega
  · intro i k g hi hk hne hg hg'
    by_cases e : i = j
    · subst e
      rw [put_same] at hg
      rw [put_other _ _ _ _ (by omega)] at hg'
      have := hV k g (by omega) hg'
      have := hx g hg
      omega
    · rw [put_other _ _ _ _ e] at hg
      by_cases e2 : k = j
      · subst e2
        rw [put_same] at hg'
        have := hV i g (by omega) hg
        have := hx g hg'
        omega
      · rw [put_other _ _ _ _ e2] at hg'
        exact h.inj i k g (by omega) (by omega) hne hg hg'
theorem Lst.whole {B : Nat} {w : World} {v : Value} {V : Nat → Value} {L : Nat → List Nat} (h : Lst B w v 7 V L) : Ls B w v (fun i => ints (L i)) := by
  rcases h.row.2 with ⟨_, e⟩ | ⟨g, cap, cur, rfl, _, hb, c1, c2, c3, c4⟩
  · omega
  · have hblk : Blk w g 25 cur.toList := by unfold Blk; simpa using hb
    refine ⟨g, cap, fun b => b = g ∨ ∃ i, i < 7 ∧ (V i).ownBlock = some b, V, rfl, ⟨?_, Or.inl rfl, fun i b hi hb => Or.inr ⟨i, hi, hb⟩, ?_, fun i _ => hblk.frozen i, h.own, ?_, h.inj⟩, ?_⟩
    · rintro b (rfl | ⟨i, hi, hb⟩)
      · exact hblk.lt
      · exact (h.own i hi).lt b hb
    · intro i hi
      rw [hblk.cell i, ← List.getElem?_take_of_lt (show i < 7 * 1 by omega), c4]
      simp [hi]
    · intro i hi q
      exact (h.far i g hi q).2 rfl
    · rintro b (rfl | ⟨i, hi, hb⟩)
      · exact h.new _ rfl
      · exact (h.far i b hi hb).1
theorem one_slice (a : Option Addr) (n c : Nat) : ∀ u ∈ [Value.slice a n c], u.oneCell' = true := by
  intro u hu
  simp at hu
  subst hu
  rfl
theorem news_one (w : World) (x : Value) (ty : TypeId) : ∀ k u, [x][k]? = some u → (w.alloc (.cells #[x] ty)).cell? ((⟨w.heap.size, 0, none⟩ : Addr).add k) = some u := fun k u hk => by
  rw [Go.WideShapes.add_plain, Nat.zero_add]
  exact ((blk_new w [x] ty).cell k).trans hk
theorem row_kept {w w' : World} {v : Value} {j : Nat} {xs : List Value} (h : w.ownsRow 0 25 1 v j xs) (hs : w.heap.size ≤ w'.heap.size) (e : ∀ k, k < w.heap.size → w'.heap[k]? = w.heap[k]?) : w'.ownsRow 0 25 1 v j xs := by
  refine ⟨h.1, ?_⟩
  rcases h.2 with q | ⟨g, cap, cur, q1, q2, q3, q4⟩
  · exact Or.inl q
  · exact Or.inr ⟨g, cap, cur, q1, q2, (e g ((Array.getElem?_eq_some_iff.1 q3).1)).trans q3, q4⟩
end Go.Proofs.YtifchflbhdnfaaaGreat.B
/- Going over the places from the least on: the greatest open blocks, one behind the other; no condition but those that each theorem names. -/
namespace Go.Proofs.YtifchflbhdnfaaaGreat.B
set_option linter.unusedVariables false

theorem mx_uniq_lt {op : Nat → Bool} {k q k' q' : Nat} (h : mx op k q) (h' : mx op k' q') (hk : k' ≤ 6) (hl : k < k') (hm : meets k q k' q') : False := by
  rw [meets_le (by omega)] at hm
  refine h.2 (by omega) (wh_down h'.1 (show k + 1 ≤ k' by omega) ?_)
  rw [half_up q k k' hl]
  exact hm
theorem meets_symm {i q o p : Nat} (h : meets i q o p) : meets o p i q := by
  obtain ⟨x, h1, h2⟩ := h
  exact ⟨x, h2, h1⟩
theorem mx_uniq {op : Nat → Bool} {k q k' q' : Nat} (h : mx op k q) (h' : mx op k' q') (hk : k ≤ 6) (hk' : k' ≤ 6) (hm : meets k q k' q') : k = k' ∧ q = q' := by
  by_cases h1 : k < k'
  · exact (mx_uniq_lt h h' hk' h1 hm).elim
  · by_cases h2 : k' < k
    · exact (mx_uniq_lt h' h hk h2 (meets_symm hm)).elim
    · obtain rfl : k = k' := by omega
      obtain ⟨x, e1, e2⟩ := hm
      exact ⟨rfl, e1.symm.trans e2⟩
/-- What is there behind the first a places. -/
structure Sc (op : Nat → Bool) (a : Nat) (M : Nat → List Nat) : Prop where
  pt : ∀ j b, j ≤ 6 → b % 2 ^ j = 0 → wh op j (b / 2 ^ j) → ¬ (b < a ∧ a < b + 2 ^ j)
  up : ∀ k, k ≤ 6 → (M k).Pairwise (· < ·)
  mem : ∀ k, k ≤ 6 → ∀ x, x ∈ M k ↔ x % 2 ^ k = 0 ∧ mx op k (x / 2 ^ k) ∧ x < a
theorem Sc.zero (op : Nat → Bool) : Sc op 0 (fun _ => []) :=
  ⟨fun j b _ _ _ h => by omega, fun k _ => by simp, fun k _ x => by simp⟩
theorem Sc.skip {op : Nat → Bool} {a : Nat} {M : Nat → List Nat} (h : Sc op a M) (ha : op a = false) : Sc op (a + 1) M := by
  refine ⟨fun j b hj hb hw hq => ?_, h.up, fun k hk x => ?_⟩
  · have := (wh_of hb).1 hw a (by omega) (by omega)
    rw [ha] at this
    cases this
  · rw [h.mem k hk x]
    constructor
    · exact fun q => ⟨q.1, q.2.1, by omega⟩
    · rintro ⟨q1, q2, q3⟩
      refine ⟨q1, q2, ?_⟩
      by_cases e : x = a
      · subst e
        have := q2.1 x rfl
        rw [ha] at this
        cases this
      · omega
theorem no_between {b c m : Nat} (hm : 0 < m) (hb : b % m = 0) (hc : c % m = 0) (h1 : b < c) (h2 : c < b + m) : False := by
  have h : (c - b) % m = 0 := by
    have := Nat.sub_mod_eq_zero_of_mod_eq (m := c) (n := b) (k := m) (by rw [hb, hc])
    exact this
  rw [Nat.mod_eq_of_lt (by omega)] at h
  omega
theorem Sc.add {op : Nat → Bool} {a : Nat} {M : Nat → List Nat} (h : Sc op a M) {k : Nat} (hk : k ≤ 6) (ha : a % 2 ^ k = 0) (hw : wh op k (a / 2 ^ k)) (hs : k < 6 → ¬ (a % 2 ^ (k + 1) = 0 ∧ wh op (k + 1) (a / 2 ^ (k + 1)))) :
    Sc op (a + 2 ^ k) (fun i => if i = k then M k ++ [a] else M i) := by
  have hp := Nat.two_pow_pos k
  have hm : mx op k (a / 2 ^ k) := by
    refine ⟨hw, fun h6 hq => ?_⟩
    have hb : (a / 2 ^ k / 2) = a / 2 ^ (k + 1) := (div_up1 a k).symm
    rw [hb] at hq
    have e1 := mul_mod (a / 2 ^ (k + 1)) (k + 1)
    have e2 := mul_div (a / 2 ^ (k + 1)) (k + 1)
    have e3 := (div_eq_iff (i := a) (q := a / 2 ^ (k + 1)) (k := k + 1)).1 rfl
    by_cases e : a / 2 ^ (k + 1) * 2 ^ (k + 1) = a
    · exact hs h6 ⟨by rw [← e]; exact e1, hq⟩
    · exact h.pt (k + 1) _ (by omega) e1 (by rw [e2]; exact hq) ⟨by omega, e3.2⟩
  refine ⟨fun j b hj hb hwb hq => ?_, fun i hi => ?_, fun i hi x => ?_⟩
  · by_cases hjk : j ≤ k
    · exact no_between (Nat.two_pow_pos j) hb (by rw [Nat.add_mod, pow_dvd_mod ha hjk, pow_dvd_mod (x := 2 ^ k) (k := k) (Nat.mod_self _) hjk]; simp) hq.1 hq.2
    · have hin : a / 2 ^ j = b / 2 ^ j := by
        have e1 : (a + 2 ^ k - 1) / 2 ^ k = a / 2 ^ k := by
          rw [div_eq_iff, mod_mul_div ha]
          omega
        have e2 : (a + 2 ^ k - 1) / 2 ^ j = b / 2 ^ j := by
          rw [div_eq_iff, mod_mul_div hb]
          omega
        rw [div_up a k j (by omega), ← e1, ← div_up _ k j (by omega), e2]
      have e3 := (div_eq_iff (i := a) (q := b / 2 ^ j) (k := j)).1 hin
      rw [mod_mul_div hb] at e3
      by_cases e : b = a
      · subst e
        exact hs (by omega) ⟨pow_dvd_mod hb (by omega), wh_down hwb (by omega) (div_up b (k + 1) j (by omega)).symm⟩
      · exact h.pt j b hj hb hwb ⟨by omega, e3.2⟩
  · by_cases e : i = k
    · subst e
      simp only [if_true]
      rw [List.pairwise_append]
      refine ⟨h.up i hi, by simp, fun x hx y hy => ?_⟩
      have := ((h.mem i hi x).1 hx).2.2
      rw [List.mem_singleton] at hy
      omega
    · simp only [e, if_false]
      exact h.up i hi
  · have key : x % 2 ^ i = 0 → mx op i (x / 2 ^ i) → a ≤ x → x < a + 2 ^ k → i = k ∧ x = a := by
      intro h1 h2 h3 h4
      have e1 : x / 2 ^ k = a / 2 ^ k := by
        rw [div_eq_iff, mod_mul_div ha]
        omega
      obtain ⟨e2, e3⟩ := mx_uniq h2 hm hi hk ⟨x, rfl, e1⟩
      subst e2
      refine ⟨rfl, ?_⟩
      rw [← mod_mul_div h1, e3, mod_mul_div ha]
    by_cases e : i = k
    · subst e
      simp only [if_true]
      rw [List.mem_append, List.mem_singleton, h.mem i hi x]
      constructor
      · rintro (q | rfl)
        · exact ⟨q.1, q.2.1, by omega⟩
        · exact ⟨ha, hm, by omega⟩
      · rintro ⟨q1, q2, q3⟩
        by_cases e2 : x < a
        · exact Or.inl ⟨q1, q2, e2⟩
        · exact Or.inr (key q1 q2 (by omega) q3).2
    · simp only [e, if_false]
      rw [h.mem i hi x]
      constructor
      · exact fun q => ⟨q.1, q.2.1, by omega⟩
      · rintro ⟨q1, q2, q3⟩
        refine ⟨q1, q2, ?_⟩
        by_cases e2 : x < a
        · exact e2
        · exact absurd (key q1 q2 (by omega) q3).1 e
theorem Sc.fit {op : Nat → Bool} {n : Nat} {M : Nat → List Nat} (h : Sc op n M) (hl : ∀ i, op i = true → i < n) (k : Nat) (hk : k ≤ 6) : Fit op k (M k) := by
  refine ⟨h.up k hk, fun x => ?_⟩
  rw [h.mem k hk x]
  constructor
  · exact fun q => ⟨q.1, q.2.1⟩
  · exact fun q => ⟨q.1, q.2, hl x (q.2.1 x rfl)⟩
end Go.Proofs.YtifchflbhdnfaaaGreat.B
