/- Layer 18, plain mathematics: bits of words, 64 slots each, beside the list of what is taken; no condition but those named. -/
import Derived.Test.YtncelpphbhcogaaDoorSa
namespace Go.Proofs.YtncelpphbhcogaaDoor.Z
set_option linter.unusedVariables false

/-- Words whose bits are what is taken; D is what stands in the bits that are no slot's. -/
structure Bw (D : Bool) (W : List Nat) (T : List Bool) : Prop where
  lt : ∀ j (h : j < W.length), W[j] < 2 ^ 64
  le : T.length ≤ 64 * W.length
  bit : ∀ k, k < 64 * W.length → (W.getD (k / 64) 0).testBit (k % 64) = T.getD k D
theorem getD_lt {W : List Nat} {j : Nat} (h : j < W.length) : W.getD j 0 = W[j] := by
  rw [List.getD_eq_getElem?_getD, List.getElem?_eq_getElem h]
  rfl
theorem getD_bl {T : List Bool} {k : Nat} {D : Bool} (h : k < T.length) : T.getD k D = T[k] := by
  rw [List.getD_eq_getElem?_getD, List.getElem?_eq_getElem h]
  rfl
theorem getD_hi {T : List Bool} {k : Nat} {D : Bool} (h : T.length ≤ k) : T.getD k D = D := by
  rw [List.getD_eq_getElem?_getD, List.getElem?_eq_none h]
  rfl
theorem getD_some {T : List Bool} {k : Nat} {D : Bool} (h : k < T.length) : T[k]? = some (T.getD k D) := by
  rw [getD_bl h, List.getElem?_eq_getElem h]
theorem Bw.at' {D : Bool} {W : List Nat} {T : List Bool} (h : Bw D W T) {k : Nat} (hk : k < T.length) : T[k]? = some ((W.getD (k / 64) 0).testBit (k % 64)) := by
  rw [h.bit k (Nat.lt_of_lt_of_le hk h.le), ← getD_some hk]
theorem Bw.word {D : Bool} {W : List Nat} {T : List Bool} (h : Bw D W T) {k : Nat} (hk : k < T.length) : k / 64 < W.length := by
  have := h.le
  omega
/-- One bit of one word turned. -/
theorem Bw.turn {D : Bool} {W : List Nat} {T : List Bool} (h : Bw D W T) {k : Nat} (hk : k < T.length) {w' : Nat} {b : Bool} (hw : w' < 2 ^ 64)
    (hb : ∀ j, j < 64 → w'.testBit j = if j = k % 64 then b else (W.getD (k / 64) 0).testBit j) : Bw D (W.set (k / 64) w') (T.set k b) := by
  have hkw := h.word hk
  refine ⟨fun j hj => ?_, ?_, fun i hi => ?_⟩
  · rw [List.getElem_set]
    split
    · exact hw
    · exact h.lt j (by simpa using hj)
  · rw [List.length_set, List.length_set]
    exact h.le
  · rw [List.length_set] at hi
    have hiw : i / 64 < W.length := by omega
    rw [getD_lt (by rw [List.length_set]; exact hiw), List.getElem_set]
    by_cases e : k / 64 = i / 64
    · rw [if_pos e, hb _ (Nat.mod_lt _ (by omega))]
      by_cases e2 : i % 64 = k % 64
      · have : k = i := by omega
        subst this
        rw [if_pos rfl, getD_bl (by rw [List.length_set]; exact hk), List.getElem_set, if_pos rfl]
      · rw [if_neg e2, e, h.bit i hi]
        rw [List.getD_eq_getElem?_getD, List.getD_eq_getElem?_getD, List.getElem?_set_ne (by omega)]
    · rw [if_neg e, ← getD_lt hiw, h.bit i hi]
      rw [List.getD_eq_getElem?_getD, List.getD_eq_getElem?_getD, List.getElem?_set_ne (by intro q; rw [q] at e; exact e rfl)]
theorem or_bit (w a j : Nat) : (w ||| 2 ^ a).testBit j = if j = a then true else w.testBit j := by
  rw [Nat.testBit_or, Nat.testBit_two_pow]
  by_cases e : a = j
  · rw [if_pos e.symm]; simp [e]
  · rw [if_neg (fun q => e q.symm)]; simp [e]
theorem or_lt {w a : Nat} (hw : w < 2 ^ 64) (ha : a < 64) : w ||| 2 ^ a < 2 ^ 64 := Nat.or_lt_two_pow hw (Nat.pow_lt_pow_right (by omega) ha)
theorem xor_bit {w a j : Nat} (h : w.testBit a = true) : (w ^^^ 2 ^ a).testBit j = if j = a then false else w.testBit j := by
  rw [Nat.testBit_xor, Nat.testBit_two_pow]
  by_cases e : a = j
  · subst e; simp [h]
  · rw [if_neg (fun q => e q.symm)]; simp [e]
theorem xor_lt {w a : Nat} (hw : w < 2 ^ 64) (ha : a < 64) : w ^^^ 2 ^ a < 2 ^ 64 := Nat.xor_lt_two_pow hw (Nat.pow_lt_pow_right (by omega) ha)
/-- A word and what another has not. -/
theorem and_not_bit {w a m : Nat} (hm : ∀ j, j < 64 → m.testBit j = !decide (j = a)) {j : Nat} (hj : j < 64) : (w &&& m).testBit j = if j = a then false else w.testBit j := by
  rw [Nat.testBit_and, hm j hj]
  by_cases e : j = a
  · simp [e]
  · simp [e]
theorem compl_bit {a : Nat} (ha : a < 64) : ∀ j, j < 64 → (2 ^ 64 - 1 - 2 ^ a).testBit j = !decide (j = a) := fun j hj => by
  have h2 : 2 ^ a < 2 ^ 64 := Nat.pow_lt_pow_right (by omega) ha
  have e : 2 ^ 64 - 1 - 2 ^ a = 2 ^ 64 - (2 ^ a + 1) := by omega
  rw [e, Nat.testBit_two_pow_sub_succ h2, Nat.testBit_two_pow]
  simp [hj, eq_comm]
/-- A word is full just if each of its bits is set. -/
theorem full_word {w : Nat} (hw : w < 2 ^ 64) : w = 2 ^ 64 - 1 ↔ ∀ j, j < 64 → w.testBit j = true := by
  constructor
  · rintro rfl j hj
    rw [Nat.testBit_two_pow_sub_one]
    simpa using hj
  · intro h
    apply Nat.eq_of_testBit_eq
    intro j
    rw [Nat.testBit_two_pow_sub_one]
    by_cases hj : j < 64
    · rw [h j hj]; simp [hj]
    · rw [Nat.testBit_lt_two_pow (Nat.lt_of_lt_of_le hw (Nat.pow_le_pow_right (by omega) (by omega)))]; simp [hj]
/-- All words below j full: nothing free below 64 * j. -/
theorem Bw.upto {D : Bool} {W : List Nat} {T : List Bool} (h : Bw D W T) {j : Nat} (g : ∀ i, i < j → W.getD i 0 = 2 ^ 64 - 1) : Upto T (min (64 * j) T.length) := fun k hk => by
  have h1 : k < T.length := by omega
  rw [h.at' h1, g (k / 64) (by omega), Nat.testBit_two_pow_sub_one]
  simp
  omega
/-- New words. -/
theorem bw_new (n m : Nat) (h : n ≤ 64 * m) : Bw false (List.replicate m 0) (nw n) := by
  refine ⟨fun j hj => by simp, by simpa [nw] using h, fun k hk => ?_⟩
  rw [List.length_replicate] at hk
  rw [getD_lt (by rw [List.length_replicate]; omega), List.getElem_replicate, Nat.zero_testBit]
  by_cases q : k < n
  · rw [getD_bl (by rw [nw_len]; exact q)]; simp [nw]
  · rw [getD_hi (by rw [nw_len]; omega)]
/-- How many bits of a word are set; of all words. -/
def pc (w : Nat) : Nat := ((List.range 64).filter (fun j => w.testBit j)).length
theorem pc_le (w : Nat) : pc w ≤ 64 := by
  unfold pc
  exact Nat.le_trans (List.length_filter_le _ _) (by simp)
def cnt (p : Nat → Bool) (a : Nat) : Nat → Nat
  | 0 => 0
  | n + 1 => cnt p a n + if p (a + n) then 1 else 0
theorem cnt_add (p : Nat → Bool) (a n : Nat) : ∀ m, cnt p a (n + m) = cnt p a n + cnt p (a + n) m
  | 0 => rfl
  | m + 1 => by
    show cnt p a (n + m) + _ = _
    rw [cnt_add p a n m]
    show cnt p a n + cnt p (a + n) m + (if p (a + (n + m)) then 1 else 0) = cnt p a n + (cnt p (a + n) m + if p (a + n + m) then 1 else 0)
    rw [← Nat.add_assoc a n m]
    omega
theorem cnt_congr {p q : Nat → Bool} {a b : Nat} : ∀ {n : Nat}, (∀ i, i < n → p (a + i) = q (b + i)) → cnt p a n = cnt q b n
  | 0, _ => rfl
  | n + 1, h => by
    show cnt p a n + _ = cnt q b n + _
    rw [cnt_congr (fun i hi => h i (by omega)), h n (by omega)]
theorem pc_cnt (w : Nat) : ∀ n, ((List.range n).filter (fun j => w.testBit j)).length = cnt (fun j => w.testBit j) 0 n
  | 0 => rfl
  | n + 1 => by
    rw [List.range_succ, List.filter_append, List.length_append, pc_cnt w n]
    show _ = cnt _ 0 n + _
    rw [Nat.zero_add]
    cases h : w.testBit n
    · rw [List.filter_cons_of_neg (by simp [h])]; simp [h]
    · rw [List.filter_cons_of_pos (by simp [h])]; simp [h]
theorem cT_cnt (T : List Bool) : ∀ n, n ≤ T.length → (T.take n).count true = cnt (fun k => T.getD k false) 0 n
  | 0, _ => by simp [cnt]
  | n + 1, h => by
    rw [List.take_add_one, List.getElem?_eq_getElem (by omega), List.count_append, cT_cnt T n (by omega)]
    show _ = cnt _ 0 n + _
    rw [Nat.zero_add]
    show _ = _ + if T.getD n false then 1 else 0
    rw [getD_bl (by omega)]
    cases T[n]'(by omega) <;> rfl
/-- What the words below m hold. -/
theorem Bw.count {W : List Nat} {T : List Bool} (h : Bw false W T) : ∀ m, m ≤ W.length → cnt (fun k => T.getD k false) 0 (64 * m) = ((W.take m).map pc).sum
  | 0, _ => by simp [cnt]
  | m + 1, hm => by
    rw [show 64 * (m + 1) = 64 * m + 64 by omega, cnt_add, h.count m (by omega), List.take_add_one, List.getElem?_eq_getElem (by omega)]
    simp only [Option.toList_some, List.map_append, List.map_cons, List.map_nil, List.sum_append, List.sum_cons, List.sum_nil, Nat.add_zero, Nat.zero_add]
    congr 1
    unfold pc
    rw [pc_cnt]
    refine cnt_congr (fun i hi => ?_)
    rw [← h.bit _ (by omega), show (64 * m + i) / 64 = m by omega, show (64 * m + i) % 64 = i by omega, getD_lt (by omega), Nat.zero_add]
theorem cnt_none {p : Nat → Bool} {a : Nat} : ∀ {n : Nat}, (∀ i, i < n → p (a + i) = false) → cnt p a n = 0
  | 0, _ => rfl
  | n + 1, h => by
    show cnt p a n + _ = 0
    rw [cnt_none (fun i hi => h i (by omega)), h n (by omega)]
    rfl
/-- All that is taken is what the words hold. -/
theorem Bw.total {W : List Nat} {T : List Bool} (h : Bw false W T) : cT T = (W.map pc).sum := by
  have h1 := cT_cnt T T.length (Nat.le_refl _)
  have h2 := h.count W.length (Nat.le_refl _)
  rw [List.take_length] at h1 h2
  unfold cT
  rw [h1, ← h2]
  obtain ⟨d, hd⟩ : ∃ d, 64 * W.length = T.length + d := ⟨64 * W.length - T.length, by have := h.le; omega⟩
  rw [hd, cnt_add, cnt_none (a := 0 + T.length) (fun i hi => getD_hi (by omega)), Nat.add_zero]
end Go.Proofs.YtncelpphbhcogaaDoor.Z
