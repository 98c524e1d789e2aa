/- Layer 19, plain mathematics: numbers that are never used, or ever; round after round; no condition but those named. -/
import Derived.Test.YtimeoinmepfpnaaRb
namespace Go.Proofs.Ytimeoinmepfpnaa.Ri
set_option linter.unusedVariables false

def nev (s : Unit) (x : Int) : Bool × Unit := (false, ())
def evr (s : Unit) (x : Int) : Bool × Unit := (true, ())
theorem nev1 {pin x : Int} {T : List Int} (h : x ≠ pin) : nxt nev pin (x :: T) () = (some x, 1, rt (x :: T) 1, ()) := by
  unfold nxt
  rw [nx_ans h rfl]
  rfl
theorem nev2 {pin y : Int} {T : List Int} (h : y ≠ pin) : nxt nev pin (pin :: y :: T) () = (some y, 2, rt (pin :: y :: T) 2, ()) := by
  unfold nxt
  rw [show 2 * (pin :: y :: T).length + 1 = (2 * T.length + 3) + 1 + 1 by simp; omega, nx_pin]
  show nx nev pin ((2 * T.length + 3) + 1) (y :: (T ++ [pin])) () 1 = _
  rw [nx_ans h rfl]
  simp [rt, tu, nev]
/-- A row turned whole is itself. -/
theorem rt_mod {L : List Int} (h : 0 < L.length) (k : Nat) : rt L k = rt L (k % L.length) := by
  apply List.ext_getElem?
  intro i
  by_cases hi : i < L.length
  · rw [rt_get hi, rt_get hi]
    congr 1
    rw [Nat.add_mod i (k % L.length), Nat.mod_mod, ← Nat.add_mod]
  · rw [List.getElem?_eq_none (by rw [rt_len]; omega), List.getElem?_eq_none (by rw [rt_len]; omega)]
/-- The first two of a turned row of numbers. -/
theorem rt_sg {n t : Nat} (h : 2 ≤ n) : ∃ T, rt (sg 0 n) t = ((t % n : Nat) : Int) :: (((t + 1) % n : Nat) : Int) :: T := by
  have hl : (rt (sg 0 n) t).length = n := by rw [rt_len, sg_len]
  have g0 := rt_get (L := sg 0 n) (k := t) (i := 0) (by rw [sg_len]; omega)
  have g1 := rt_get (L := sg 0 n) (k := t) (i := 1) (by rw [sg_len]; omega)
  rw [sg_len, sg_get _ _ _ (Nat.mod_lt _ (by omega)), Nat.zero_add] at g0 g1
  rw [Nat.zero_add] at g0
  rw [Nat.add_comm 1 t] at g1
  match hr : rt (sg 0 n) t, hl with
  | a :: b :: T, _ =>
    rw [hr] at g0 g1
    simp at g0 g1
    refine ⟨T, ?_⟩
    rw [g0, g1]
    simp
  | [], q => simp at q; omega
  | [a], q => simp at q; omega
/-- Where the hand stands ahead of the number i of the round k. -/
def hd (n : Nat) (pin : Int) (k i : Nat) : Nat := if 0 < i ∧ ((i : Int) - 1 = pin) then i - 1 else if i = 0 ∧ 0 < k ∧ pin = (n : Int) - 1 then n - 1 else i % n
/-- How many are looked at then. -/
def lk (n : Nat) (pin : Int) (k i : Nat) : Nat := if (0 < i ∧ ((i : Int) - 1 = pin)) ∨ (i = 0 ∧ 0 < k ∧ pin = (n : Int) - 1) then 2 else 1
theorem hd_zero (n : Nat) (pin : Int) : hd n pin 0 0 = 0 := by unfold hd; simp
theorem hd_round {n : Nat} {pin : Int} (k : Nat) (h : 2 ≤ n) : hd n pin (k + 1) 0 = hd n pin k n := by
  unfold hd
  rw [if_neg (by omega)]
  by_cases q : pin = (n : Int) - 1
  · rw [if_pos ⟨rfl, by omega, q⟩, if_pos ⟨by omega, q.symm⟩]
  · rw [if_neg (fun z => q z.2.2), if_neg (fun z => q z.2.symm), if_neg (by omega), Nat.mod_self, Nat.zero_mod]
theorem hd_skip {n : Nat} {pin : Int} {k i : Nat} (h : 2 ≤ n) (hi : i < n) (hp : (i : Int) = pin) : hd n pin k (i + 1) = hd n pin k i := by
  unfold hd
  rw [if_pos ⟨by omega, by omega⟩, if_neg (by omega), if_neg (by omega), Nat.mod_eq_of_lt hi]
  omega
theorem round_step {n : Nat} {pin : Int} {k i t : Nat} (h : 2 ≤ n) (hi : i < n) (hp : (i : Int) ≠ pin) (ht : t % n = hd n pin k i) :
    nxt nev pin (rt (sg 0 n) t) () = (some (i : Int), lk n pin k i, rt (sg 0 n) (t + lk n pin k i), ()) ∧ (t + lk n pin k i) % n = hd n pin k (i + 1) := by
  obtain ⟨T, hT⟩ := rt_sg (n := n) (t := t) h
  have he : hd n pin k (i + 1) = (i + 1) % n := by
    unfold hd
    rw [if_neg (fun z => hp (by omega)), if_neg (by omega)]
  rw [he]
  by_cases q : (0 < i ∧ ((i : Int) - 1 = pin)) ∨ (i = 0 ∧ 0 < k ∧ pin = (n : Int) - 1)
  · have hl : lk n pin k i = 2 := by unfold lk; rw [if_pos q]
    have h1 : ((t % n : Nat) : Int) = pin ∧ (t + 1) % n = i := by
      rcases q with ⟨q1, q2⟩ | ⟨q1, q2, q3⟩
      · have : t % n = i - 1 := by rw [ht]; unfold hd; rw [if_pos ⟨q1, q2⟩]
        refine ⟨by omega, ?_⟩
        rw [Nat.add_mod, this, Nat.mod_eq_of_lt (show 1 < n by omega), Nat.mod_eq_of_lt (by omega)]
        omega
      · have : t % n = n - 1 := by rw [ht]; unfold hd; rw [if_neg (by omega), if_pos ⟨q1, q2, q3⟩]
        refine ⟨by omega, ?_⟩
        rw [Nat.add_mod, this, Nat.mod_eq_of_lt (show 1 < n by omega), show n - 1 + 1 = n by omega, Nat.mod_self, q1]
    rw [hl]
    refine ⟨?_, ?_⟩
    · rw [rt_add, hT, h1.1, h1.2]
      exact nev2 hp
    · rw [show t + 2 = (t + 1) + 1 by omega, Nat.add_mod, h1.2, Nat.mod_eq_of_lt (show 1 < n by omega)]
  · have hl : lk n pin k i = 1 := by unfold lk; rw [if_neg q]
    have h1 : t % n = i := by
      rw [ht]
      unfold hd
      rw [if_neg (fun z => q (Or.inl z)), if_neg (fun z => q (Or.inr z)), Nat.mod_eq_of_lt hi]
    rw [hl]
    refine ⟨?_, ?_⟩
    · rw [rt_add, hT, h1]
      exact nev1 hp
    · rw [Nat.add_mod, h1, Nat.mod_eq_of_lt (show 1 < n by omega)]
/-- Behind the rounds, with one more: told from the beginning on, if the last one of them was not pinned. -/
theorem round_more {n t : Nat} (h : 2 ≤ n) (ht : t % n = 0) : rt (sg 0 n) t ++ [(n : Int)] = sg 0 (n + 1) := by
  rw [rt_mod (by rw [sg_len]; omega), sg_len, ht, sg_snoc, Nat.zero_add]
  rfl
theorem one_step {n i : Nat} (h : 2 ≤ n) (hi : i < n) : nxt nev (-1) (rt (sg 0 n) i) () = (some (i : Int), 1, rt (sg 0 n) (i + 1), ()) := by
  obtain ⟨T, hT⟩ := rt_sg (n := n) (t := i) h
  rw [Nat.mod_eq_of_lt hi] at hT
  rw [hT]
  have : rt (sg 0 n) (i + 1) = rt (rt (sg 0 n) i) 1 := rt_add _ i 1
  rw [this, hT]
  exact nev1 (by omega)
/-- Of a row that has one the first is told, whatever it is, if none is pinned. -/
theorem any_step {L : List Int} (h : Ok L) (hl : L ≠ []) : ∃ x, nxt nev (-1) L () = (some x, 1, rt L 1, ()) := by
  match L, hl with
  | x :: T, _ =>
    have := h.nn x (List.mem_cons_self)
    exact ⟨x, nev1 (by omega)⟩
/-- The chapter's three, as works asks of them. -/
theorem three1 : nxt nev (-1) [1, 2, 3] () = (some 1, 1, [2, 3, 1], ()) := by decide
theorem three2 : nxt nev 2 [2, 3, 1] () = (some 3, 2, [1, 2, 3], ()) := by decide
theorem three3 : nxt evr (-1) [1, 2, 3] () = (none, 7, [2, 3, 1], ()) := by decide
theorem three4 : RmS [2, 3, 1] 2 [3, 1] 0 := Or.inl ⟨by decide, by decide, rfl⟩
/-- What used says out of a list, one behind the other; behind the last one the rest. -/
def tell (bits : List Bool) (rest : Bool) (l : List Int) (x : Int) : Bool × List Int := (bits.getD l.length rest, l ++ [x])
theorem tell_at {bits : List Bool} {rest : Bool} {l : List Int} {x : Int} (h : l.length < bits.length) : (tell bits rest l x).1 = bits[l.length] := by
  show bits.getD l.length rest = _
  rw [List.getD_eq_getElem?_getD, List.getElem?_eq_getElem h]
  rfl
theorem tell_end {bits : List Bool} {rest : Bool} {l : List Int} {x : Int} (h : bits.length ≤ l.length) : (tell bits rest l x).1 = rest := by
  show bits.getD l.length rest = _
  rw [List.getD_eq_getElem?_getD, List.getElem?_eq_none h]
  rfl
/-- No more are asked than are looked at. -/
theorem nx_len {bits : List Bool} {rest : Bool} {pin : Int} : ∀ (m : Nat) (L : List Int) (l : List Int) (k : Nat), (nx (tell bits rest) pin m L l k).2.2.2.length ≤ l.length + m
  | 0, L, l, k => by rw [nx_zero]; exact Nat.le_refl _
  | m + 1, [], l, k => Nat.le_add_right _ _
  | m + 1, x :: T, l, k => by
    by_cases hp : x = pin
    · subst hp
      rw [nx_pin]
      have := nx_len (bits := bits) (rest := rest) (pin := x) m (T ++ [x]) l (k + 1)
      omega
    · cases hu : (tell bits rest l x).1
      · rw [nx_ans hp hu]
        show (l ++ [x]).length ≤ _
        simp
      · rw [nx_pass hp hu]
        have := nx_len (bits := bits) (rest := rest) (pin := pin) m (T ++ [x]) (l ++ [x]) (k + 1)
        rw [List.length_append] at this
        have e : [x].length = 1 := rfl
        rw [e] at this
        show (nx (tell bits rest) pin m (T ++ [x]) (l ++ [x]) (k + 1)).2.2.2.length ≤ _
        omega
/-- Where Next stands in the middle: what is left of it is the whole. -/
def At {σ : Type} (u : σ → Int → Bool × σ) (pin : Int) (L : List Int) (s : σ) (j : Nat) (L' : List Int) (s' : σ) : Prop := j ≤ 2 * L.length + 1 ∧ nxt u pin L s = nx u pin (2 * L.length + 1 - j) L' s' j ∧ L'.length = L.length ∧ L'.Perm L
theorem At.start {σ : Type} (u : σ → Int → Bool × σ) (pin : Int) (L : List Int) (s : σ) : At u pin L s 0 L s := ⟨by omega, rfl, rfl, List.Perm.refl _⟩
theorem At.pin {σ : Type} {u : σ → Int → Bool × σ} {pin : Int} {L T : List Int} {s s' : σ} {j : Nat} (h : At u pin L s j (pin :: T) s') (hj : j < 2 * L.length + 1) : At u pin L s (j + 1) (T ++ [pin]) s' := by
  obtain ⟨h1, h2, h3, h4⟩ := h
  refine ⟨by omega, ?_, by rw [← h3]; simp, (tu_perm (pin :: T)).trans h4⟩
  rw [h2, show 2 * L.length + 1 - j = (2 * L.length + 1 - (j + 1)) + 1 by omega, nx_pin]
theorem At.pass {σ : Type} {u : σ → Int → Bool × σ} {pin x : Int} {L T : List Int} {s s' : σ} {j : Nat} (h : At u pin L s j (x :: T) s') (hj : j < 2 * L.length + 1) (hp : x ≠ pin) (hu : (u s' x).1 = true) : At u pin L s (j + 1) (T ++ [x]) (u s' x).2 := by
  obtain ⟨h1, h2, h3, h4⟩ := h
  refine ⟨by omega, ?_, by rw [← h3]; simp, (tu_perm (x :: T)).trans h4⟩
  rw [h2, show 2 * L.length + 1 - j = (2 * L.length + 1 - (j + 1)) + 1 by omega, nx_pass hp hu]
theorem At.ans {σ : Type} {u : σ → Int → Bool × σ} {pin x : Int} {L T : List Int} {s s' : σ} {j : Nat} (h : At u pin L s j (x :: T) s') (hj : j < 2 * L.length + 1) (hp : x ≠ pin) (hu : (u s' x).1 = false) : nxt u pin L s = (some x, j + 1, T ++ [x], (u s' x).2) := by
  obtain ⟨h1, h2, h3, h4⟩ := h
  rw [h2, show 2 * L.length + 1 - j = (2 * L.length + 1 - (j + 1)) + 1 by omega, nx_ans hp hu]
theorem At.end_ {σ : Type} {u : σ → Int → Bool × σ} {pin : Int} {L L' : List Int} {s s' : σ} (h : At u pin L s (2 * L.length + 1) L' s') : nxt u pin L s = (none, 2 * L.length + 1, L', s') := by
  obtain ⟨h1, h2, h3, h4⟩ := h
  rw [h2, Nat.sub_self, nx_zero]
end Go.Proofs.Ytimeoinmepfpnaa.Ri
