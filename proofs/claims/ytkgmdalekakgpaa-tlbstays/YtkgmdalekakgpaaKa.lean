/- The lists of the statement TlbStays: what was filled or found, the latest last; dropped ones keep their place. -/
import Derived.Test.YtkgmdalekakgpaaTd
namespace Go.Proofs.Ytkgmdalekakgpaa
set_option linter.unusedVariables false

/-- A translation that was filled or found; dropped since, or not. -/
structure Kx where
  x : Tr
  gone : Bool
def kc (y : Kx) : List Value := tc y.x ++ [.bool y.gone]
def kv (l : List Kx) : List Value := l.flatMap kc
def kt (a p : Int) (l : List Kx) (y : Kx) : List Kx := l.filter (fun z => !hk a p z.x) ++ [y]
def kd (a p : Int) (l : List Kx) : List Kx := l.map (fun z => if hk a p z.x then { z with gone := true } else z)
theorem kv_len : ∀ l : List Kx, (kv l).length = l.length * 7
  | [] => rfl
  | x :: l => by
    have := kv_len l
    simp only [kv, List.flatMap_cons, List.length_append, List.length_cons, List.length_nil, kc, tc] at this ⊢
    omega
theorem kv_app (a b : List Kx) : kv (a ++ b) = kv a ++ kv b := by simp [kv]
theorem kv_cons (x : Kx) (l : List Kx) : kv (x :: l) = kc x ++ kv l := by simp [kv]
theorem kc_len (x : Kx) : (kc x).length = 7 := rfl
theorem kc_one (x : Kx) : ∀ v ∈ kc x, v.oneCell' = true := by
  intro v hv
  simp only [kc, tc, List.mem_append, List.mem_cons, List.not_mem_nil, or_false] at hv
  rcases hv with (rfl | rfl | rfl | rfl | rfl | rfl) | rfl <;> rfl
theorem kv_one (l : List Kx) : ∀ v ∈ kv l, v.oneCell' = true := by
  intro v hv
  simp only [kv, List.mem_flatMap] at hv
  obtain ⟨x, _, h⟩ := hv
  exact kc_one x v h
theorem kv_at : ∀ {l : List Kx} {k : Nat} {x : Kx}, l[k]? = some x → ∀ j v, (kc x)[j]? = some v → (kv l)[k * 7 + j]? = some v
  | [], k, x, h => by simp at h
  | y :: l, 0, x, h => by
    simp at h
    subst h
    intro j v hv
    have hj := (List.getElem?_eq_some_iff.1 hv).1
    rw [kv_cons, Nat.zero_mul, Nat.zero_add, List.getElem?_append_left hj]
    exact hv
  | y :: l, k + 1, x, h => by
    intro j v hv
    simp at h
    rw [kv_cons, show (k + 1) * 7 + j = (k * 7 + j) + (kc y).length by rw [kc_len]; omega, List.getElem?_append_right (by omega), Nat.add_sub_cancel]
    exact kv_at h j v hv
/-! ### What holds of both -/
/-- The live ones, the latest first. -/
def lv (A : List Kx) : List Tr := A.filterMap (fun z => if z.gone then none else some z.x)
def Ku (A : List Kx) : Prop := A.Pairwise (fun x y => hk x.x.a x.x.p y.x = false)
theorem lv_cons_live (x : Tr) (A : List Kx) : lv (⟨x, false⟩ :: A) = x :: lv A := by simp [lv]
theorem lv_filter (a p : Int) (A : List Kx) : lv (A.filter (fun z => !hk a p z.x)) = rm a p (lv A) := by
  induction A with
  | nil => rfl
  | cons z A ih =>
    cases hz : hk a p z.x with
    | true =>
      rw [List.filter_cons_of_neg (by simp [hz]), ih]
      cases hg : z.gone with
      | true => simp [lv, hg]
      | false => simp [lv, hg, rm, hz]
    | false =>
      rw [List.filter_cons_of_pos (by simp [hz])]
      cases hg : z.gone with
      | true =>
        have e1 : ∀ B, lv (z :: B) = lv B := fun B => by simp [lv, hg]
        rw [e1, e1, ih]
      | false =>
        have e1 : ∀ B, lv (z :: B) = z.x :: lv B := fun B => by simp [lv, hg]
        rw [e1, e1, ih]
        simp [rm, hz]
theorem lv_drop (a p : Int) (A : List Kx) : lv (A.map (fun z => if hk a p z.x then { z with gone := true } else z)) = rm a p (lv A) := by
  induction A with
  | nil => rfl
  | cons z A ih =>
    rw [List.map_cons]
    cases hz : hk a p z.x with
    | true =>
      have e0 : ∀ B, lv ((if true = true then { z with gone := true } else z) :: B) = lv B := fun B => by simp [lv]
      rw [e0, ih]
      cases hg : z.gone with
      | true => simp [lv, hg]
      | false => simp [lv, hg, rm, hz]
    | false =>
      rw [if_neg (by simp)]
      cases hg : z.gone with
      | true =>
        have e1 : ∀ B, lv (z :: B) = lv B := fun B => by simp [lv, hg]
        rw [e1, e1, ih]
      | false =>
        have e1 : ∀ B, lv (z :: B) = z.x :: lv B := fun B => by simp [lv, hg]
        rw [e1, e1, ih]
        simp [rm, hz]
theorem rm_prefix {a p : Int} {l L : List Tr} (h : l <+: L) : rm a p l <+: rm a p L := h.filter _
theorem lv_prefix {A B : List Kx} (h : A <+: B) : lv A <+: lv B := h.filterMap _
/-- A's first n - 1 without a page are among its first n without it. -/
theorem filter_take (a p : Int) : ∀ (A : List Kx) (n : Nat), Ku A → (A.filter (fun z => !hk a p z.x)).take n <+: (A.take (n + 1)).filter (fun z => !hk a p z.x)
  | [], n, _ => by simp
  | z :: A, n, hu => by
    have h1 := (List.pairwise_cons.1 hu).1
    have h2 : Ku A := (List.pairwise_cons.1 hu).2
    cases hz : hk a p z.x with
    | true =>
      obtain ⟨rfl, rfl⟩ := hk_eq hz
      have e : A.filter (fun w => !hk z.x.a z.x.p w.x) = A := by
        rw [List.filter_eq_self]
        intro y hy
        simp [h1 y hy]
      have e2 : (A.take n).filter (fun w => !hk z.x.a z.x.p w.x) = A.take n := by
        rw [List.filter_eq_self]
        intro y hy
        simp [h1 y (List.mem_of_mem_take hy)]
      rw [List.filter_cons_of_neg (by simp [hz]), e, List.take_succ_cons, List.filter_cons_of_neg (by simp [hz]), e2]
      exact List.prefix_refl _
    | false =>
      rw [List.filter_cons_of_pos (by simp [hz]), List.take_succ_cons, List.filter_cons_of_pos (by simp [hz])]
      cases n with
      | zero => simp
      | succ n =>
        rw [List.take_succ_cons]
        have ih := filter_take a p A n h2
        exact List.prefix_cons_inj z |>.2 ih
/-- What holds of the row l and of what was filled or found, the latest first. -/
structure Si (n : Nat) (l : List Tr) (A : List Kx) : Prop where
  pre : l <+: lv A
  top : lv (A.take n) <+: l
  uq : Ku A
theorem Ku.front {A : List Kx} (h : Ku A) (x : Tr) (g : Bool) : Ku (⟨x, g⟩ :: A.filter (fun z => !hk x.a x.p z.x)) := by
  unfold Ku
  rw [List.pairwise_cons]
  refine ⟨fun y hy => ?_, List.Pairwise.sublist List.filter_sublist h⟩
  have := (List.mem_filter.1 hy).2
  simpa using this
theorem Si.fill {n : Nat} {l : List Tr} {A : List Kx} (h : Si n l A) (x : Tr) (hn : 1 ≤ n) : Si n (fil n x l) (⟨x, false⟩ :: A.filter (fun z => !hk x.a x.p z.x)) := by
  refine ⟨?_, ?_, h.uq.front x false⟩
  · rw [lv_cons_live, lv_filter]
    unfold fil
    exact (List.take_prefix _ _).trans ((List.prefix_cons_inj x).2 (rm_prefix h.pre))
  · obtain ⟨m, rfl⟩ : ∃ m, n = m + 1 := ⟨n - 1, by omega⟩
    rw [List.take_succ_cons, lv_cons_live]
    unfold fil
    rw [List.take_succ_cons]
    refine (List.prefix_cons_inj x).2 ?_
    have h1 := lv_prefix (filter_take x.a x.p A m h.uq)
    rw [lv_filter] at h1
    have h2 := h1.trans (rm_prefix h.top)
    have hl : (lv ((A.filter (fun z => !hk x.a x.p z.x)).take m)).length ≤ m := by
      refine Nat.le_trans (List.length_filterMap_le _ _) ?_
      simp
      omega
    exact List.prefix_take_iff.2 ⟨h2, hl⟩
theorem Ku.map {A : List Kx} (h : Ku A) (a p : Int) : Ku (A.map (fun z => if hk a p z.x then { z with gone := true } else z)) := by
  unfold Ku
  rw [List.pairwise_map]
  refine List.Pairwise.imp ?_ h
  intro x y hxy
  split <;> split <;> simpa using hxy
theorem Si.drop {n : Nat} {l : List Tr} {A : List Kx} (h : Si n l A) (a p : Int) : Si n (rm a p l) (A.map (fun z => if hk a p z.x then { z with gone := true } else z)) := by
  refine ⟨?_, ?_, h.uq.map a p⟩
  · rw [lv_drop]
    exact rm_prefix h.pre
  · rw [← List.map_take, lv_drop]
    exact rm_prefix h.top
theorem fil_found {n : Nat} {l : List Tr} (hu : Uq l) (hl : l.length ≤ n) {a p : Int} {x : Tr} (h : look a p l = some x) : fil n x l = x :: rm a p l := by
  rcases ix_or a p l with ⟨k, y, hx, e⟩ | ⟨_, e⟩
  · rw [h] at e
    injection e with e
    subst e
    obtain ⟨rfl, rfl⟩ := hk_eq hx.is
    unfold fil
    rw [List.take_of_length_le]
    have := rm_len_at hu hx.at' hx.is
    simp
    omega
  · rw [h] at e; cases e
theorem lv_mem {A : List Kx} {z : Tr} : z ∈ lv A ↔ ∃ y ∈ A, y.gone = false ∧ y.x = z := by
  unfold lv
  rw [List.mem_filterMap]
  constructor
  · rintro ⟨y, hy, h⟩
    cases hg : y.gone with
    | true => simp [hg] at h
    | false =>
      simp [hg] at h
      exact ⟨y, hy, hg, h⟩
  · rintro ⟨y, hy, hg, rfl⟩
    exact ⟨y, hy, by simp [hg]⟩
theorem Ku.one : ∀ {A : List Kx}, Ku A → ∀ {y z : Kx}, y ∈ A → z ∈ A → hk y.x.a y.x.p z.x = true → y = z
  | [], _, y, z, h, _, _ => by simp at h
  | b :: A, hu, y, z, hy, hz, e => by
    have h1 := (List.pairwise_cons.1 hu).1
    have h2 : Ku A := (List.pairwise_cons.1 hu).2
    rcases List.mem_cons.1 hy with rfl | hy2
    · rcases List.mem_cons.1 hz with rfl | hz2
      · rfl
      · rw [h1 z hz2] at e; cases e
    · rcases List.mem_cons.1 hz with rfl | hz2
      · have := h1 y hy2
        obtain ⟨q1, q2⟩ := hk_eq e
        simp [hk, q1, q2] at this
      · exact Ku.one h2 hy2 hz2 e
theorem Si.is {n : Nat} {l : List Tr} {A : List Kx} (h : Si n l A) {y : Kx} (hy : y ∈ A) {z : Tr} (hz : look y.x.a y.x.p l = some z) : y.gone = false ∧ z = y.x := by
  have hm := List.mem_of_find?_eq_some hz
  have hk' := List.find?_some hz
  have hm2 : z ∈ lv A := h.pre.subset hm
  obtain ⟨y', hy', hg, rfl⟩ := lv_mem.1 hm2
  have := Ku.one h.uq hy hy' hk'
  subst this
  exact ⟨hg, rfl⟩
theorem Si.there {n : Nat} {l : List Tr} {A : List Kx} (h : Si n l A) {y : Kx} {i : Nat} (hi : A[i]? = some y) (hn : i < n) (hg : y.gone = false) : ∃ z, look y.x.a y.x.p l = some z := by
  have h1 : y.x ∈ lv (A.take n) := lv_mem.2 ⟨y, List.mem_of_getElem? (by rw [List.getElem?_take_of_lt hn]; exact hi), hg, rfl⟩
  have h2 := h.top.subset h1
  cases hl : look y.x.a y.x.p l with
  | some z => exact ⟨z, rfl⟩
  | none =>
    have := List.find?_eq_none.1 hl y.x h2
    simp [hk_self] at this
end Go.Proofs.Ytkgmdalekakgpaa
