/- The document's slab, by lists and numbers alone: a mask's places as truths, a frame put into a rising list, one struck out, the first free place; no condition but those that each theorem names. -/
import Derived.Test.YtdempgjhjcjklaaGreatVSg
import Derived.Test.YtdempgjhjcjklaaGreatVXa
namespace Go.Proofs.YtdempgjhjcjklaaGreat.P
open B Go.ChangeShapes Go.WideShapes Go.ChangeAt Go.RowKit
set_option linter.unusedVariables false
set_option maxRecDepth 8192

def bL (u x : Nat) : List Value := (List.range (pn u)).map fun i => .bool (x.testBit i)
theorem bL_len (u x : Nat) : (bL u x).length = pn u := by simp [bL]
theorem bL_get {u x i : Nat} (h : i < pn u) : (bL u x)[i]? = some (.bool (x.testBit i)) := by simp [bL, h]
theorem bL_zero (u : Nat) : bL u 0 = List.replicate (pn u) (.bool false) := by
  apply List.ext_getElem?
  intro i
  by_cases h : i < pn u
  · rw [bL_get h, List.getElem?_replicate, if_pos h]; simp
  · rw [List.getElem?_eq_none (by rw [bL_len]; omega), List.getElem?_eq_none (by simp; omega)]
theorem bL_put {u x y i : Nat} {b : Bool} (hi : i < pn u) (h : ∀ j, y.testBit j = if j = i then b else x.testBit j) : (bL u x).set i (.bool b) = bL u y := by
  apply List.ext_getElem?
  intro j
  rw [List.getElem?_set]
  by_cases hj : j < pn u
  · rw [bL_get hj, bL_get hj, h j, bL_len]
    by_cases e : i = j
    · subst e; simp [hi]
    · rw [if_neg e, if_neg (fun z => e z.symm)]
  · rw [List.getElem?_eq_none (by rw [bL_len]; omega), List.getElem?_eq_none (by rw [bL_len]; omega), if_neg (by omega)]
theorem bL_on {u x i : Nat} (hi : i < pn u) : (bL u x).set i (.bool true) = bL u (x ||| 2 ^ i) := bL_put hi (fun j => by
  rw [Nat.testBit_or, Nat.testBit_two_pow]
  by_cases e : j = i
  · subst e; simp
  · have : ¬ i = j := fun z => e z.symm
    simp [e, this])
theorem bL_off {u x i : Nat} (hi : i < pn u) (hx : x < 65536) : (bL u x).set i (.bool false) = bL u (clr x i) := bL_put hi (fun j => by
  rw [clr_bit (Nat.lt_of_lt_of_le hi (pn_le u).2) hx]
  by_cases e : j = i
  · subst e; simp
  · simp [e])
theorem asc_eq {l l' : List Nat} (h : l.Pairwise (· < ·)) (h' : l'.Pairwise (· < ·)) (hm : ∀ x, x ∈ l ↔ x ∈ l') : l = l' := by
  have n1 : l.Nodup := h.imp (fun q => by omega)
  have n2 : l'.Nodup := h'.imp (fun q => by omega)
  have h1 : l.Perm l' := (List.perm_ext_iff_of_nodup n1 n2).2 hm
  have s1 : l.Pairwise (· ≤ ·) := h.imp (fun q => Nat.le_of_lt q)
  have s2 : l'.Pairwise (· ≤ ·) := h'.imp (fun q => Nat.le_of_lt q)
  exact h1.eq_of_pairwise (fun a b _ _ h h' => by omega) s1 s2
def fl (mk : Ms) : List Nat := (List.range 4096).filter fun g => decide (mk g ≠ 0)
theorem mem_fl {mk : Ms} {g : Nat} : g ∈ fl mk ↔ g < 4096 ∧ mk g ≠ 0 := by simp [fl]
theorem fl_asc (mk : Ms) : (fl mk).Pairwise (· < ·) := List.Pairwise.filter _ List.pairwise_lt_range
theorem fl_of {mk : Ms} {fs : List Nat} (h : fs.Pairwise (· < ·)) (hf : ∀ g, mk g ≠ 0 → g < 4096) (hm : ∀ g, g ∈ fs ↔ mk g ≠ 0) : fs = fl mk :=
  asc_eq h (fl_asc mk) (fun g => by rw [hm, mem_fl]; exact ⟨fun z => ⟨hf g z, z⟩, fun z => z.2⟩)
theorem asc_le {l : List Nat} (h : l.Pairwise (· < ·)) (hl : ∀ x ∈ l, x < 4096) : l.length ≤ 4096 := by
  have e : l = (List.range 4096).filter fun x => decide (x ∈ l) := asc_eq h (List.Pairwise.filter _ List.pairwise_lt_range) (fun x => by
    rw [List.mem_filter, List.mem_range]
    constructor
    · intro z; exact ⟨hl x z, by simpa using z⟩
    · rintro ⟨_, z⟩; simpa using z)
  rw [e]
  have := List.length_filter_le (fun x => decide (x ∈ l)) (List.range 4096)
  rwa [List.length_range] at this
def Ins (f : Nat) (fs : List Nat) (i : Nat) (b : Bool) (A : List Nat) : Prop :=
  (b = false → A = fs.take i ∧ ∀ x ∈ A, x < f) ∧ (b = true → A.Pairwise (· < ·) ∧ (∀ x, x ∈ A ↔ x = f ∨ x ∈ fs.take i) ∧ ∃ j y, j < i ∧ fs[j]? = some y ∧ f < y)
theorem ins_start (f : Nat) (fs : List Nat) : Ins f fs 0 false [] := ⟨fun _ => ⟨rfl, fun x hx => by cases hx⟩, fun z => by cases z⟩
theorem take_next {α : Type} {l : List α} {i : Nat} {y : α} (h : l[i]? = some y) : l.take (i + 1) = l.take i ++ [y] := by
  rw [List.take_add_one, h]; rfl
theorem asc_lt {l : List Nat} (h : l.Pairwise (· < ·)) {i j x y : Nat} (hij : i < j) (hi : l[i]? = some x) (hj : l[j]? = some y) : x < y := by
  obtain ⟨h1, rfl⟩ := List.getElem?_eq_some_iff.1 hi
  obtain ⟨h2, rfl⟩ := List.getElem?_eq_some_iff.1 hj
  exact List.pairwise_iff_getElem.1 h i j h1 h2 hij
theorem mem_take {l : List Nat} {i x : Nat} (h : x ∈ l.take i) : ∃ j, j < i ∧ l[j]? = some x := by
  obtain ⟨j, hj, e⟩ := List.getElem_of_mem h
  rw [List.length_take] at hj
  refine ⟨j, by omega, ?_⟩
  rw [← List.getElem?_take_of_lt (show j < i by omega), List.getElem?_eq_some_iff]
  exact ⟨by rw [List.length_take]; omega, e⟩
theorem ins_lt {f : Nat} {fs A : List Nat} {i y : Nat} (h : Ins f fs i false A) (hy : fs[i]? = some y) (hl : y < f) : Ins f fs (i + 1) false (A ++ [y]) := by
  obtain ⟨e, h1⟩ := h.1 rfl
  refine ⟨fun _ => ⟨by rw [take_next hy, e], fun x hx => ?_⟩, fun z => by cases z⟩
  rw [List.mem_append, List.mem_singleton] at hx
  rcases hx with z | z
  · exact h1 x z
  · omega
theorem ins_more {f : Nat} {fs A : List Nat} {i y : Nat} (h : Ins f fs i true A) (ha : fs.Pairwise (· < ·)) (hy : fs[i]? = some y) : Ins f fs (i + 1) true (A ++ [y]) := by
  obtain ⟨h1, h2, j, z, h3, h4, h5⟩ := h.2 rfl
  refine ⟨(fun q => by cases q), fun _ => ⟨?_, fun x => ?_, j, z, by omega, h4, h5⟩⟩
  · rw [List.pairwise_append]
    refine ⟨h1, by simp, fun x hx t ht => ?_⟩
    rw [List.mem_singleton] at ht
    subst ht
    rcases (h2 x).1 hx with e | e
    · have := asc_lt ha h3 h4 hy
      omega
    · obtain ⟨k, hk, e⟩ := mem_take e
      exact asc_lt ha hk e hy
  · rw [List.mem_append, List.mem_singleton, h2, take_next hy, List.mem_append, List.mem_singleton]
    constructor
    · rintro ((q | q) | q)
      · exact Or.inl q
      · exact Or.inr (Or.inl q)
      · exact Or.inr (Or.inr q)
    · rintro (q | q | q)
      · exact Or.inl (Or.inl q)
      · exact Or.inl (Or.inr q)
      · exact Or.inr q
theorem ins_here {f : Nat} {fs A : List Nat} {i y : Nat} (h : Ins f fs i false A) (ha : fs.Pairwise (· < ·)) (hy : fs[i]? = some y) (hl : f < y) : Ins f fs (i + 1) true (A ++ [f] ++ [y]) := by
  obtain ⟨e, h1⟩ := h.1 rfl
  refine ⟨(fun q => by cases q), fun _ => ⟨?_, fun x => ?_, i, y, by omega, hy, hl⟩⟩
  · rw [List.pairwise_append, List.pairwise_append]
    refine ⟨⟨by rw [e]; exact ha.sublist (List.take_sublist _ _), by simp, fun x hx t ht => ?_⟩, by simp, fun x hx t ht => ?_⟩
    · rw [List.mem_singleton] at ht
      subst ht
      exact h1 x hx
    · rw [List.mem_singleton] at ht
      subst ht
      rw [List.mem_append, List.mem_singleton] at hx
      rcases hx with q | q
      · have := h1 x q; omega
      · omega
  · rw [List.mem_append, List.mem_append, List.mem_singleton, List.mem_singleton, take_next hy, List.mem_append, List.mem_singleton, ← e]
    constructor
    · rintro ((q | q) | q)
      · exact Or.inr (Or.inl q)
      · exact Or.inl q
      · exact Or.inr (Or.inr q)
    · rintro (q | q | q)
      · exact Or.inl (Or.inr q)
      · exact Or.inl (Or.inl q)
      · exact Or.inr q
theorem ins_t {f : Nat} {fs A : List Nat} (h : Ins f fs fs.length true A) : A.Pairwise (· < ·) ∧ ∀ x, x ∈ A ↔ x = f ∨ x ∈ fs := by
  obtain ⟨h1, h2, _⟩ := h.2 rfl
  rw [List.take_length] at h2
  exact ⟨h1, h2⟩
theorem ins_f {f : Nat} {fs A : List Nat} (h : Ins f fs fs.length false A) (ha : fs.Pairwise (· < ·)) : (A ++ [f]).Pairwise (· < ·) ∧ ∀ x, x ∈ A ++ [f] ↔ x = f ∨ x ∈ fs := by
  obtain ⟨e, h1⟩ := h.1 rfl
  rw [List.take_length] at e
  subst e
  refine ⟨?_, fun x => ?_⟩
  · rw [List.pairwise_append]
    refine ⟨ha, by simp, fun x hx t ht => ?_⟩
    rw [List.mem_singleton] at ht
    subst ht
    exact h1 x hx
  · rw [List.mem_append, List.mem_singleton]
    exact Or.comm
theorem ins_len {f : Nat} {fs A : List Nat} {i : Nat} {b : Bool} (h : Ins f fs i b A) (ha : fs.Pairwise (· < ·)) (hl : ∀ x ∈ fs, x < 4096) (hf : f < 4096) : A.length ≤ 4096 := by
  have ht : ∀ x ∈ fs.take i, x < 4096 := fun x hx => hl x (List.mem_of_mem_take hx)
  cases b with
  | false =>
    rw [(h.1 rfl).1]
    exact asc_le (ha.sublist (List.take_sublist _ _)) ht
  | true =>
    obtain ⟨h1, h2, _⟩ := h.2 rfl
    refine asc_le h1 (fun x hx => ?_)
    rcases (h2 x).1 hx with e | e
    · omega
    · exact ht x e
theorem er_same {α : Type} {l : List α} {i at' : Nat} {y : α} (hy : l[i]? = some y) (hne : i ≠ at') : (l.take (i + 1)).eraseIdx at' = (l.take i).eraseIdx at' ++ [y] := by
  have hi := (List.getElem?_eq_some_iff.1 hy).1
  have hlen : (l.take i).length = i := by rw [List.length_take]; omega
  rw [take_next hy]
  by_cases h : i < at'
  · rw [List.eraseIdx_of_length_le (by rw [List.length_append, hlen, List.length_singleton]; omega), List.eraseIdx_of_length_le (by rw [hlen]; omega)]
  · rw [List.eraseIdx_append_of_lt_length (by rw [hlen]; omega)]
theorem er_skip {α : Type} {l : List α} {i : Nat} {y : α} (hy : l[i]? = some y) : (l.take (i + 1)).eraseIdx i = (l.take i).eraseIdx i := by
  have hi := (List.getElem?_eq_some_iff.1 hy).1
  have hlen : (l.take i).length = i := by rw [List.length_take]; omega
  have e2 : (l.take i).eraseIdx i = l.take i := List.eraseIdx_of_length_le (by omega)
  rw [take_next hy, List.eraseIdx_append_of_length_le (by rw [hlen]; omega), hlen, Nat.sub_self, e2]
  simp
theorem er_mem {fs : List Nat} (ha : fs.Pairwise (· < ·)) {i g : Nat} (hg : fs[i]? = some g) (x : Nat) : x ∈ fs.eraseIdx i ↔ x ∈ fs ∧ x ≠ g := by
  obtain ⟨hi, rfl⟩ := List.getElem?_eq_some_iff.1 hg
  have hp := List.pairwise_iff_getElem.1 ha
  rw [List.mem_eraseIdx_iff_getElem]
  constructor
  · rintro ⟨j, hj, hne, rfl⟩
    refine ⟨List.getElem_mem _, fun e => ?_⟩
    rcases Nat.lt_or_gt_of_ne hne with q | q
    · have := hp j i hj hi q; omega
    · have := hp i j hi hj q; omega
  · rintro ⟨hx, hne⟩
    obtain ⟨j, hj, rfl⟩ := List.getElem_of_mem hx
    exact ⟨j, hj, fun e => hne (by subst e; rfl), rfl⟩
def ful (u x : Nat) : Prop := ∀ j, j < pn u → x.testBit j = true
theorem ful_iff {u x : Nat} (hx : x < 2 ^ pn u) : ful u x ↔ x = 2 ^ pn u - 1 := by
  constructor
  · intro h
    by_cases e : x = 2 ^ pn u - 1
    · exact e
    · obtain ⟨i, h1, h2⟩ := lp_some hx e
      rw [h i h1] at h2
      cases h2
  · intro e j hj
    rw [e, Nat.testBit_two_pow_sub_one]
    simp [hj]
def Fre (u : Nat) (fs : List Nat) (mk : Ms) (i g k : Nat) : Prop := fs[i]? = some g ∧ LP u (mk g) k ∧ ∀ j g', j < i → fs[j]? = some g' → ful u (mk g')
theorem fre_rm {u : Nat} {mk : Ms} (hf : ∀ g, mk g ≠ 0 → g < 4096) (hm : ∀ g, mk g < 2 ^ pn u) {i g k : Nat} (h : Fre u (fl mk) mk i g k) : Rm u mk g := by
  obtain ⟨h1, h2, h3⟩ := h
  have hg := mem_fl.1 (List.mem_of_getElem? h1)
  refine ⟨⟨hg.2, fun e => ?_⟩, fun g' hg' hr => ?_⟩
  · have := (ful_iff (hm g)).2 e k h2.1
    rw [h2.2.1] at this
    cases this
  · obtain ⟨j, hj⟩ := List.mem_iff_getElem?.1 (mem_fl.2 ⟨hf g' hr.1, hr.1⟩)
    have hji : j < i := by
      rcases Nat.lt_trichotomy j i with q | q | q
      · exact q
      · subst q
        rw [h1] at hj
        injection hj with hj
        omega
      · have := asc_lt (fl_asc mk) q h1 hj
        omega
    exact hr.2 ((ful_iff (hm g')).1 (h3 j g' hji hj))
theorem ful_no {u : Nat} {mk : Ms} (hf : ∀ g, mk g ≠ 0 → g < 4096) (hm : ∀ g, mk g < 2 ^ pn u) (h : ∀ g ∈ fl mk, ful u (mk g)) (g : Nat) : ¬ rmy u mk g := fun hr =>
  hr.2 ((ful_iff (hm g)).1 (h g (mem_fl.2 ⟨hf g hr.1, hr.1⟩)))
theorem fre_fresh {u : Nat} {fs fs' : List Nat} {mk : Ms} {f : Nat} (h : ∀ g ∈ fs, ful u (mk g)) (hm : ∀ x, x ∈ fs' ↔ x = f ∨ x ∈ fs) (h0 : mk f = 0) {i g k : Nat} (hr : Fre u fs' mk i g k) : g = f ∧ k = 0 := by
  obtain ⟨h1, h2, h3⟩ := hr
  have hg : g = f := by
    rcases (hm g).1 (List.mem_of_getElem? h1) with e | e
    · exact e
    · have := h g e k h2.1
      rw [h2.2.1] at this
      cases this
  refine ⟨hg, ?_⟩
  subst hg
  by_cases e : k = 0
  · exact e
  · have := h2.2.2 0 (by omega)
    rw [h0] at this
    simp at this
theorem fre_not {u : Nat} {fs' : List Nat} {mk : Ms} {f : Nat} (hm : f ∈ fs') (h0 : mk f = 0) (h : ∀ g ∈ fs', ful u (mk g)) : False := by
  have := h f hm 0 (by have := pn_le u; omega)
  rw [h0] at this
  simp at this
theorem flat_filter {α β : Type} (p : α → Bool) (f : α → List β) (h : ∀ x, p x = false → f x = []) : ∀ l : List α, (l.filter p).flatMap f = l.flatMap f
  | [] => rfl
  | x :: l => by
    rw [List.filter_cons, List.flatMap_cons]
    cases e : p x with
    | false => rw [h x e, ← flat_filter p f h l]; simp
    | true => simp [flat_filter p f h l]
theorem adr_none (u g : Nat) : adr u g 0 = [] := by simp [adr]
theorem hel_fl (u : Nat) (mk : Ms) : (fl mk).flatMap (fun g => adr u g (mk g)) = hel u mk := by
  refine flat_filter _ _ (fun g h => ?_) _
  simp at h
  rw [h, adr_none]
def adk (u g x k : Nat) : List Int := ((List.range k).filter fun i => x.testBit i).map fun i => ((256 * g + i * sz u : Nat) : Int)
theorem adk_zero (u g x : Nat) : adk u g x 0 = [] := rfl
theorem adk_on {u g x k : Nat} (h : x.testBit k = true) : adk u g x (k + 1) = adk u g x k ++ [((256 * g + k * sz u : Nat) : Int)] := by simp [adk, List.range_succ, h]
theorem adk_off {u g x k : Nat} (h : x.testBit k = false) : adk u g x (k + 1) = adk u g x k := by simp [adk, List.range_succ, h]
theorem adk_len (u g x k : Nat) : (adk u g x k).length ≤ k := by
  unfold adk
  rw [List.length_map]
  have := List.length_filter_le (fun i => x.testBit i) (List.range k)
  rwa [List.length_range] at this
def hlf (u : Nat) (mk : Ms) (fs : List Nat) (i : Nat) : List Int := (fs.take i).flatMap fun g => adr u g (mk g)
theorem hlf_next {u : Nat} {mk : Ms} {fs : List Nat} {i g : Nat} (h : fs[i]? = some g) : hlf u mk fs (i + 1) = hlf u mk fs i ++ adk u g (mk g) (pn u) := by
  unfold hlf
  rw [take_next h, List.flatMap_append]
  simp [adr, adk]
theorem hlf_len (u : Nat) (mk : Ms) (fs : List Nat) : ∀ i, (hlf u mk fs i).length ≤ 16 * i
  | 0 => by simp [hlf]
  | i + 1 => by
    have := hlf_len u mk fs i
    cases e : fs[i]? with
    | none =>
      unfold hlf at *
      rw [List.take_add_one, e]
      simp only [Option.toList_none, List.append_nil]
      omega
    | some g =>
      rw [hlf_next e, List.length_append]
      have := adk_len u g (mk g) (pn u)
      have := (pn_le u).2
      omega
end Go.Proofs.YtdempgjhjcjklaaGreat.P
namespace Go.Proofs.YtdempgjhjcjklaaGreat.P
open B Go.ChangeShapes Go.WideShapes Go.ChangeAt Go.RowKit
set_option linter.unusedVariables false
set_option maxRecDepth 8192

def rws (u : Nat) (rb : Nat → Nat) (fs : List Nat) : List Value := fs.map fun g => .slice (some ⟨rb g, 0, none⟩) (pn u) (pn u)
theorem rws_get {u : Nat} {rb : Nat → Nat} {fs : List Nat} {i g : Nat} (h : fs[i]? = some g) : (rws u rb fs)[i]? = some (.slice (some ⟨rb g, 0, none⟩) (pn u) (pn u)) := by simp [rws, h]
theorem rws_congr {u : Nat} {rb rb' : Nat → Nat} {fs : List Nat} (h : ∀ g ∈ fs, rb g = rb' g) : rws u rb fs = rws u rb' fs := List.map_congr_left (fun g hg => by rw [h g hg])
structure Sr (w : World) (s q u : Nat) (vf vl : Value) (rb : Nat → Nat) (fs : List Nat) (mk : Ms) : Prop where
  u4 : 4 ≤ u ∧ u ≤ 6
  lt : s < w.heap.size
  fz : ∀ i, w.frozen? ⟨s, i, none⟩ = false
  c0 : w.cell? ⟨s, 0, none⟩ = some (.pointer (some ⟨q, 0, none⟩))
  c1 : w.cell? ⟨s, 1, none⟩ = some (.int .u8 u)
  c2 : w.cell? ⟨s, 2, none⟩ = some vf
  c3 : w.cell? ⟨s, 3, none⟩ = some vl
  of : Own w vf (ints fs)
  ol : w.ownsRow 0 137 1 vl fs.length (rws u rb fs)
  bl : ∀ g ∈ fs, Blk w (rb g) 4 (bL u (mk g))
  asc : fs.Pairwise (· < ·)
  f4 : ∀ g ∈ fs, g < 4096
  ml : ∀ g, mk g < 2 ^ pn u
  z : ∀ g, g ∉ fs → mk g = 0
  n1 : vf.ownBlock ≠ some s
  n2 : vl.ownBlock ≠ some s
  n3 : ∀ x, vf.ownBlock = some x → vl.ownBlock ≠ some x
  n4 : ∀ g ∈ fs, rb g ≠ s ∧ vf.ownBlock ≠ some (rb g) ∧ vl.ownBlock ≠ some (rb g)
  n5 : ∀ g g', g ∈ fs → g' ∈ fs → rb g = rb g' → g = g'
def sft (s : Nat) (vf vl : Value) (rb : Nat → Nat) (fs : List Nat) : Nat → Prop := fun x => x = s ∨ vf.ownBlock = some x ∨ vl.ownBlock = some x ∨ ∃ g ∈ fs, rb g = x
theorem Sr.flt {w : World} {s q u : Nat} {vf vl : Value} {rb : Nat → Nat} {fs : List Nat} {mk : Ms} (h : Sr w s q u vf vl rb fs mk) : ∀ x, sft s vf vl rb fs x → x < w.heap.size := by
  rintro x (rfl | e | e | ⟨g, hg, rfl⟩)
  · exact h.lt
  · exact h.of.lt x e
  · exact rw_lt h.ol x e
  · exact (h.bl g hg).lt
theorem Sr.of_eq {w w' : World} {s q u : Nat} {vf vl : Value} {rb : Nat → Nat} {fs : List Nat} {mk : Ms} (h : Sr w s q u vf vl rb fs mk) (hs : w.heap.size ≤ w'.heap.size) (e : ∀ x, sft s vf vl rb fs x → w'.heap[x]? = w.heap[x]?) : Sr w' s q u vf vl rb fs mk := by
  have e1 := e s (Or.inl rfl)
  have c := fun i => World.cell?_of_block (w := w) (w' := w') (a := ⟨s, i, none⟩) e1
  exact { h with
    lt := Nat.lt_of_lt_of_le h.lt hs
    fz := fun i => (World.frozen?_of_block (w := w) (w' := w') (a := ⟨s, i, none⟩) e1).trans (h.fz i)
    c0 := (c 0).trans h.c0
    c1 := (c 1).trans h.c1
    c2 := (c 2).trans h.c2
    c3 := (c 3).trans h.c3
    of := h.of.of_eq (fun g hg => e g (Or.inr (Or.inl hg)))
    ol := rw_of_eq h.ol (fun g hg => e g (Or.inr (Or.inr (Or.inl hg))))
    bl := fun g hg => (h.bl g hg).of_eq (e _ (Or.inr (Or.inr (Or.inr ⟨g, hg, rfl⟩)))) }
theorem Sr.below {w w' : World} {s q u : Nat} {vf vl : Value} {rb : Nat → Nat} {fs : List Nat} {mk : Ms} (h : Sr w s q u vf vl rb fs mk) (k : Below w.heap.size w w') : Sr w' s q u vf vl rb fs mk := h.of_eq k.size (fun x hx => k.block x (h.flt x hx))
theorem Sr.len {w : World} {s q u : Nat} {vf vl : Value} {rb : Nat → Nat} {fs : List Nat} {mk : Ms} (h : Sr w s q u vf vl rb fs mk) : fs.length ≤ 4096 := asc_le h.asc h.f4
theorem Sr.vf {w : World} {s q u : Nat} {vf vl : Value} {rb : Nat → Nat} {fs : List Nat} {mk : Ms} (h : Sr w s q u vf vl rb fs mk) : ∃ a c, vf = .slice a fs.length c := by
  obtain ⟨a, c, e⟩ := h.of.len
  rw [ints_len] at e
  exact ⟨a, c, e⟩
theorem Sr.vl {w : World} {s q u : Nat} {vf vl : Value} {rb : Nat → Nat} {fs : List Nat} {mk : Ms} (h : Sr w s q u vf vl rb fs mk) : ∃ a c, vl = .slice a fs.length c := by
  rcases h.ol.2 with ⟨h1, h2⟩ | ⟨g, cap, cur, h1, _⟩
  · exact ⟨none, 0, by rw [h1, h2]⟩
  · exact ⟨_, _, h1⟩
theorem Sr.fat {w : World} {s q u : Nat} {a : Option Addr} {n c : Nat} {vl : Value} {rb : Nat → Nat} {fs : List Nat} {mk : Ms} (h : Sr w s q u (.slice a n c) vl rb fs mk) {i g : Nat} (hg : fs[i]? = some g) : ∃ b, a = some ⟨b, 0, none⟩ ∧ w.cell? ⟨b, i, none⟩ = some (.int .i64 g) := by
  obtain ⟨b, c', e, hc⟩ := h.of.cell (k := i) (t := (g : Int)) (by rw [ints_get, hg]; rfl)
  simp only [Value.slice.injEq] at e
  exact ⟨b, e.1, hc⟩
theorem Sr.lat {w : World} {s q u : Nat} {a : Option Addr} {n c : Nat} {vf : Value} {rb : Nat → Nat} {fs : List Nat} {mk : Ms} (h : Sr w s q u vf (.slice a n c) rb fs mk) {i g : Nat} (hg : fs[i]? = some g) : ∃ b, a = some ⟨b, 0, none⟩ ∧ w.cell? ⟨b, i, none⟩ = some (.slice (some ⟨rb g, 0, none⟩) (pn u) (pn u)) := by
  have hi := (List.getElem?_eq_some_iff.1 hg).1
  rcases h.ol.2 with ⟨h1, h2⟩ | ⟨b, cap, cur, h1, h2, h3, h4, h5, h6, h7⟩
  · omega
  · simp only [Value.slice.injEq] at h1
    refine ⟨b, h1.1, ?_⟩
    rw [cell_of_row w b i _ _ (0, 0) h3]
    have := rws_get (u := u) (rb := rb) hg
    simp only [Nat.mul_one] at h7
    rw [← h7, List.getElem?_take_of_lt hi] at this
    simpa using this
theorem Sr.bit {w : World} {s q u : Nat} {vf vl : Value} {rb : Nat → Nat} {fs : List Nat} {mk : Ms} (h : Sr w s q u vf vl rb fs mk) {g k : Nat} (hg : g ∈ fs) (hk : k < pn u) : w.cell? ⟨rb g, k, none⟩ = some (.bool ((mk g).testBit k)) := by rw [(h.bl g hg).cell, bL_get hk]
theorem Sr.turn {w : World} {s q u : Nat} {vf vl : Value} {rb : Nat → Nat} {fs : List Nat} {mk : Ms} (h : Sr w s q u vf vl rb fs mk) {g k : Nat} (hg : g ∈ fs) (b : Bool) {y : Nat} (hy : (bL u (mk g)).set k (.bool b) = bL u y) (hy2 : y < 2 ^ pn u) :
    Sr (w.setCell ⟨rb g, k, none⟩ (.bool b)) s q u vf vl rb fs (put mk g y) ∧ Kp (sft s vf vl rb fs) (sft s vf vl rb fs) w (w.setCell ⟨rb g, k, none⟩ (.bool b)) := by
  have G := grown_setCell' w (rb g) k (.bool b)
  have n4 := h.n4 g hg
  have ne : ∀ x, x ≠ rb g → x < w.heap.size → (w.setCell ⟨rb g, k, none⟩ (.bool b)).heap[x]? = w.heap[x]? := fun x hx hl => G.block x hl (some_ne hx)
  have e1 := ne s (fun z => n4.1 z.symm) h.lt
  have c := fun i => World.cell?_of_block (w := w) (w' := w.setCell ⟨rb g, k, none⟩ (.bool b)) (a := ⟨s, i, none⟩) e1
  refine ⟨{ h with
    lt := Nat.lt_of_lt_of_le h.lt G.size
    fz := fun i => (World.frozen?_of_block (w := w) (a := ⟨s, i, none⟩) e1).trans (h.fz i)
    c0 := (c 0).trans h.c0
    c1 := (c 1).trans h.c1
    c2 := (c 2).trans h.c2
    c3 := (c 3).trans h.c3
    of := h.of.of_eq (fun x hx => ne x (fun z => n4.2.1 (z ▸ hx)) (h.of.lt x hx))
    ol := rw_of_eq h.ol (fun x hx => ne x (fun z => n4.2.2 (z ▸ hx)) (rw_lt h.ol x hx))
    bl := fun g' hg' => ?_
    ml := fun g' => ?_
    z := fun g' hg' => ?_ }, Kp.of_grown G (fun x hx => by cases hx; exact Or.inr (Or.inr (Or.inr ⟨g, hg, rfl⟩))) (fun x hx => Or.inl hx)⟩
  · by_cases e : g' = g
    · subst e
      rw [put_same, ← hy]
      exact (h.bl g' hg').set k _
    · rw [put_other _ _ _ _ e]
      exact (h.bl g' hg').of_eq (ne _ (fun z => e (h.n5 g' g hg' hg z)) (h.bl g' hg').lt)
  · by_cases e : g' = g
    · subst e; rw [put_same]; exact hy2
    · rw [put_other _ _ _ _ e]; exact h.ml g'
  · have e : g' ≠ g := fun z => hg' (z ▸ hg)
    rw [put_other _ _ _ _ e]
    exact h.z g' hg'
end Go.Proofs.YtdempgjhjcjklaaGreat.P
namespace Go.Proofs.YtdempgjhjcjklaaGreat.P
open B Go.ChangeShapes Go.WideShapes Go.ChangeAt Go.RowKit
set_option linter.unusedVariables false
set_option maxRecDepth 8192

theorem Tryz.infoBs : (Tryz.prog.info? 137).map (fun i => (i.zero, i.size, i.bytes)) = some (some (.slice none 0 0), 1, 24) := by kernel_rfl
theorem Tryz.infoB1 : (Tryz.prog.info? 4).map (fun i => (i.zero, i.size, i.bytes)) = some (some (.bool false), 1, 1) := by kernel_rfl
theorem make_bools {u : Nat} (hu : 4 ≤ u ∧ u ≤ 6) (w : World) : (Instr.makeSlice 137 (.int .i64 (pn u : Nat)) (.int .i64 (pn u : Nat))).run Tryz.prog w = .ok (.slice (some ⟨w.heap.size, 0, none⟩) (pn u) (pn u)) (w.alloc (.cells (bL u 0).toArray 4)) := by
  obtain ⟨i0, hi, hz0, hz1, hz2⟩ := info_parts Tryz.infoB1
  have hp := pn_le u
  rw [bL_zero]
  generalize pn u = n at *
  have h := run_makeSlice (P := Tryz.prog) w 137 4 i0 (.bool false) Tryz.underlying137 hi hz0 .i64 .i64 n n (by omega) (by omega) (by rw [hz1]; simp; omega) (by rw [hz2]; omega) (by omega)
  rw [h]
  have e : madeCells (Value.bool false).cells ((n : Int).toNat * i0.size) = (List.replicate n (.bool false)).toArray := by
    apply Array.toList_inj.1
    rw [hz1, Int.toNat_natCast]
    show (madeCells #[.bool false] (n * 1)).toList = _
    rw [toList_madeCells_one, Nat.mul_one]
  rw [e, Int.toNat_natCast]
structure Lo (w wr : World) (u : Nat) (A B : List Nat) (rb : Nat → Nat) (vF vL : Value) (nb : Option Nat) : Prop where
  be : Below w.heap.size w wr
  f : Is wr w.heap.size vF (ints A)
  l : wr.ownsRow w.heap.size 137 1 vL B.length (rws u rb B)
  d : ∀ x, vF.ownBlock = some x → vL.ownBlock ≠ some x
  n : ∀ x, nb = some x → Blk wr x 4 (bL u 0) ∧ w.heap.size ≤ x ∧ vF.ownBlock ≠ some x ∧ vL.ownBlock ≠ some x
theorem row_lt0 {w : World} {base ty n : Nat} {v : Value} {xs : List Value} (h : w.ownsRow base ty 1 v n xs) : ∀ g, v.ownBlock = some g → base ≤ g ∧ g < w.heap.size := by
  intro g hg
  rcases h.2 with ⟨rfl, _⟩ | ⟨g', cap, cur, rfl, h2, h3, _⟩
  · cases hg
  · cases hg
    exact ⟨h2, (Array.getElem?_eq_some_iff.1 h3).1⟩
theorem row_of_eq0 {w w' : World} {base ty n : Nat} {v : Value} {xs : List Value} (h : w.ownsRow base ty 1 v n xs) (e : ∀ g, v.ownBlock = some g → w'.heap[g]? = w.heap[g]?) : w'.ownsRow base ty 1 v n xs := by
  refine ⟨h.1, ?_⟩
  rcases h.2 with h1 | ⟨g, cap, cur, h1, h2, h3, h4⟩
  · exact Or.inl h1
  · subst h1
    exact Or.inr ⟨g, cap, cur, rfl, h2, (e g rfl).trans h3, h4⟩
theorem own_less {w : World} {base ty n : Nat} {v : Value} {xs : List Value} (h : w.ownsRow base ty 1 v n xs) : w.ownsRow 0 ty 1 v n xs := by
  refine ⟨h.1, ?_⟩
  rcases h.2 with h1 | ⟨g, cap, cur, h1, h2, h3⟩
  · exact Or.inl h1
  · exact Or.inr ⟨g, cap, cur, h1, Nat.zero_le _, h3⟩
theorem row_len {w : World} {base ty n : Nat} {v : Value} {xs : List Value} (h : w.ownsRow base ty 1 v n xs) : ∃ a c, v = .slice a n c := by
  rcases h.2 with ⟨h1, h2⟩ | ⟨g, cap, cur, h1, _⟩
  · exact ⟨none, 0, by rw [h1, h2]⟩
  · exact ⟨_, _, h1⟩
theorem lo_start (w : World) (u : Nat) (rb : Nat → Nat) : Lo w w u [] [] rb (.slice none 0 0) (.slice none 0 0) none :=
  ⟨Below.refl _ _, Is.nil _ _, World.ownsRow_nil _ _ _ _, (fun x h => by cases h), (fun x h => by cases h)⟩
theorem Lo.below {w wr w' : World} {u : Nat} {A B : List Nat} {rb : Nat → Nat} {vF vL : Value} {nb : Option Nat} (h : Lo w wr u A B rb vF vL nb) (k : Below wr.heap.size wr w') : Lo w w' u A B rb vF vL nb :=
  ⟨h.be.trans (k.mono h.be.size), h.f.below k, row_of_eq0 h.l (fun g hg => k.block g (row_lt0 h.l g hg).2), h.d, fun x hx => ⟨(h.n x hx).1.of_eq (k.block x (h.n x hx).1.lt), (h.n x hx).2⟩⟩
theorem Lo.fapp {w wr w' : World} {u : Nat} {A B : List Nat} {rb : Nat → Nat} {vF vL : Value} {nb : Option Nat} (h : Lo w wr u A B rb vF vL nb) {g n c x : Nat} (gr : wr.grownBy w' vF.ownBlock) (hi : Is w' w.heap.size (.slice (some ⟨g, 0, none⟩) n c) (ints (A ++ [x]))) (hv : vF.ownBlock = some g ∨ wr.heap.size ≤ g) : Lo w w' u (A ++ [x]) B rb (.slice (some ⟨g, 0, none⟩) n c) vL nb := by
  have key : ∀ y, y < wr.heap.size → vF.ownBlock ≠ some y → (Value.slice (some ⟨g, 0, none⟩) n c).ownBlock ≠ some y := fun y hy hn e => by
    obtain rfl : g = y := by simpa [Value.ownBlock] using e
    rcases hv with q | q
    · exact hn q
    · omega
  refine ⟨h.be.trans (below_of gr _ h.be.size (fun k hk => (h.f.lt k hk).1)), hi, row_of_eq0 h.l (fun y hy => gr.block y (row_lt0 h.l y hy).2 (fun e => h.d y e.symm hy)), fun y hy e => ?_, fun y hy => ?_⟩
  · exact key y (row_lt0 h.l y e).2 (fun z => h.d y z e) hy
  · obtain ⟨n1, n2, n3, n4⟩ := h.n y hy
    exact ⟨n1.of_eq (gr.block y n1.lt (fun e => n3 e.symm)), n2, key y n1.lt n3, n4⟩
theorem Lo.lapp {w wr w' : World} {u : Nat} {A B : List Nat} {rb : Nat → Nat} {vF vL : Value} {nb : Option Nat} (h : Lo w wr u A B rb vF vL nb) {g n c x : Nat} (gr : wr.grownBy w' vL.ownBlock) (hi : w'.ownsRow w.heap.size 137 1 (.slice (some ⟨g, 0, none⟩) n c) (B.length + 1) (rws u rb B ++ [.slice (some ⟨rb x, 0, none⟩) (pn u) (pn u)])) (hv : vL.ownBlock = some g ∨ wr.heap.size ≤ g) : Lo w w' u A (B ++ [x]) rb vF (.slice (some ⟨g, 0, none⟩) n c) nb := by
  have key : ∀ y, y < wr.heap.size → vL.ownBlock ≠ some y → (Value.slice (some ⟨g, 0, none⟩) n c).ownBlock ≠ some y := fun y hy hn e => by
    obtain rfl : g = y := by simpa [Value.ownBlock] using e
    rcases hv with q | q
    · exact hn q
    · omega
  refine ⟨h.be.trans (below_of gr _ h.be.size (fun k hk => (row_lt0 h.l k hk).1)), h.f.of_eq (fun y hy => gr.block y (h.f.lt y hy).2 (fun e => h.d y hy e.symm)), ?_, fun y hy e => ?_, fun y hy => ?_⟩
  · rw [List.length_append, List.length_singleton, show rws u rb (B ++ [x]) = rws u rb B ++ [.slice (some ⟨rb x, 0, none⟩) (pn u) (pn u)] by simp [rws]]
    exact hi
  · exact key y (h.f.lt y hy).2 (h.d y hy) e
  · obtain ⟨n1, n2, n3, n4⟩ := h.n y hy
    exact ⟨n1.of_eq (gr.block y n1.lt (fun e => n4 e.symm)), n2, n3, key y n1.lt n4⟩
theorem Lo.make {w wr : World} {u : Nat} {A B : List Nat} {rb : Nat → Nat} {vF vL : Value} (h : Lo w wr u A B rb vF vL none) {f : Nat} (hf : f ∉ B) : Lo w (wr.alloc (.cells (bL u 0).toArray 4)) u A B (put rb f wr.heap.size) vF vL (some wr.heap.size) := by
  have h' := h.below ((Below.refl _ wr).alloc (Nat.le_refl _) (.cells (bL u 0).toArray 4))
  refine ⟨h'.be, h'.f, ?_, h.d, fun x hx => ?_⟩
  · rw [rws_congr (fun g hg => put_other rb f g _ (fun e => hf (e ▸ hg)))]
    exact h'.l
  · cases hx
    refine ⟨blk_new _ _ _, h.be.size, fun e => ?_, fun e => ?_⟩
    · have := (h.f.lt _ e).2; omega
    · have := (row_lt0 h.l _ e).2; omega
end Go.Proofs.YtdempgjhjcjklaaGreat.P
namespace Go.Proofs.YtdempgjhjcjklaaGreat.P
open B Go.ChangeShapes Go.WideShapes Go.ChangeAt Go.RowKit
set_option linter.unusedVariables false
set_option maxRecDepth 8192

theorem rSize_ok {u : Nat} (hu : 4 ≤ u ∧ u ≤ 6) (w : World) : Calls Tryz.prog 64 #[.int .u8 u] w fun e w' => e = .returned (.int .i64 (sz u : Nat)) ∧ w' = w := by
  rcases use3 hu with rfl | rfl | rfl
  all_goals
    go_enter Tryz.func64, Tryz.ntmps64
    go_wp2
    go_ret
    exact ⟨rfl, rfl⟩
theorem rsthere_s {w : World} {s q u : Nat} {vf vl : Value} {rb : Nat → Nat} {fs : List Nat} {mk : Ms} (h : Sr w s q u vf vl rb fs mk) : Calls Tryz.prog 69 #[.pointer (some ⟨s, 0, none⟩)] w fun e w' => e = .returned (.bool true) ∧ w' = w := by
  have hc := h.c0
  clear h
  go_enter Tryz.func69, Tryz.ntmps69
  go_wp2
  go_ret
  exact ⟨rfl, rfl⟩
theorem raddress_s {w : World} {s q u : Nat} {vf vl : Value} {rb : Nat → Nat} {fs : List Nat} {mk : Ms} (h : Sr w s q u vf vl rb fs mk) (g i : Nat) (hg : g < 4096) (hi : i < pn u) : Calls Tryz.prog 72 #[.pointer (some ⟨s, 0, none⟩), .int .i64 g, .int .i64 i] w fun e w' => e = .returned (.int .u64 ((256 * g + i * sz u : Nat) : Int)) ∧ w' = w := by
  have hc := h.c1
  have hs := sz_le u
  have hp := pn_sz u
  have hpn := pn_le u
  have hlt : i * sz u < 256 := by
    have := Nat.mul_lt_mul_of_pos_right hi (show 0 < sz u by omega)
    omega
  have CS : Hid (Calls _ _ _ _ _) := rSize_ok h.u4 w
  have hm : IntKind.i64.wrap ((i : Int) * (sz u : Int)) = ((i * sz u : Nat) : Int) := by
    rw [show ((i : Int) * (sz u : Int)) = ((i * sz u : Nat) : Int) by simp]
    exact IntWalk.i64_in _ (by omega)
  have hm2 : (i : Int) * (sz u : Int) = ((i * sz u : Nat) : Int) := by simp
  clear h
  generalize i * sz u = y at *
  generalize sz u = x at *
  go_enter Tryz.func72, Tryz.ntmps72
  go_wp2_with fail
  refine CS.out.mono ?_
  rintro e w1 ⟨rfl, hw⟩
  obtain rfl := hw.symm
  go_wp2
  go_ret
  exact ⟨by simp, rfl⟩
theorem rfree_s {w : World} {s q u : Nat} {vf vl : Value} {rb : Nat → Nat} {fs : List Nat} {mk : Ms} (h : Sr w s q u vf vl rb fs mk) : Calls Tryz.prog 70 #[.pointer (some ⟨s, 0, none⟩)] w fun e w' => w' = w ∧ ((∃ i g k : Nat, e = .returned (.tuple #[.int .i64 i, .int .i64 k]) ∧ Fre u fs mk i g k) ∨ (e = .returned (.tuple #[.int .i64 (-1), .int .i64 (-1)]) ∧ ∀ g ∈ fs, ful u (mk g))) := by
  obtain ⟨fa, fc, rfl⟩ := h.vf
  obtain ⟨la, lc, rfl⟩ := h.vl
  have c2 := h.c2
  have c3 := h.c3
  have HS : Hid (Sr w s q u (.slice fa fs.length fc) (.slice la fs.length lc) rb fs mk) := h
  have hlen := h.len
  have hpn := pn_le u
  obtain ⟨n, hn⟩ : ∃ n, fs.length = n := ⟨_, rfl⟩
  have HN : Hid (fs.length = n) := hn
  rw [hn] at c2 c3 hlen
  obtain ⟨m, hm⟩ : ∃ m, pn u = m := ⟨_, rfl⟩
  have HM : Hid (pn u = m) := hm
  rw [hm] at hpn
  clear h hn hm
  go_enter Tryz.func70, Tryz.ntmps70
  go_wp2
  go_loop [4] (fun z => ∃ i : Nat, z = .int .i64 i ∧ i ≤ n ∧ ∀ j g, j < i → fs[j]? = some g → ful u (mk g)) (fun z => n - (B.iv z).toNat)
  case atStart => exact ⟨0, rfl, by omega, fun j g hj => by omega⟩
  case round =>
    obtain ⟨i, rfl, hi, hf⟩ := hrel
    have HF : Hid (∀ j g, j < i → fs[j]? = some g → ful u (mk g)) := hf
    clear hf
    by_cases hlt : i < n
    · have hltI : (i : Int) < (n : Int) := by omega
      obtain ⟨g, hg⟩ : ∃ g, fs[i]? = some g := ⟨_, List.getElem?_eq_getElem (by rw [HN.out]; exact hlt)⟩
      have HG : Hid (fs[i]? = some g) := hg
      obtain ⟨lb, rfl, hcl⟩ := HS.out.lat hg
      rw [HM.out] at hcl
      clear hg
      go_wp2
      go_loop [5] (fun z => ∃ k : Nat, z = .int .i64 k ∧ k ≤ m ∧ ∀ j, j < k → (mk g).testBit j = true) (fun z => m - (B.iv z).toNat)
      case atStart => exact ⟨0, rfl, by omega, fun j hj => by omega⟩
      case round =>
        obtain ⟨k, rfl, hk, hf⟩ := hrel
        have HK : Hid (∀ j, j < k → (mk g).testBit j = true) := hf
        clear hf
        by_cases hkm : k < m
        · have hkI : (k : Int) < (m : Int) := by omega
          have hb := HS.out.bit (List.mem_of_getElem? HG.out) (k := k) (by rw [HM.out]; exact hkm)
          cases hbit : (mk g).testBit k with
          | false =>
            rw [hbit] at hb
            have HE : Hid ((mk g).testBit k = false) := hbit
            clear hbit
            go_wp2
            go_ret2
            exact ⟨rfl, Or.inl ⟨i, g, k, rfl, HG.out, ⟨by rw [HM.out]; exact hkm, HE.out, HK.out⟩, HF.out⟩⟩
          | true =>
            rw [hbit] at hb
            have HE : Hid ((mk g).testBit k = true) := hbit
            clear hbit
            go_wp2
            go_round
            case rel => exact ⟨k + 1, by go_num, by omega, fun j hj => by
              by_cases e : j = k
              · rw [e]; exact HE.out
              · exact HK.out j (by omega)⟩
            case measure => simp [B.iv]; omega
        · obtain rfl : k = m := by omega
          go_wp2
          go_round
          case rel => exact ⟨i + 1, by go_num, by omega, fun j g' hj hg' => by
            by_cases e : j = i
            · rw [e, HG.out] at hg'
              injection hg' with hg'
              subst hg'
              intro t ht
              exact HK.out t (by rw [← HM.out]; exact ht)
            · exact HF.out j g' (by omega) hg'⟩
          case measure => simp [B.iv]; omega
    · obtain rfl : i = n := by omega
      go_wp2
      go_ret2
      refine ⟨rfl, Or.inr ⟨rfl, fun g hg => ?_⟩⟩
      obtain ⟨j, hj⟩ := List.mem_iff_getElem?.1 hg
      exact HF.out j g (by have := (List.getElem?_eq_some_iff.1 hj).1; have := HN.out; omega) hj
end Go.Proofs.YtdempgjhjcjklaaGreat.P
