/- How many objects there are against how many frames: what a full slab holds; what Take and Give make of the list of objects; no condition but those that each theorem names. -/
import Derived.Test.YtdempgjhjcjklaaGreatVSg
import Derived.Test.YtdempgjhjcjklaaGreatVSa
import Derived.Test.YtdempgjhjcjklaaGreatVOa
namespace Go.Proofs.YtdempgjhjcjklaaGreat.P
open B Go.ChangeShapes Go.WideShapes Go.ChangeAt Go.RowKit
set_option linter.unusedVariables false

def nf (mk : Ms) : Nat → Nat
  | 0 => 0
  | n + 1 => nf mk n + if mk n = 0 then 0 else 1
def hl (u : Nat) (mk : Ms) (n : Nat) : List Int := (List.range n).flatMap fun g => adr u g (mk g)
theorem hl_succ (u : Nat) (mk : Ms) (n : Nat) : hl u mk (n + 1) = hl u mk n ++ adr u n (mk n) := by
  unfold hl
  rw [List.range_succ, List.flatMap_append]
  simp
theorem adr_zero (u g : Nat) : adr u g 0 = [] := by simp [adr]
theorem adr_le (u g x : Nat) : (adr u g x).length ≤ pn u := by
  unfold adr
  rw [List.length_map]
  have := List.length_filter_le (fun i => x.testBit i) (List.range (pn u))
  rwa [List.length_range] at this
theorem adr_full {u g x : Nat} (h : x = 2 ^ pn u - 1) : (adr u g x).length = pn u := by
  unfold adr
  rw [List.length_map, List.filter_eq_self.2, List.length_range]
  intro i hi
  rw [h, Nat.testBit_two_pow_sub_one]
  simpa using hi
theorem adr_pos {u g x : Nat} (hx : x < 2 ^ pn u) (h0 : x ≠ 0) : 0 < (adr u g x).length := by
  by_cases q : ∃ i, i < pn u ∧ x.testBit i = true
  · obtain ⟨i, h1, h2⟩ := q
    exact List.length_pos_of_mem (mem_adr.2 ⟨i, h1, h2, rfl⟩)
  · exfalso
    apply h0
    apply Nat.eq_of_testBit_eq
    intro i
    rw [Nat.zero_testBit]
    by_cases hi : i < pn u
    · cases z : x.testBit i
      · rfl
      · exact absurd ⟨i, hi, z⟩ q
    · exact Nat.testBit_lt_two_pow (Nat.lt_of_lt_of_le hx (Nat.pow_le_pow_right (by omega) (by omega)))
theorem hl_le (u : Nat) (mk : Ms) : ∀ n, (hl u mk n).length ≤ pn u * nf mk n
  | 0 => by simp [hl, nf]
  | n + 1 => by
    have := hl_le u mk n
    rw [hl_succ, List.length_append, nf]
    by_cases e : mk n = 0
    · rw [if_pos e, e, adr_zero]
      simpa using this
    · rw [if_neg e, Nat.mul_add, Nat.mul_one]
      have := adr_le u n (mk n)
      omega
theorem hl_full {u : Nat} {mk : Ms} (h : ∀ g, ¬ rmy u mk g) : ∀ n, (hl u mk n).length = pn u * nf mk n
  | 0 => by simp [hl, nf]
  | n + 1 => by
    have := hl_full h n
    rw [hl_succ, List.length_append, nf, this]
    by_cases e : mk n = 0
    · rw [if_pos e, e, adr_zero]
      simp
    · rw [if_neg e, Nat.mul_add, Nat.mul_one, adr_full]
      by_cases q : mk n = 2 ^ pn u - 1
      · exact q
      · exact absurd ⟨e, q⟩ (h n)
theorem hl_room {u : Nat} {mk : Ms} (hm : ∀ g, mk g < 2 ^ pn u) {g : Nat} (h : rmy u mk g) : ∀ n, g < n → (hl u mk n).length < pn u * nf mk n
  | 0, hg => by omega
  | n + 1, hg => by
    rw [hl_succ, List.length_append, nf]
    by_cases e : g = n
    · subst e
      have h1 := hl_le u mk g
      rw [if_neg h.1, Nat.mul_add, Nat.mul_one]
      have h2 : (adr u g (mk g)).length < pn u := by
        obtain ⟨i, hi1, hi2⟩ := lp_some (hm g) h.2
        unfold adr
        rw [List.length_map]
        have := List.length_filter_lt_length_iff_exists (p := fun i => (mk g).testBit i) (l := List.range (pn u))
        rw [List.length_range] at this
        exact this.2 ⟨i, List.mem_range.2 hi1, by simp [hi2]⟩
      omega
    · have h1 := hl_room hm h n (by omega)
      by_cases q : mk n = 0
      · rw [if_pos q, q, adr_zero]
        simpa using h1
      · rw [if_neg q, Nat.mul_add, Nat.mul_one]
        have := adr_le u n (mk n)
        omega
def Lb (u : Nat) (us0 us : Us) (mk : Ms) : Prop := ∀ g, us g = if mk g ≠ 0 then some u else us0 g
theorem nf_cU {u : Nat} {us0 us : Us} {mk : Ms} (h : Lb u us0 us mk) (h0 : ∀ g, us0 g ≠ some u) : ∀ n, cU us u n = nf mk n
  | 0 => rfl
  | n + 1 => by
    rw [cU, nf, nf_cU h h0 n]
    by_cases e : mk n = 0
    · have hne : us n ≠ some u := by
        rw [h n, if_neg (fun z => z e)]
        exact h0 n
      rw [if_neg hne, if_pos e]
    · have he : us n = some u := by rw [h n, if_pos e]
      rw [if_pos he, if_neg e]
theorem TkS.lb {P : Par} {u : Nat} {us0 us : Us} {mk : Ms} {a e : Nat} {us' : Us} {mk' : Ms} (h : TkS P u us mk a e us' mk') (hl : Lb u us0 us mk) : Lb u us0 us' mk' := by
  rcases h with ⟨g, i, h1, h2, rfl, rfl, rfl, rfl⟩ | ⟨h0, g, h1, h2⟩
  · intro z
    by_cases q : z = g
    · subst q
      rw [hl z, put_same, if_pos h1.1.1, if_pos or_ne]
    · rw [put_other _ _ _ _ q]
      exact hl z
  · rcases h1 with ⟨rfl, ⟨x, t1, t2, rfl⟩, t3⟩ | ⟨rfl, t1, rfl, t3⟩
    · rcases h2 with ⟨_, _, rfl⟩ | ⟨q, _⟩
      · intro z
        unfold pt
        by_cases q : z = g
        · rw [if_pos q, q, put_same, if_pos (by omega)]
        · rw [if_neg q, put_other _ _ _ _ q]
          exact hl z
      · exact absurd rfl q
    · rcases h2 with ⟨q, _⟩ | ⟨_, _, rfl⟩
      · cases q
      · exact hl
theorem GvS.lb {u : Nat} {us0 us : Us} {mk : Ms} {a e : Nat} {us' : Us} {mk' : Ms} (h : GvS u us mk a e us' mk') (hl : Lb u us0 us mk) (hn : ∀ g, mk g ≠ 0 → us0 g = none) : Lb u us0 us' mk' := by
  rcases h with ⟨g, i, h1, rfl, rfl, rfl⟩ | ⟨h0, rfl, rfl, rfl⟩
  · have hg : mk g ≠ 0 := fun q => by have := h1.2.2; rw [q] at this; simp at this
    intro z
    by_cases q : z = g
    · subst q
      rw [put_same]
      by_cases e : clr (mk z) i = 0
      · rw [if_pos e, if_neg (by simp [e])]
        simp [pt, hn z hg]
      · rw [if_neg e, if_pos e, hl z, if_pos hg]
    · rw [put_other _ _ _ _ q]
      split
      · unfold pt
        rw [if_neg q]
        exact hl z
      · exact hl z
  · exact hl
theorem hel_take {P : Par} {u : Nat} {us : Us} {mk : Ms} {a : Nat} {us' : Us} {mk' : Ms} (hfr : ∀ g, mk g ≠ 0 → g < 4096) (hP : P.Ok) (hlk : Lk u us mk) (h : TkS P u us mk a 0 us' mk') : ((a : Int)) ∉ hel u mk ∧ ∀ x, x ∈ hel u mk' ↔ x = a ∨ x ∈ hel u mk := by
  have hpn := pn_le u
  have key : ∀ g i, g < 4096 → LP u (mk g) i → ((256 * g + i * sz u : Nat) : Int) ∉ hel u mk ∧ ∀ x, x ∈ hel u (put mk g (mk g ||| 2 ^ i)) ↔ x = ((256 * g + i * sz u : Nat) : Int) ∨ x ∈ hel u mk := fun g i hg hi => by
    refine ⟨fun z => ?_, fun x => ?_⟩
    · obtain ⟨g', i', z1, z2, z3, z4⟩ := mem_hel.1 z
      obtain ⟨rfl, rfl⟩ := addr_inj (u := u) (g := g) (g' := g') hi.1 z2 (by omega)
      rw [hi.2.1] at z3
      cases z3
    · rw [mem_hel, mem_hel]
      constructor
      · rintro ⟨g', i', z1, z2, z3, z4⟩
        by_cases q : g' = g
        · subst q
          rw [put_same, Nat.testBit_or, Nat.testBit_two_pow] at z3
          by_cases q2 : i = i'
          · subst q2; exact Or.inl z4
          · simp [q2] at z3
            exact Or.inr ⟨g', i', z1, z2, z3, z4⟩
        · rw [put_other _ _ _ _ q] at z3
          exact Or.inr ⟨g', i', z1, z2, z3, z4⟩
      · rintro (z | ⟨g', i', z1, z2, z3, z4⟩)
        · exact ⟨g, i, hg, hi.1, by rw [put_same, Nat.testBit_or, Nat.testBit_two_pow]; simp, z⟩
        · refine ⟨g', i', z1, z2, ?_, z4⟩
          by_cases q : g' = g
          · subst q
            rw [put_same, Nat.testBit_or, z3]
            rfl
          · rw [put_other _ _ _ _ q]
            exact z3
  rcases h with ⟨g, i, h1, h2, rfl, _, rfl, rfl⟩ | ⟨h0, g, h1, h2⟩
  · exact key g i (hfr g h1.1.1) h2
  · rcases h1 with ⟨_, ⟨x0, t1, t2, rfl⟩, t3⟩ | ⟨q, _⟩
    · rcases h2 with ⟨_, rfl, rfl⟩ | ⟨q, _⟩
      · have hgn : us g = none := by rw [t2]; exact (opn_iff.1 t1.open).2
        have hg4 : g < 4096 := by rw [t2]; exact fm_lt hP (best_lt hP us) (opn_iff.1 t1.open).1
        have hmg : mk g = 0 := by
          by_cases q : mk g = 0
          · exact q
          · have := hlk g q
            rw [hgn] at this
            cases this
        have := key g 0 hg4 ⟨by omega, by rw [hmg]; simp, fun j hj => by omega⟩
        rw [hmg] at this
        simpa using this
      · exact absurd rfl q
    · cases q
theorem hel_give {u : Nat} {us : Us} {mk : Ms} {a : Nat} {us' : Us} {mk' : Ms} (hml : ∀ g, mk g < 2 ^ pn u) (h : GvS u us mk a 0 us' mk') : ∀ x, x ∈ hel u mk' ↔ x ≠ a ∧ x ∈ hel u mk := by
  rcases h with ⟨g, i, h1, _, rfl, rfl⟩ | ⟨h0, q, _⟩
  · have hi16 : i < 16 := Nat.lt_of_lt_of_le h1.1 (pn_le u).2
    have hx : mk g < 65536 := Nat.lt_of_lt_of_le (hml g) (two_pn u)
    intro x
    rw [mem_hel, mem_hel]
    constructor
    · rintro ⟨g', i', z1, z2, z3, z4⟩
      by_cases q : g' = g
      · subst q
        rw [put_same, clr_bit hi16 hx] at z3
        simp only [Bool.and_eq_true, decide_eq_true_eq] at z3
        refine ⟨fun e => z3.2 ?_, g', i', z1, z2, z3.1, z4⟩
        have := h1.2.1
        exact (addr_inj (u := u) (g := g') (g' := g') z2 h1.1 (by omega)).2
      · rw [put_other _ _ _ _ q] at z3
        refine ⟨fun e => q ?_, g', i', z1, z2, z3, z4⟩
        have := h1.2.1
        exact (addr_inj (u := u) (g := g') (g' := g) z2 h1.1 (by omega)).1
    · rintro ⟨hne, g', i', z1, z2, z3, z4⟩
      refine ⟨g', i', z1, z2, ?_, z4⟩
      by_cases q : g' = g
      · subst q
        rw [put_same, clr_bit hi16 hx, z3]
        have : i' ≠ i := fun e => hne (by rw [z4, h1.2.1, e])
        simp [this]
      · rw [put_other _ _ _ _ q]
        exact z3
  · cases q
end Go.Proofs.YtdempgjhjcjklaaGreat.P
namespace Go.Proofs.YtdempgjhjcjklaaGreat.P
open B Go.ChangeShapes Go.WideShapes Go.ChangeAt Go.RowKit
set_option linter.unusedVariables false
set_option maxRecDepth 8192

theorem below_bx (w : World) (o : Obj) : Below w.heap.size w (w.alloc o) := (Below.refl _ w).alloc (Nat.le_refl _) _
theorem sizes_ok {u : Nat} (hu : 4 ≤ u ∧ u ≤ 6) (w : World) : Calls Tryz.prog 16 #[.int .u8 u] w (One (.int .u64 (sz u : Nat)) w) := by
  rcases use3 hu with rfl | rfl | rfl
  all_goals
    go_enter Tryz.func16, Tryz.ntmps16
    go_wp2
    go_ret
    exact ⟨rfl, below_bx _ _⟩
structure Th (w : World) (t : Nat) (f : Nat → Bool) : Prop where
  lt : t < w.heap.size
  c : ∀ g, g < 4096 → w.cell? ⟨t, g, none⟩ = some (.bool (f g))
  z : ∀ g, w.frozen? ⟨t, g, none⟩ = false
theorem zc : Tryz.zeroCells112 = Array.replicate 4096 (Value.bool false) := by kernel_rfl
theorem th_new (w : World) (ty : Nat) : Th (w.alloc (.cells Tryz.zeroCells112 ty)) w.heap.size (fun _ => false) := by
  have hb : (w.alloc (.cells Tryz.zeroCells112 ty)).heap[w.heap.size]? = some (.cells Tryz.zeroCells112 ty (0, 0)) := heap_alloc_last w _
  refine ⟨(Array.getElem?_eq_some_iff.1 hb).1, fun g hg => ?_, fun g => ?_⟩
  · rw [cell_of_row _ _ g _ ty (0, 0) hb, zc]
    simp [hg]
  · generalize w.alloc (.cells Tryz.zeroCells112 ty) = W at hb
    simp [World.frozen?, hb]
theorem Th.of_eq {w w' : World} {t : Nat} {f : Nat → Bool} (h : Th w t f) (hs : w.heap.size ≤ w'.heap.size) (e : w'.heap[t]? = w.heap[t]?) : Th w' t f :=
  ⟨Nat.lt_of_lt_of_le h.lt hs, fun g hg => (World.cell?_of_block (w := w) (w' := w') (a := ⟨t, g, none⟩) e).trans (h.c g hg), fun g => (World.frozen?_of_block (w := w) (w' := w') (a := ⟨t, g, none⟩) e).trans (h.z g)⟩
theorem Th.below {w w' : World} {t : Nat} {f : Nat → Bool} (h : Th w t f) (k : Below w.heap.size w w') : Th w' t f := h.of_eq k.size (k.block t h.lt)
theorem Th.set {w : World} {t : Nat} {f : Nat → Bool} (h : Th w t f) {g : Nat} (hg : g < 4096) : Th (w.setCell ⟨t, g, none⟩ (.bool true)) t (fun x => if x = g then true else f x) := by
  refine ⟨by simpa [World.setCell] using h.lt, fun x hx => ?_, fun x => by rw [World.frozen?_setCell]; exact h.z x⟩
  by_cases e : x = g
  · subst e
    rw [World.cell?_setCell_same _ _ _ (h.c x hx), if_pos rfl]
  · rw [World.cell?_setCell_other _ _ _ _ (by intro q; cases q; exact e rfl), if_neg e]
    exact h.c x hx
def thr (l : List Int) (k g : Nat) : Bool := decide (∃ j, j < k ∧ j < l.length ∧ l.getD j 0 / 256 = (g : Int))
theorem thr_succ {l : List Int} {k g : Nat} (hk : k < l.length) (hg : l.getD k 0 / 256 = (g : Int)) : (fun x => if x = g then true else thr l k x) = thr l (k + 1) := by
  funext x
  unfold thr
  by_cases e : x = g
  · subst e
    rw [if_pos rfl]
    symm
    simp only [decide_eq_true_eq]
    exact ⟨k, by omega, hk, hg⟩
  · rw [if_neg e]
    have : (∃ j, j < k ∧ j < l.length ∧ l.getD j 0 / 256 = (x : Int)) ↔ ∃ j, j < k + 1 ∧ j < l.length ∧ l.getD j 0 / 256 = (x : Int) := by
      constructor
      · rintro ⟨j, h1, h2⟩; exact ⟨j, by omega, h2⟩
      · rintro ⟨j, h1, h2, h3⟩
        refine ⟨j, ?_, h2, h3⟩
        have : j ≠ k := fun q => by subst q; omega
        omega
    simp only [this]
theorem hel_get {u : Nat} {mk : Ms} {k : Nat} (hk : k < (hel u mk).length) : ∃ g i : Nat, g < 4096 ∧ i < pn u ∧ (mk g).testBit i = true ∧ (hel u mk).getD k 0 = ((256 * g + i * sz u : Nat) : Int) := by
  have : (hel u mk).getD k 0 ∈ hel u mk := by
    rw [List.getD_eq_getElem?_getD, List.getElem?_eq_getElem hk]
    exact List.getElem_mem _
  exact mem_hel.1 this
theorem hel_step {u : Nat} {mk : Ms} {k : Nat} (hk : k + 1 < (hel u mk).length) : (hel u mk).getD k 0 + (sz u : Int) ≤ (hel u mk).getD (k + 1) 0 := by
  have hs := (List.pairwise_iff_getElem.1 (hel_sorted u mk)) k (k + 1) (by omega) hk (by omega)
  obtain ⟨g, i, h1, h2, _, h4⟩ := hel_get (u := u) (mk := mk) (k := k) (by omega)
  obtain ⟨g', i', h1', h2', _, h4'⟩ := hel_get (u := u) (mk := mk) (k := k + 1) hk
  have e1 : (hel u mk).getD k 0 = (hel u mk)[k]'(by omega) := by rw [List.getD_eq_getElem?_getD, List.getElem?_eq_getElem (by omega)]; rfl
  have e2 : (hel u mk).getD (k + 1) 0 = (hel u mk)[k + 1] := by rw [List.getD_eq_getElem?_getD, List.getElem?_eq_getElem hk]; rfl
  rw [← e1, ← e2] at hs
  rw [h4, h4'] at hs ⊢
  have p1 := place_lt h2
  have p2 := place_lt h2'
  have hz := sz_le u
  by_cases e : g = g'
  · subst e
    have : i < i' := by
      rcases Nat.lt_or_ge i i' with q | q
      · exact q
      · have := Nat.mul_le_mul_right (sz u) q
        omega
    have := Nat.mul_le_mul_right (sz u) (show i + 1 ≤ i' from this)
    rw [Nat.add_mul, Nat.one_mul] at this
    omega
  · omega
theorem thr_all {u : Nat} {mk : Ms} (hm : ∀ g, mk g < 2 ^ pn u) {g : Nat} (hg : g < 4096) : thr (hel u mk) (hel u mk).length g = decide (mk g ≠ 0) := by
  unfold thr
  rw [decide_eq_decide]
  constructor
  · rintro ⟨j, _, h2, h3⟩
    obtain ⟨g', i, q1, q2, q3, q4⟩ := hel_get h2
    have := place_lt q2
    have hz := sz_le u
    have : g' = g := by omega
    subst this
    intro z
    rw [z] at q3
    simp at q3
  · intro h
    have hp := adr_pos (g := g) (hm g) h
    obtain ⟨x, hx⟩ := List.exists_mem_of_length_pos hp
    obtain ⟨i, q1, q2, q3⟩ := mem_adr.1 hx
    have hmem : x ∈ hel u mk := mem_hel.2 ⟨g, i, hg, q1, q2, q3⟩
    obtain ⟨j, hj, e⟩ := List.getElem_of_mem hmem
    refine ⟨j, hj, hj, ?_⟩
    rw [List.getD_eq_getElem?_getD, List.getElem?_eq_getElem hj]
    show (hel u mk)[j] / 256 = _
    rw [e, q3]
    have := place_lt q1
    have hz := sz_le u
    omega
end Go.Proofs.YtdempgjhjcjklaaGreat.P
namespace Go.Proofs.YtdempgjhjcjklaaGreat.P
open B Go.ChangeShapes Go.WideShapes Go.ChangeAt Go.RowKit
set_option linter.unusedVariables false
set_option maxRecDepth 8192

def cnU (us : Us) (u : Nat) (l : List Nat) (k : Nat) : Nat := ((l.take k).filter fun g => decide (us g = some u)).length
theorem cnU_succ {us : Us} {u : Nat} {l : List Nat} {k x : Nat} (h : l[k]? = some x) : cnU us u l (k + 1) = cnU us u l k + if us x = some u then 1 else 0 := by
  unfold cnU
  rw [List.take_add_one, h]
  simp only [Option.toList_some, List.filter_append, List.length_append]
  by_cases e : us x = some u
  · simp [e]
  · simp [e]
theorem cnU_le (us : Us) (u : Nat) (l : List Nat) (k : Nat) : cnU us u l k ≤ k := by
  unfold cnU
  have h1 := List.length_filter_le (fun g => decide (us g = some u)) (l.take k)
  have h2 := List.length_take_le k l
  omega
theorem cnU_us (us : Us) (u : Nat) : ∀ n, ((B.us n us).filter fun g => decide (us g = some u)).length = cU us u n
  | 0 => rfl
  | n + 1 => by
    rw [us_succ, List.filter_append, List.length_append, cnU_us us u n, cU]
    congr 1
    cases e : us n with
    | none => simp
    | some v =>
      by_cases q : v = u
      · subst q; simp [e]
      · simp [e, q]
theorem cnU_all (us : Us) (u : Nat) : cnU us u (B.us 4096 us) (B.us 4096 us).length = cU us u 4096 := by
  unfold cnU
  rw [List.take_length]
  exact cnU_us us u 4096
theorem nf_le (mk : Ms) : ∀ n, nf mk n ≤ n
  | 0 => Nat.le_refl _
  | n + 1 => by
    have := nf_le mk n
    rw [nf]
    split <;> omega
set_option maxHeartbeats 4000000 in
theorem apart_any {w : World} {F : Nat → Prop} {p : Nat} {P : Par} {us us0 : Us} {u : Nat} {mk : Ms} (hp : Po w F p P us) (hlb : Lb u us0 us mk) (h0 : ∀ g, us0 g ≠ some u) (hml : ∀ g, mk g < 2 ^ pn u) (hu : 4 ≤ u ∧ u ≤ 6) {base : Nat} {v : Value} (hv : Iu w base v (hel u mk)) (hn : (hel u mk).length ≤ 65536) :
    Calls Tryz.prog 21 #[.pointer (some ⟨p, 0, none⟩), v, .int .u8 u] w (One (.bool true) w) := by
  obtain ⟨a, c, rfl, hA⟩ := hv.au
  have HA : Hid (Au w a (hel u mk).length (fun i => (hel u mk).getD i 0)) := hA
  have HP : Hid (Po w F p P us) := hp
  have HG : Hid (∀ k, k < (hel u mk).length → ∃ g i : Nat, g < 4096 ∧ i < pn u ∧ (mk g).testBit i = true ∧ (hel u mk).getD k 0 = ((256 * g + i * sz u : Nat) : Int)) := fun k hk => hel_get hk
  have HST : Hid (∀ k, k + 1 < (hel u mk).length → (hel u mk).getD k 0 + (sz u : Int) ≤ (hel u mk).getD (k + 1) 0) := fun k hk => hel_step hk
  have HT : Hid (∀ g, g < 4096 → thr (hel u mk) (hel u mk).length g = decide (mk g ≠ 0)) := fun g hg => thr_all hml hg
  have HCU : Hid (cnU us u (B.us 4096 us) (B.us 4096 us).length = nf mk 4096) := (cnU_all us u).trans (nf_cU hlb h0 4096)
  have HUM : Hid (∀ x, us x = some u → mk x ≠ 0) := fun x hx q => by
    have := hlb x
    rw [hx, if_neg (fun z => z q)] at this
    exact h0 x this.symm
  have hz := sz_le u
  clear hv hA hp hlb h0 hml
  obtain ⟨n, hne⟩ : ∃ n, (hel u mk).length = n := ⟨_, rfl⟩
  rw [hne] at HA HG HST HT hn ⊢
  have HLN : Hid ((hel u mk).length = n) := hne
  clear hne
  go_enter Tryz.func21, Tryz.ntmps21
  go_wp2_with fail
  refine (sizes_ok hu _).mono ?_
  rintro e w1 ⟨rfl, hb1⟩
  have HB1 : Hid (Below w.heap.size w (w1.alloc (.cells Tryz.zeroCells112 112))) := hb1.trans ((below_bx w1 _).mono hb1.size)
  have HT1 : Hid (Th (w1.alloc (.cells Tryz.zeroCells112 112)) w1.heap.size (thr (hel u mk) 0)) := by
    have : thr (hel u mk) 0 = fun _ => false := by funext x; simp [thr]
    rw [this]
    exact th_new w1 _
  have ht : w.heap.size ≤ w1.heap.size := hb1.size
  clear hb1
  go_wp2
  go_loopw [9] (fun z wr => ∃ k : Nat, z = .int .i64 k ∧ k ≤ n ∧ Th wr w1.heap.size (thr (hel u mk) k) ∧ Below w.heap.size w wr) (fun z _ => n - (B.iv z).toNat)
  case atStart => exact ⟨0, rfl, by omega, HT1.out, HB1.out⟩
  case round =>
    clear HT1 HB1
    obtain ⟨k, rfl, h1, h2, h3⟩ := hrel
    have H2 : Hid (Th wr w1.heap.size (thr (hel u mk) k)) := h2
    have H3 : Hid (Below w.heap.size w wr) := h3
    clear h2 h3
    by_cases hk : k < n
    · have hkI : (k : Int) < (n : Int) := by omega
      obtain ⟨ba, oa, rfl, ca⟩ := HA.out.at' H3.out hk
      obtain ⟨g, i, g1, g2, g3, g4⟩ := HG.out k hk
      have HXE : Hid ((hel u mk).getD k 0 = ((256 * g + i * sz u : Nat) : Int)) := g4
      have hpl := place_lt g2
      obtain ⟨x, hx⟩ : ∃ x : Nat, 256 * g + i * sz u = x := ⟨_, rfl⟩
      rw [g4, hx] at ca
      have hxg : x / 256 = g := by omega
      have hxm : x % sz u = 0 := by
        rw [← hx]
        have h256 : 256 = pn u * sz u := (pn_sz u).symm
        rw [h256, show pn u * sz u * g + i * sz u = (pn u * g + i) * sz u by rw [Nat.add_mul, Nat.mul_right_comm]]
        exact Nat.mul_mod_left _ _
      have m1' : (x : Int) % (sz u : Int) = 0 := by omega
      have m2' : (x : Int).tmod (sz u : Int) = 0 := by rw [Int.tmod_eq_emod_of_nonneg (by omega)]; exact m1'
      have q1' : (x : Int) / 256 = (g : Int) := by omega
      have q2' : (x : Int).tdiv 256 = (g : Int) := by rw [Int.tdiv_eq_ediv_of_nonneg (by omega)]; exact q1'
      have hx20 : x < 1048576 := by omega
      have hzI : ¬ (sz u : Int) = 0 := by omega
      have hgI : ¬ (4096 : Int) ≤ (g : Int) := by omega
      have tc := H2.out.c g g1
      have tz := H2.out.z g
      have HTS : Hid (∀ q, Th ((wr.drewN q).setCell ⟨w1.heap.size, g, none⟩ (.bool true)) w1.heap.size (thr (hel u mk) (k + 1))) := fun q => by
        have h : Th (wr.drewN q) w1.heap.size (thr (hel u mk) k) := H2.out.of_eq (Nat.le_refl _) rfl
        have := h.set g1
        rw [thr_succ (by rw [HLN.out]; exact hk) (by rw [HXE.out]; omega)] at this
        exact this
      have HBS : Hid (∀ q, Below w.heap.size w ((wr.drewN q).setCell ⟨w1.heap.size, g, none⟩ (.bool true))) := fun q => H3.out.trans (below_of ((grown_drewN wr q (some w1.heap.size)).trans (grown_setCell' _ _ _ _)) _ H3.out.size (fun j hj => by injection hj with hj; omega))
      have CP : Hid (0 < k → ∃ y : Nat, wr.cell? ⟨ba, oa + (k - 1), none⟩ = some (.int .u64 (y : Nat)) ∧ y + sz u ≤ x) := fun hk0 => by
        obtain ⟨ba', oa', e, cb⟩ := HA.out.at' H3.out (show k - 1 < n by omega)
        injection e with e
        injection e with e1 e2
        subst e1 e2
        obtain ⟨g', i', _, _, _, q4⟩ := HG.out (k - 1) (by omega)
        have hst := HST.out (k - 1) (by omega)
        rw [show k - 1 + 1 = k by omega, q4, g4, hx] at hst
        rw [q4] at cb
        exact ⟨_, cb, by omega⟩
      clear g2 g3 g4 hpl hx hxg hxm h1
      generalize sz u = d at *
      by_cases hk0 : 0 < k
      · obtain ⟨y, cy, hy⟩ := CP.out hk0
        have hyx : ¬ (x : Int) < (y : Int) + (d : Int) := by omega
        have hk0I : (0 : Int) < (k : Int) := by omega
        have hyD : decide ((x : Int) < (y : Int) + (d : Int)) = false := by simp only [decide_eq_false_iff_not]; exact hyx
        have hgD : decide ((4096 : Int) ≤ (g : Int)) = false := by simp only [decide_eq_false_iff_not]; exact hgI
        go_wp2
        go_big_quiet (fail)
        go_wp2
        go_roundw
        case rel => exact ⟨k + 1, by go_num, by omega, HTS.out _, HBS.out _⟩
        case measure => simp [B.iv]; omega
      · obtain rfl : k = 0 := by omega
        rw [Nat.add_zero] at ca
        have hgD : decide ((4096 : Int) ≤ (g : Int)) = false := by simp only [decide_eq_false_iff_not]; exact hgI
        clear CP hk0 hkI
        have hkI : (0 : Int) < (n : Int) := by omega
        go_wp2
        go_big_quiet (fail)
        go_wp2
        go_roundw
        case rel => exact ⟨1, by go_num, by omega, HTS.out _, HBS.out _⟩
        case measure => simp [B.iv]; omega
    · obtain rfl : k = n := by omega
      have CO : Hid (Calls _ _ _ _ _) := Owned_p (HP.out.below H3.out)
      clear HA HG HST hk h1
      go_wp2_with fail
      refine CO.out.mono ?_
      rintro e w2 ⟨v2, rfl, hO, hb2⟩
      have T2 : Hid (Th w2 w1.heap.size (fun g => thr (hel u mk) k g)) := H2.out.below hb2
      have B2 : Hid (Below w.heap.size w w2) := H3.out.trans (hb2.mono H3.out.size)
      obtain ⟨a2, c2, rfl, hC⟩ := hO.cell
      have HC : Hid (∀ i x, (B.us 4096 us)[i]? = some x → ∃ g, a2 = some ⟨g, 0, none⟩ ∧ w2.cell? ⟨g, i * 2, none⟩ = some (.int .i64 (x : Nat)) ∧ w2.cell? ⟨g, i * 2 + 1, none⟩ = some (.int .u8 ((us x).getD 0 : Nat))) := fun i x hi => by
        obtain ⟨g, q1, _, q3, q4⟩ := hC w2 (Below.refl _ _) i x hi
        exact ⟨g, q1, q3, q4⟩
      have HL4 : Hid (∀ i x, (B.us 4096 us)[i]? = some x → x < 4096 ∧ ∃ y, us x = some y) := fun i x hi => by
        have hm := List.mem_of_getElem? hi
        simp only [B.us, List.mem_filter, List.mem_range] at hm
        exact ⟨hm.1, Option.isSome_iff_exists.1 hm.2⟩
      have hll : (B.us 4096 us).length ≤ 4096 := by unfold B.us; exact Nat.le_trans (List.length_filter_le _ _) (by simp)
      clear hO hb2 hC CO H2 H3
      obtain ⟨m2, hm2⟩ : ∃ m2, (B.us 4096 us).length = m2 := ⟨_, rfl⟩
      rw [hm2] at HCU hll ⊢
      have HM2 : Hid ((B.us 4096 us).length = m2) := hm2
      clear hm2
      go_wp2
      go_loopw [12, 11] (fun z y wr => ∃ j : Nat, z = .int .i64 j ∧ y = .int .i64 (cnU us u (B.us 4096 us) j : Nat) ∧ j ≤ m2 ∧ wr = w2) (fun z _ _ => m2 - (B.iv z).toNat)
      case atStart => exact ⟨0, rfl, by simp [cnU], by omega, rfl⟩
      case round =>
        obtain ⟨j, rfl, rfl, h1, hw⟩ := hrel
        have HW : Hid (wr = w2) := hw
        by_cases hj : j < m2
        · have hjI : (j : Int) < (m2 : Int) := by omega
          obtain ⟨x, hx⟩ : ∃ x, (B.us 4096 us)[j]? = some x := ⟨_, List.getElem?_eq_getElem (by rw [HM2.out]; exact hj)⟩
          obtain ⟨x4, y, hy⟩ := HL4.out j x hx
          obtain ⟨b2, rfl, e1, e2⟩ := HC.out j x hx
          rw [hy] at e2
          rw [← hw] at e1 e2
          have HS : Hid (cnU us u (B.us 4096 us) (j + 1) = cnU us u (B.us 4096 us) j + if us x = some u then 1 else 0) := cnU_succ hx
          have hcl := cnU_le us u (B.us 4096 us) j
          have tc := T2.out.c x x4
          rw [HT.out x x4, ← hw] at tc
          simp only [Option.getD_some] at e2
          generalize cnU us u (B.us 4096 us) j = m at *
          clear hw hx
          by_cases hyu : y = u
          · subst hyu
            have hne : decide (mk x ≠ 0) = true := by simp only [decide_eq_true_eq]; exact HUM.out x hy
            rw [hne] at tc
            rw [hy, if_pos rfl] at HS
            clear hne hy
            go_wp2
            go_roundw
            case rel => exact ⟨j + 1, by go_num, by rw [HS.out]; go_num, by omega, HW.out⟩
            case measure => simp [B.iv]; omega
          · have hyI : ¬ (y : Int) = (u : Int) := by omega
            have hyB : ((y : Int) == (u : Int)) = false := by simp; omega
            rw [hy, if_neg (fun z => hyu (by injection z)), Nat.add_zero] at HS
            clear tc hy
            go_wp2
            go_roundw
            case rel => exact ⟨j + 1, by go_num, by rw [HS.out]; rfl, by omega, HW.out⟩
            case measure => simp [B.iv]; omega
        · obtain rfl : j = m2 := by omega
          rw [HCU.out]
          clear hw
          have T3 : Hid (Th wr w1.heap.size (fun g => thr (hel u mk) k g)) := by rw [HW.out]; exact T2.out
          have B3 : Hid (Below w.heap.size w wr) := by rw [HW.out]; exact B2.out
          obtain ⟨nt, hnt⟩ : ∃ nt, nf mk 4096 = nt := ⟨_, rfl⟩
          have HNT : Hid (nf mk 4096 = nt) := hnt
          rw [hnt]
          clear hnt T2 B2 HW HC HL4 HUM HCU HM2
          go_wp2
          go_loopw [14, 13] (fun z y wy => ∃ j : Nat, z = .int .i64 j ∧ y = .int .i64 (nf mk j : Nat) ∧ j ≤ 4096 ∧ wy = wr) (fun z _ _ => 4096 - (B.iv z).toNat)
          case atStart => exact ⟨0, rfl, rfl, by omega, rfl⟩
          case round =>
            obtain ⟨q, rfl, rfl, h1, hw⟩ := hrel
            by_cases hq : q < 4096
            · have hqI : (q : Int) < 4096 := by omega
              have tc := T3.out.c q hq
              rw [HT.out q hq, ← hw] at tc
              have HS : Hid (nf mk (q + 1) = nf mk q + if mk q = 0 then 0 else 1) := rfl
              have hcl := nf_le mk q
              have HW : Hid (_ = _) := hw
              generalize nf mk q = m at *
              clear hw
              by_cases hz0 : mk q = 0
              · have hne : decide (mk q ≠ 0) = false := by simp only [decide_eq_false_iff_not]; exact fun z => z hz0
                rw [hne] at tc
                rw [if_pos hz0, Nat.add_zero] at HS
                clear hne hz0
                go_wp2
                go_roundw
                case rel => exact ⟨q + 1, by go_num, by rw [HS.out]; rfl, by omega, HW.out⟩
                case measure => simp [B.iv]; omega
              · have hne : decide (mk q ≠ 0) = true := by simp only [decide_eq_true_eq]; exact hz0
                rw [hne] at tc
                rw [if_neg hz0] at HS
                clear hne hz0
                go_wp2
                go_roundw
                case rel => exact ⟨q + 1, by go_num, by rw [HS.out]; go_num, by omega, HW.out⟩
                case measure => simp [B.iv]; omega
            · obtain rfl : q = 4096 := by omega
              rw [HNT.out]
              have HB : Hid (Below w.heap.size w wr) := by rw [hw]; exact B3.out
              clear hw
              go_wp2
              go_ret
              exact ⟨by simp, HB.out⟩
end Go.Proofs.YtdempgjhjcjklaaGreat.P
namespace Go.Proofs.YtdempgjhjcjklaaGreat.P
open B Go.ChangeShapes Go.WideShapes Go.ChangeAt Go.RowKit
set_option linter.unusedVariables false
set_option maxRecDepth 8192

theorem within_eq' (k n : Int) (hn : 0 < n) : (if k.tmod n < 0 then k.tmod n + n else k.tmod n) = k % n := by
  rw [Int.tmod_eq_emod]
  have h1 := Int.emod_nonneg k (show n ≠ 0 by omega)
  have h2 := Int.emod_lt_of_pos k hn
  have e : (n.natAbs : Int) = n := Int.natAbs_of_nonneg (by omega)
  by_cases hq : 0 ≤ k ∨ n ∣ k
  · simp only [hq, if_true]
    rw [if_neg (by omega)]
    omega
  · simp only [hq, if_false, e]
    rw [if_pos (by omega)]
    omega
theorem within_o (k n : Int) (h0 : 0 < n) (h1 : n < 4611686018427387904) (hk0 : -9223372036854775808 ≤ k) (hk1 : k < 9223372036854775808) (w : World) :
    Calls Tryz.prog 17 #[.int .i64 k, .int .i64 n] w fun e w' => e = .returned (.int .i64 (k % n)) ∧ w' = w := by
  have HE : Hid _ := within_eq' k n h0
  have h2 : -n < k.tmod n := Int.lt_tmod_of_pos k h0
  have h3 : k.tmod n < n := Int.tmod_lt_of_pos k h0
  by_cases hz : k.tmod n < 0
  · rw [if_pos hz] at HE
    go_enter Tryz.func17, Tryz.ntmps17
    go_wp2
    go_ret
    exact ⟨B.ret_int HE.out, rfl⟩
  · rw [if_neg hz] at HE
    go_enter Tryz.func17, Tryz.ntmps17
    go_wp2
    go_ret
    exact ⟨B.ret_int HE.out, rfl⟩
def usv (f : Nat) (w : Int) : Nat := 4 + ((f + (w % 2).toNat) % 256) % 3
theorem usv_ok (f : Nat) (w : Int) : 4 ≤ usv f w ∧ usv f w ≤ 6 := by unfold usv; omega
theorem use_ok (f : Nat) (hf : f < 256) (k : Int) (hk0 : -9223372036854775808 ≤ k) (hk1 : k < 9223372036854775808) (w : World) : Calls Tryz.prog 12 #[.int .u8 f, .int .i64 k] w fun e w' => e = .returned (.int .u8 (usv f k : Nat)) ∧ w' = w := by
  have CW : Hid (Calls _ _ _ _ _) := within_o k 2 (by omega) (by omega) hk0 hk1 w
  obtain ⟨r, hr⟩ : ∃ r : Nat, k % 2 = r := ⟨(k % 2).toNat, by omega⟩
  have hr2 : r < 2 := by omega
  rw [hr] at CW
  have e1 : usv f k = 4 + ((f + r) % 256) % 3 := by unfold usv; rw [hr]; rfl
  rw [e1]
  clear e1 hr
  obtain ⟨y, hy⟩ : ∃ y, (f + r) % 256 = y := ⟨_, rfl⟩
  have hwrap : IntKind.u8.wrap ((f : Int) + (r : Int)) = (y : Int) := by
    rw [← hy]
    simp [IntKind.wrap, IntKind.bits, IntKind.signed]
  have hy2 : y < 256 := by omega
  rw [hy]
  have m1' : (y : Int) % 3 = ((y % 3 : Nat) : Int) := by omega
  have m2' : (y : Int).tmod 3 = ((y % 3 : Nat) : Int) := by rw [Int.tmod_eq_emod_of_nonneg (by omega)]; omega
  have hz : y % 3 < 3 := by omega
  clear hy
  generalize y % 3 = z at *
  go_enter Tryz.func12, Tryz.ntmps12
  go_wp2_with fail
  refine CW.out.mono ?_
  rintro e w1 ⟨rfl, h⟩
  obtain rfl := h.symm
  go_wp2
  go_ret
  exact ⟨by simp, rfl⟩
end Go.Proofs.YtdempgjhjcjklaaGreat.P
namespace Go.Proofs.YtdempgjhjcjklaaGreat.P
open B Go.ChangeShapes Go.WideShapes Go.ChangeAt Go.RowKit
set_option linter.unusedVariables false
set_option maxRecDepth 8192

def qq (x : Pa) (u : Nat) : Int := if u = 4 then x.s else if u = 5 then x.r else x.d
theorem quota_ok {w : World} (q : Option Addr) (m : Nat) (x : Pa) {u : Nat} (hu : 4 ≤ u ∧ u ≤ 6) : Calls Tryz.prog 15 #[.agg #[.slice q x.n m, .int .i64 x.o, .int .i64 x.u, .int .i64 x.t, .int .i64 x.s, .int .i64 x.r, .int .i64 x.d, .int .i64 x.z], .int .u8 u] w (One (.int .i64 (qq x u)) w) := by
  have hb := ebx_new w q m x
  rcases use3 hu with rfl | rfl | rfl
  all_goals
    go_enter Tryz.func15, Tryz.ntmps15
    go_wp2
    go_ret
    exact ⟨rfl, (below_bx _ _).trans ((below_bx _ _).mono (by simp))⟩
theorem qq_q {c : Cf} (h : c.Ok) {n : Nat} (hn : n < c.pn) {u : Nat} (hu : 4 ≤ u ∧ u ≤ 6) : qq (c.pf n) u = ((par c n).q u : Nat) := by
  have r := prn_of h hn
  rcases use3 hu with rfl | rfl | rfl
  · exact r.q4.symm
  · exact r.q5.symm
  · exact r.q6.symm
end Go.Proofs.YtdempgjhjcjklaaGreat.P
namespace Go.Proofs.YtdempgjhjcjklaaGreat.P
open B Go.ChangeShapes Go.WideShapes Go.ChangeAt Go.RowKit
set_option linter.unusedVariables false
set_option maxRecDepth 8192

structure Bp (w : World) (g : Nat) (a : Ad) (c : Cf) (n f : Int) : Prop where
  sv : Sev w g a c
  ci : Cin w a c
  cn : w.cell? ⟨g, 17, none⟩ = some (.int .i64 n)
  cf : w.cell? ⟨g, 18, none⟩ = some (.int .u8 f)
theorem Bp.below {w w' : World} {g : Nat} {a : Ad} {c : Cf} {n f : Int} (h : Bp w g a c n f) (k : Below w.heap.size w w') : Bp w' g a c n f := ⟨h.sv.below k, h.ci.below k, (k.cell (p := ⟨g, 17, none⟩) h.sv.lt).trans h.cn, (k.cell (p := ⟨g, 18, none⟩) h.sv.lt).trans h.cf⟩
theorem bp_new {w : World} {a : Ad} {c : Cf} (h : Cin w a c) (n f : Int) : Bp (w.alloc (.cells #[.int .i64 c.F, .int .i64 c.C, .int .i64 c.W, .int .i64 c.S, .int .i64 c.V, .int .i64 c.T, .int .u64 c.k.l1, .int .u64 c.k.llc, .int .u64 c.k.mi, .int .u64 c.k.fa, .int .u64 c.k.st, .int .u64 c.k.di, .int .u64 c.sl, .int .u64 c.pd, .int .u64 c.ft, .slice a.ta c.tn a.tc, .slice a.pa c.pn a.pc, .int .i64 n, .int .u8 f] 30)) w.heap.size a c n f :=
  ⟨⟨by simp, cell_new w _ 30 0, cell_new w _ 30 1, cell_new w _ 30 2, cell_new w _ 30 3, cell_new w _ 30 4, cell_new w _ 30 5, cell_new w _ 30 6, cell_new w _ 30 7, cell_new w _ 30 8, cell_new w _ 30 9, cell_new w _ 30 10, cell_new w _ 30 11, cell_new w _ 30 12, cell_new w _ 30 13, cell_new w _ 30 14, cell_new w _ 30 15, cell_new w _ 30 16⟩, h.below (below_new _ _), cell_new w _ 30 17, cell_new w _ 30 18⟩
structure Dol (w : World) (ao : Option Addr) (len : Nat) (K W A : Nat → Int) : Prop where
  r : ∀ i, -9223372036854775808 ≤ K i ∧ K i < 9223372036854775808 ∧ -9223372036854775808 ≤ W i ∧ W i < 9223372036854775808 ∧ 0 ≤ A i ∧ A i < 18446744073709551616
  c : len = 0 ∨ ∃ b off, ao = some ⟨b, off, none⟩ ∧ b < w.heap.size ∧ ∀ i, i < len → w.cell? ⟨b, off + i * 3, none⟩ = some (.int .i64 (K i)) ∧ w.cell? ⟨b, off + i * 3 + 1, none⟩ = some (.int .i64 (W i)) ∧ w.cell? ⟨b, off + i * 3 + 2, none⟩ = some (.int .u64 (A i))
theorem Dol.at' {w w' : World} {ao : Option Addr} {len : Nat} {K W A : Nat → Int} (h : Dol w ao len K W A) (hb : Below w.heap.size w w') {i : Nat} (hi : i < len) : ∃ b off, ao = some ⟨b, off, none⟩ ∧ w'.cell? ⟨b, off + i * 3, none⟩ = some (.int .i64 (K i)) ∧ w'.cell? ⟨b, off + i * 3 + 1, none⟩ = some (.int .i64 (W i)) ∧ w'.cell? ⟨b, off + i * 3 + 2, none⟩ = some (.int .u64 (A i)) := by
  rcases h.c with h | ⟨b, off, e, hl, hr⟩
  · omega
  · obtain ⟨r1, r2, r3⟩ := hr i hi
    exact ⟨b, off, e, (hb.cell (p := ⟨b, off + i * 3, none⟩) hl).trans r1, (hb.cell (p := ⟨b, off + i * 3 + 1, none⟩) hl).trans r2, (hb.cell (p := ⟨b, off + i * 3 + 2, none⟩) hl).trans r3⟩
theorem new_pe' {w0 W : World} (hb : Below w0.heap.size w0 W) {a : Ad} {c : Cf} (hc : Cin W a c) (n : Nat) (hm : may c = true) (hn : n < c.pn) : Calls Tryz.prog 7 #[.agg #[.int .i64 c.F, .int .i64 c.C, .int .i64 c.W, .int .i64 c.S, .int .i64 c.V, .int .i64 c.T, .int .u64 c.k.l1, .int .u64 c.k.llc, .int .u64 c.k.mi, .int .u64 c.k.fa, .int .u64 c.k.st, .int .u64 c.k.di, .int .u64 c.sl, .int .u64 c.pd, .int .u64 c.ft, .slice a.ta c.tn a.tc, .slice a.pa c.pn a.pc], .int .i64 n] W fun e w' => ∃ p F, e = .returned (.tuple #[.pointer (some ⟨p, 0, none⟩), .int .i64 0]) ∧ Pe w0 w' F p (par c n) (fun _ => none) := by
  refine (New_p hc n hm hn).mono ?_
  rintro e w' ⟨p, F, rfl, hP, hK⟩
  refine ⟨p, F, rfl, hb.trans ((kp_false hK).mono hb.size), fun x hx => ?_, hP⟩
  rcases hK.new x hx with z | z
  · exact z.elim
  · exact Nat.le_trans hb.size z
theorem image_pe' {w0 w : World} {F : Nat → Prop} {p : Nat} {P : Par} (h : Pe w0 w F p P (fun _ => none)) : Calls Tryz.prog 11 #[.pointer (some ⟨p, 0, none⟩)] w fun e w' => ∃ v F' us', e = .returned (.tuple #[v, .int .i64 0]) ∧ Pe w0 w' F' p P us' ∧ ∀ g u, us' g = some u → u = 1 := by
  have hP := h.po.ok
  obtain ⟨ai, hai⟩ := (show ∃ a, Nx (opn P (fun _ => none) 0) P.o a from by
    have h3 := hP.o3
    refine nx_of_wh (q := 0) (by rw [opn_new]; exact B.St.new _) (by omega) ?_
    rw [opn_new, B.wh_op0]
    have := hP.im
    omega)
  refine (Image_p h.po (cU_none _ _) ai hai).mono ?_
  rintro e w' ⟨v, F', rfl, _, _, hP', hK⟩
  refine ⟨v, F', _, rfl, h.kp hP' hK, fun g u hg => ?_⟩
  by_cases q : ∃ t, t < 2 ^ P.o ∧ g = fm P 0 (ai + t)
  · obtain ⟨t, t1, rfl⟩ := q
    rw [mkI_in _ ai t1] at hg
    injection hg with hg
    exact hg.symm
  · rw [mkI_out _ ai g (fun t ht z => q ⟨t, ht, z⟩)] at hg
    cases hg
end Go.Proofs.YtdempgjhjcjklaaGreat.P
namespace Go.Proofs.YtdempgjhjcjklaaGreat
open Go.ChangeShapes Go.WideShapes Go.ChangeAt Go.RowKit Go.Deep
set_option linter.unusedVariables false
set_option maxRecDepth 8192

theorem Tryz.cellsPt : Tryz.prog.cellsOf 30 = 19 := by kernel_rfl
theorem Tryz.cellsDo : Tryz.prog.cellsOf 42 = 3 := by kernel_rfl
theorem Tryz.cells5 : Tryz.prog.cellsOf 5 = 1 := by kernel_rfl
theorem wf_u8 {n : Int} (h : (Lit.int .u8 n).wf = true) : 0 ≤ n ∧ n ≤ 255 := by
  simp [Lit.wf, IntKind.min, IntKind.max, IntKind.bits, IntKind.signed] at h
  omega
theorem wf_w64 {n : Int} (h : (Lit.int .u64 n).wf = true) : 0 ≤ n ∧ n < 18446744073709551616 := by
  simp [Lit.wf, IntKind.min, IntKind.max, IntKind.bits, IntKind.signed] at h
  omega
theorem list19 {α : Type} {l : List α} (h : l.length = 19) : ∃ c0 c1 c2 c3 c4 c5 c6 c7 c8 c9 c10 c11 c12 c13 c14 c15 c16 c17 c18, l = [c0, c1, c2, c3, c4, c5, c6, c7, c8, c9, c10, c11, c12, c13, c14, c15, c16, c17, c18] := by
  match l, h with
  | [c0, c1, c2, c3, c4, c5, c6, c7, c8, c9, c10, c11, c12, c13, c14, c15, c16, c17, c18], _ => exact ⟨c0, c1, c2, c3, c4, c5, c6, c7, c8, c9, c10, c11, c12, c13, c14, c15, c16, c17, c18, rfl⟩
theorem open_pt0 {H : Type} {enc : TypeId × Value → H} {W : World} {fuel : Nat} {cs : List Value} {x : DataW H × List MemPlace} (hl : cs.length = 19)
    (h : DataW.trod enc Tryz.prog W 0 (fun _ => true) true fuel 30 cs = some x) :
    ∃ a c n, ∃ f : Nat, cs = (#[.int .i64 c.F, .int .i64 c.C, .int .i64 c.W, .int .i64 c.S, .int .i64 c.V, .int .i64 c.T, .int .u64 c.k.l1, .int .u64 c.k.llc, .int .u64 c.k.mi, .int .u64 c.k.fa, .int .u64 c.k.st, .int .u64 c.k.di, .int .u64 c.sl, .int .u64 c.pd, .int .u64 c.ft, .slice a.ta c.tn a.tc, .slice a.pa c.pn a.pc, .int .i64 n, .int .u8 f] : Array Value).toList ∧ f < 256 ∧ (Wok 30 x.1 → Cin W a c) := by
  obtain ⟨c0, c1, c2, c3, c4, c5, c6, c7, c8, c9, c10, c11, c12, c13, c14, c15, c16, c17, c18, rfl⟩ := list19 hl
  obtain ⟨xs, n, _, hx, _, hlen, hg⟩ := DataW.trod_struct Tryz.underlying30 h
  match xs, hlen with
  | [z0, z1, z2], _ =>
    have t0 := hg 0 _ rfl
    have t1 := hg 1 _ rfl
    have t2 := hg 2 _ rfl
    simp [Tryz.cellsK, Tryz.cells3, Tryz.cells5] at t0 t1 t2
    obtain ⟨a, c, e0, hw⟩ := open_cf rfl t0
    obtain ⟨N, e1, _, w1⟩ := DataW.trod_int Tryz.underlying3 t1
    obtain ⟨O, e2, _, w2⟩ := DataW.trod_int Tryz.underlying5 t2
    simp at e0 e1 e2
    obtain ⟨f0, f1, f2, f3, f4, f5, f6, f7, f8, f9, f10, f11, f12, f13, f14, f15, f16⟩ := e0
    subst f0 f1 f2 f3 f4 f5 f6 f7 f8 f9 f10 f11 f12 f13 f14 f15 f16 e1 e2
    have hO := wf_u8 w2
    refine ⟨a, c, N, O.toNat, ?_, by omega, fun hk => hw (fun m hm => hk m ?_)⟩
    · rw [show ((O.toNat : Nat) : Int) = O by omega]
    · rw [hx]
      simp only [DataW.weights, Tryz.underlying30]
      simp [DataW.weightsEach]
      simp [hm]
theorem open_pt {H : Type} {enc : TypeId × Value → H} {W : World} {base : Nat} {v : Value} {x : DataW H} {l : List MemPlace} (hv : Value.okWide Tryz.prog W .any base 30 v)
    (h : DataW.Trod enc Tryz.prog W 0 (fun _ => true) true 30 v x l) : ∃ a c n, ∃ f : Nat, v = .agg #[.int .i64 c.F, .int .i64 c.C, .int .i64 c.W, .int .i64 c.S, .int .i64 c.V, .int .i64 c.T, .int .u64 c.k.l1, .int .u64 c.k.llc, .int .u64 c.k.mi, .int .u64 c.k.fa, .int .u64 c.k.st, .int .u64 c.k.di, .int .u64 c.sl, .int .u64 c.pd, .int .u64 c.ft, .slice a.ta c.tn a.tc, .slice a.pa c.pn a.pc, .int .i64 n, .int .u8 f] ∧ f < 256 ∧ (Wok 30 x → Cin W a c) := by
  obtain ⟨cs, rfl, hsz⟩ := okWide_struct Tryz.underlying30 hv
  obtain ⟨fuel, hf⟩ := h
  obtain ⟨a, c, n, f, hcs, hf2, hw⟩ := open_pt0 (cs := cs.toList) (by simpa using hsz.trans Tryz.cellsPt) (by simpa [Value.cells] using hf)
  refine ⟨a, c, n, f, ?_, hf2, hw⟩
  have : cs = #[.int .i64 c.F, .int .i64 c.C, .int .i64 c.W, .int .i64 c.S, .int .i64 c.V, .int .i64 c.T, .int .u64 c.k.l1, .int .u64 c.k.llc, .int .u64 c.k.mi, .int .u64 c.k.fa, .int .u64 c.k.st, .int .u64 c.k.di, .int .u64 c.sl, .int .u64 c.pd, .int .u64 c.ft, .slice a.ta c.tn a.tc, .slice a.pa c.pn a.pc, .int .i64 n, .int .u8 f] := by
    apply Array.ext'
    rw [hcs]
  rw [this]
theorem list3 {α : Type} {l : List α} (h : l.length = 3) : ∃ c0 c1 c2, l = [c0, c1, c2] := by
  match l, h with
  | [c0, c1, c2], _ => exact ⟨c0, c1, c2, rfl⟩
theorem open_do {H : Type} {enc : TypeId × Value → H} {W : World} {fuel : Nat} {cs : List Value} {x : DataW H × List MemPlace} (hl : cs.length = 3)
    (h : DataW.trod enc Tryz.prog W 0 (fun _ => true) true fuel 42 cs = some x) :
    ∃ (K A : Int) (U : Int), cs = [.int .i64 K, .int .i64 A, .int .u64 U] ∧ (-9223372036854775808 ≤ K ∧ K ≤ 9223372036854775807) ∧ (-9223372036854775808 ≤ A ∧ A ≤ 9223372036854775807) ∧ (0 ≤ U ∧ U < 18446744073709551616) := by
  obtain ⟨c0, c1, c2, rfl⟩ := list3 hl
  obtain ⟨xs, n, _, hx, _, hlen, hg⟩ := DataW.trod_struct Tryz.underlying42 h
  match xs, hlen with
  | [z0, z1, z2], _ =>
    have t0 := hg 0 _ rfl
    have t1 := hg 1 _ rfl
    have t2 := hg 2 _ rfl
    simp [Tryz.cells3, Tryz.cellsU] at t0 t1 t2
    obtain ⟨K, e0, _, w0⟩ := DataW.trod_int Tryz.underlying3 t0
    obtain ⟨A, e1, _, w1⟩ := DataW.trod_int Tryz.underlying3 t1
    obtain ⟨O, e2, _, w2⟩ := DataW.trod_int Tryz.underlying22 t2
    simp at e0 e1 e2
    subst e0 e1 e2
    exact ⟨K, A, O, rfl, wf_i64 w0, wf_i64 w1, wf_w64 w2⟩
theorem open_dol {H : Type} {enc : TypeId × Value → H} {W : World} {a0 : Option Addr} {len cap : Nat} {d : DataW H} {p : List MemPlace}
    (h : DataW.Trod enc Tryz.prog W 0 (fun _ => true) true 31 (.slice a0 len cap) d p) : (∃ K Wh A, P.Dol W a0 len K Wh A) ∧ len ≤ maxLen := by
  obtain ⟨fuel, hf⟩ := h
  rcases DataW.trod_slice Tryz.underlying31 hf with ⟨hcs, hx⟩ | ⟨a, l, c, elems, rest, n, _, hcs, hx, _, hlc, hcm, hlen, hel, _, _⟩
  · simp [Value.cells] at hcs
    obtain ⟨rfl, rfl, rfl⟩ := hcs
    exact ⟨⟨fun _ => 0, fun _ => 0, fun _ => 0, fun i => by omega, Or.inl rfl⟩, by unfold maxLen; omega⟩
  · simp [Value.cells] at hcs
    obtain ⟨rfl, rfl, rfl⟩ := hcs
    refine ⟨?_, by omega⟩
    by_cases h0 : len = 0
    · subst h0
      exact ⟨fun _ => 0, fun _ => 0, fun _ => 0, fun i => by omega, Or.inl rfl⟩
    · have hspot : a.spot = none := by
        have hz := hel 0 (by omega)
        rw [List.getElem?_eq_getElem (by omega : 0 < elems.length)] at hz
        obtain ⟨cz, hcz, _⟩ := Option.bind_eq_some_iff.1 hz
        rw [Tryz.cellsDo] at hcz
        obtain ⟨_, hz2, hzc⟩ := World.cells?_some hcz
        have h0 := hzc 0 (by omega)
        rw [List.getElem?_eq_getElem (by omega : 0 < cz.length)] at h0
        have := World.cell?_spot h0
        simpa [Addr.add] using this
      obtain ⟨b, off, spot⟩ := a
      simp only at hspot
      subst hspot
      have key : ∀ i, i < len → b < W.heap.size ∧ ∃ (K A U : Int), ((-9223372036854775808 ≤ K ∧ K ≤ 9223372036854775807) ∧ (-9223372036854775808 ≤ A ∧ A ≤ 9223372036854775807) ∧ (0 ≤ U ∧ U < 18446744073709551616)) ∧ W.cell? ⟨b, off + i * 3, none⟩ = some (.int .i64 K) ∧ W.cell? ⟨b, off + i * 3 + 1, none⟩ = some (.int .i64 A) ∧ W.cell? ⟨b, off + i * 3 + 2, none⟩ = some (.int .u64 U) := fun i hi => by
        have hi2 := hel i hi
        rw [List.getElem?_eq_getElem (by omega : i < elems.length)] at hi2
        obtain ⟨cs, hcs, htr⟩ := Option.bind_eq_some_iff.1 hi2
        rw [Tryz.cellsDo] at hcs
        obtain ⟨_, hl2, hcell⟩ := World.cells?_some hcs
        have hblk := World.cells?_block hcs (by omega)
        obtain ⟨K, A, O, rfl, b1, b2, b3⟩ := open_do hl2 htr
        refine ⟨?_, K, A, O, ⟨b1, b2, b3⟩, ?_, ?_, ?_⟩
        · rw [Go.WideShapes.add_plain] at hblk
          exact hblk
        · have := hcell 0 (by omega)
          rw [Go.WideShapes.add_plain, Go.WideShapes.add_plain] at this
          exact this
        · have := hcell 1 (by omega)
          rw [Go.WideShapes.add_plain, Go.WideShapes.add_plain] at this
          exact this
        · have := hcell 2 (by omega)
          rw [Go.WideShapes.add_plain, Go.WideShapes.add_plain] at this
          exact this
      let F : ∀ i, ∃ (K A U : Int), ((-9223372036854775808 ≤ K ∧ K ≤ 9223372036854775807) ∧ (-9223372036854775808 ≤ A ∧ A ≤ 9223372036854775807) ∧ (0 ≤ U ∧ U < 18446744073709551616)) ∧ (i < len → W.cell? ⟨b, off + i * 3, none⟩ = some (.int .i64 K) ∧ W.cell? ⟨b, off + i * 3 + 1, none⟩ = some (.int .i64 A) ∧ W.cell? ⟨b, off + i * 3 + 2, none⟩ = some (.int .u64 U)) := fun i => by
        by_cases hi : i < len
        · obtain ⟨_, K, A, U, b1, b2⟩ := key i hi
          exact ⟨K, A, U, b1, fun _ => b2⟩
        · exact ⟨0, 0, 0, by omega, fun z => absurd z hi⟩
      refine ⟨fun i => (F i).choose, fun i => (F i).choose_spec.choose, fun i => (F i).choose_spec.choose_spec.choose, fun i => ?_, Or.inr ⟨b, off, rfl, (key 0 (by omega)).1, fun i hi => (F i).choose_spec.choose_spec.choose_spec.2 hi⟩⟩
      have := (F i).choose_spec.choose_spec.choose_spec.1
      omega
end Go.Proofs.YtdempgjhjcjklaaGreat
