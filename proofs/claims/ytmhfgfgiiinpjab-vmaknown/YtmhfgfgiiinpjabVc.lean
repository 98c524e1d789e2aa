/- What Check, Put, Cut, Protect, Pages of lists of regions answer, page by page; no condition but those named. -/
import Derived.Test.YtmhfgfgiiinpjabVb
namespace Go.Proofs.Ytmhfgfgiiinpjab.V
set_option linter.unusedVariables false
def tot : List Rg → Int
  | [] => 0
  | r :: l => r.n + tot l
/-- How many of k pages from a on are mapped. -/
def cnt (F : Int → Option Int) (a : Int) : Nat → Nat
  | 0 => 0
  | k + 1 => cnt F a k + if (F (a + k)).isSome then 1 else 0
theorem cnt_le (F : Int → Option Int) (a : Int) : ∀ k, cnt F a k ≤ k
  | 0 => Nat.le_refl 0
  | k + 1 => by
    have := cnt_le F a k
    unfold cnt
    split <;> omega
theorem cnt_add (F : Int → Option Int) (a : Int) (i : Nat) : ∀ j, cnt F a (i + j) = cnt F a i + cnt F (a + i) j
  | 0 => rfl
  | j + 1 => by
    show cnt F a (i + j) + (if (F (a + ((i + j : Nat) : Int))).isSome then 1 else 0) = cnt F a i + (cnt F (a + i) j + if (F (a + i + j)).isSome then 1 else 0)
    rw [cnt_add F a i j, show a + ((i + j : Nat) : Int) = a + i + j by omega]
    omega
theorem cnt_congr {F G : Int → Option Int} {a : Int} : ∀ {k : Nat}, (∀ x, a ≤ x → x < a + k → (F x).isSome = (G x).isSome) → cnt F a k = cnt G a k
  | 0, _ => rfl
  | k + 1, h => by
    unfold cnt
    rw [cnt_congr (fun x h1 h2 => h x h1 (by omega)), h (a + k) (by omega) (by omega)]
theorem cnt_none {F : Int → Option Int} {a : Int} : ∀ {k : Nat}, (∀ x, a ≤ x → x < a + k → F x = none) → cnt F a k = 0
  | 0, _ => rfl
  | k + 1, h => by
    unfold cnt
    rw [cnt_none (fun x h1 h2 => h x h1 (by omega)), h (a + k) (by omega) (by omega)]
    rfl
theorem cnt_all {F : Int → Option Int} {a : Int} : ∀ {k : Nat}, cnt F a k = k ↔ ∀ x, a ≤ x → x < a + k → F x ≠ none
  | 0 => ⟨fun _ x h1 h2 => by omega, fun _ => rfl⟩
  | k + 1 => by
    have ih := cnt_all (F := F) (a := a) (k := k)
    have hle := cnt_le F a k
    unfold cnt
    constructor
    · intro h x h1 h2
      by_cases c : (F (a + k)).isSome = true
      · rw [if_pos c] at h
        by_cases e : x = a + k
        · rw [e]
          intro z
          rw [z] at c
          exact absurd c (by decide)
        · exact ih.1 (by omega) x h1 (by omega)
      · rw [if_neg c] at h
        omega
    · intro h
      rw [ih.2 (fun x h1 h2 => h x h1 (by omega)), if_pos]
      have := h (a + k) (by omega) (by omega)
      cases hF : F (a + k) with
      | none => exact absurd hF this
      | some y => rfl
theorem tot_cnt : ∀ {l : List Rg} {a : Int} {k : Nat}, Rs l → (∀ r ∈ l, a ≤ r.p ∧ r.e ≤ a + k) → tot l = cnt (at_ l) a k
  | [], a, k, _, _ => by
    rw [cnt_none (F := at_ []) (fun x _ _ => rfl)]
    rfl
  | r :: l, a, k, h, hb => by
    have hr := h.head.lt
    have hr2 := hb r List.mem_cons_self
    obtain ⟨i, hi⟩ : ∃ i : Nat, (i : Int) = r.p - a := ⟨(r.p - a).toNat, by omega⟩
    obtain ⟨j, hj⟩ : ∃ j : Nat, (j : Int) = r.n := ⟨r.n.toNat, by unfold Rg.e at hr; omega⟩
    obtain ⟨q, hq⟩ : ∃ q : Nat, (q : Int) = a + k - r.e := ⟨(a + k - r.e).toNat, by omega⟩
    have hk : k = i + (j + q) := by unfold Rg.e at *; omega
    have hall := h.all
    rw [hk, cnt_add, cnt_add, cnt_none (fun x h1 h2 => h.at_lt (by omega)), (cnt_all (F := at_ (r :: l)) (a := a + i) (k := j)).2 (fun x h1 h2 => by
      rw [h.at_of List.mem_cons_self (x := x) (by unfold has Rg.e; omega)]
      exact nofun), cnt_congr (G := at_ l) (fun x h1 h2 => by
      show (if has r x then some r.m else at_ l x).isSome = _
      rw [if_neg (by unfold has Rg.e; omega)])]
    have ih := tot_cnt (l := l) (a := a + i + j) (k := q) h.tail (fun z hz => by
      have h1 := hall z hz
      have h2 := hb z (List.mem_cons_of_mem _ hz)
      unfold Rg.e at *
      omega)
    show r.n + tot l = _
    rw [ih]
    push_cast
    omega
/-- All pages of a run are mapped just if what lies there is as many. -/
theorem tot_btw {l : List Rg} (h : Rs l) {s n : Int} (hn : 1 ≤ n) : tot (btw l s (s + n)) = n ↔ ∀ x, s ≤ x → x < s + n → at_ l x ≠ none := by
  obtain ⟨k, hk⟩ : ∃ k : Nat, (k : Int) = n := ⟨n.toNat, by omega⟩
  rw [tot_cnt (a := s) (k := k) (btw_rs h) (fun r hr => by have := btw_in hr; omega), cnt_congr (G := at_ l) (fun x h1 h2 => by rw [btw_at, if_pos (by omega)])]
  have := cnt_all (F := at_ l) (a := s) (k := k)
  rw [hk] at this
  rw [← this]
  omega
theorem btw_nil {l : List Rg} (h : Rs l) {f t : Int} : btw l f t = [] ↔ ∀ x, f ≤ x → x < t → at_ l x = none := by
  constructor
  · intro e x h1 h2
    have := btw_at f t x l
    rw [e, if_pos ⟨h1, h2⟩] at this
    exact this.symm
  · intro hx
    cases hb : btw l f t with
    | nil => rfl
    | cons q k =>
      have hq : q ∈ btw l f t := by rw [hb]; exact List.mem_cons_self
      have h1 := btw_in hq
      have h2 := (btw_rs h).ok q hq
      have h3 := btw_at f t q.p l
      rw [(btw_rs h).at_of hq (x := q.p) ⟨Int.le_refl _, h2.lt.1⟩, if_pos (by have := h2.lt; omega), hx q.p h1.1 (by have := h2.lt; omega)] at h3
      exact absurd h3 nofun
/-! ### How long lists become -/
theorem jn_len (out : List Rg) (r : Rg) : (jn out r).length ≤ out.length + 1 := by
  rcases snoc_cases out with e | ⟨l, a, e⟩
  · subst e; exact Nat.le_refl _
  · subst e
    rw [jn_snoc]
    split <;> simp
theorem fold_len : ∀ (l out : List Rg), (l.foldl jn out).length ≤ out.length + l.length
  | [], _ => Nat.le_refl _
  | r :: l, out => by
    have h1 := fold_len l (jn out r)
    have h2 := jn_len out r
    show (l.foldl jn (jn out r)).length ≤ _
    simp only [List.length_cons]
    omega
theorem btw_len {s e : Int} (hse : s ≤ e) : ∀ {l : List Rg}, Rs l → (btw l 0 s).length + (btw l e 1048576).length ≤ l.length + 1
  | [], _ => by simp [btw]
  | a :: t, h => by
    have ih := btw_len hse h.tail
    have ha := h.head.lt
    have hall := h.all
    unfold btw at *
    rw [List.filterMap_cons, List.filterMap_cons]
    cases h1 : part 0 s a with
    | none =>
      cases h2 : part e 1048576 a with
      | none => simp only [List.length_cons]; omega
      | some y => simp only [List.length_cons]; omega
    | some x =>
      cases h2 : part e 1048576 a with
      | none => simp only [List.length_cons]; omega
      | some y =>
        have p1 := part_some h1
        have p2 := part_some h2
        have hz : List.filterMap (part 0 s) t = [] := by
          refine List.filterMap_eq_nil_iff.2 (fun r hr => ?_)
          have := hall r hr
          unfold part
          rw [if_pos (by omega)]
        rw [hz]
        have := List.length_filterMap_le (part e 1048576) t
        simp only [List.length_cons, List.length_nil]
        omega
theorem wth_len {l ins : List Rg} {s n : Int} (h : Rs l) (hn : 0 ≤ n) : (wth l s n ins).length ≤ l.length + 1 + ins.length := by
  have h1 := fold_len (btw l 0 s ++ ins ++ btw l (s + n) 1048576) []
  have h2 := btw_len (s := s) (e := s + n) (by omega) h
  unfold wth jnd
  simp only [List.length_append, List.length_nil] at h1
  omega
theorem len_tot : ∀ {l : List Rg}, Rs l → (l.length : Int) ≤ tot l
  | [], _ => Int.le_refl 0
  | r :: l, h => by
    have := len_tot h.tail
    have h2 := h.head.lt
    show ((l.length + 1 : Nat) : Int) ≤ r.n + tot l
    unfold Rg.e at h2
    omega
/-! ### The answers -/
def chk (l : List Rg) : Int := if 1024 < l.length then 3 else if Fm l then 0 else 2
def May (l : List Rg) : Prop := l.length ≤ 1024 ∧ Fm l
theorem chk_may {l : List Rg} : chk l = 0 ↔ May l := by
  unfold chk May
  by_cases c : 1024 < l.length
  · rw [if_pos c]
    exact ⟨fun h => absurd h (by decide), fun h => by omega⟩
  · rw [if_neg c]
    by_cases d : Fm l
    · rw [if_pos d]
      exact ⟨fun _ => ⟨by omega, d⟩, fun _ => rfl⟩
    · rw [if_neg d]
      exact ⟨fun h => absurd h (by decide), fun h => absurd h.2 d⟩
def ans (l : List Rg) : List Rg × Int := if 1024 < l.length then ([], 3) else (l, 0)
def puV (l : List Rg) (r : Rg) : List Rg × Int := if chk l ≠ 0 then ([], chk l) else if ¬ r.Ok then ([], 2) else if btw l r.p r.e ≠ [] then ([], 171) else ans (wth l r.p r.n [r])
def cuV (l : List Rg) (s n : Int) : List Rg × Int := if chk l ≠ 0 then ([], chk l) else if ¬ pgs s n then ([], 2) else ans (wth l s n [])
def prV (l : List Rg) (s n m : Int) : List Rg × Int := if chk l ≠ 0 then ([], chk l) else if ¬ (⟨s, n, m⟩ : Rg).Ok then ([], 2) else if tot (btw l s (s + n)) ≠ n then ([], 170) else ans (wth l s n [⟨s, n, m⟩])
/-- What a list is page by page. -/
structure Is (l : List Rg) (F : Int → Option Int) : Prop where
  fm : Fm l
  eq : ∀ x, at_ l x = F x
theorem Is.uniq {l k : List Rg} {F : Int → Option Int} (h : Is l F) (g : Is k F) : l = k := V.uniq h.fm g.fm (fun x => (h.eq x).trans (g.eq x).symm)
theorem Is.congr {l : List Rg} {F G : Int → Option Int} (h : Is l F) (e : ∀ x, F x = G x) : Is l G := ⟨h.fm, fun x => (h.eq x).trans (e x)⟩
/-- Pages turned. -/
def tn (F : Int → Option Int) (s n : Int) (v : Option Int) : Int → Option Int := fun x => if s ≤ x ∧ x < s + n then v else F x
theorem wth_in {l : List Rg} {s n m : Int} (h : Fm l) (hr : (⟨s, n, m⟩ : Rg).Ok) : Is (wth l s n [⟨s, n, m⟩]) (tn (at_ l) s n (some m)) := by
  obtain ⟨h1, h2⟩ := wth_ok (ins := [⟨s, n, m⟩]) h.rs hr.pg hr (fun r hq => by rw [List.mem_singleton.1 hq]; exact ⟨Int.le_refl _, Int.le_refl _⟩)
  refine ⟨h1, fun x => (h2 x).trans ?_⟩
  unfold tn
  by_cases c : s ≤ x ∧ x < s + n
  · rw [if_pos c, if_pos c, at_one]
    exact if_pos (show has ⟨s, n, m⟩ x from c)
  · rw [if_neg c, if_neg c]
theorem wth_out {l : List Rg} {s n : Int} (h : Fm l) (hp : pgs s n) : Is (wth l s n []) (tn (at_ l) s n none) := by
  obtain ⟨h1, h2⟩ := wth_ok (ins := []) h.rs hp trivial (fun r hq => absurd hq List.not_mem_nil)
  exact ⟨h1, h2⟩
end Go.Proofs.Ytmhfgfgiiinpjab.V
