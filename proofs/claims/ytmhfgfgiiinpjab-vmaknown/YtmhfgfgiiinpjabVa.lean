/- Lists of regions in their one form, page by page: two lists with the same pages and permissions are the same list; no condition but those named. -/
import Derived.Test.YtmhfgfgiiinpjabRows
namespace Go.Proofs.Ytmhfgfgiiinpjab.V
set_option linter.unusedVariables false
/-- A region: its page, how many, its permission. -/
structure Rg where
  p : Int
  n : Int
  m : Int
deriving DecidableEq
def Rg.e (r : Rg) : Int := r.p + r.n
/-- Pages that may be. -/
def pgs (p n : Int) : Prop := 1 ≤ p ∧ p ≤ 1048575 ∧ 1 ≤ n ∧ n ≤ 1048576 - p
def prm (m : Int) : Prop := m = 0 ∨ m = 1 ∨ m = 3
structure Rg.Ok (r : Rg) : Prop where
  pg : pgs r.p r.n
  pm : prm r.m
instance (p n : Int) : Decidable (pgs p n) := by unfold pgs; exact inferInstance
instance (m : Int) : Decidable (prm m) := by unfold prm; exact inferInstance
instance (r : Rg) : Decidable r.Ok := decidable_of_iff (pgs r.p r.n ∧ prm r.m) ⟨fun h => ⟨h.1, h.2⟩, fun h => ⟨h.pg, h.pm⟩⟩
/-- One ahead of another one, not to be one with it. -/
def Ap (a b : Rg) : Prop := a.e < b.p ∨ (a.e = b.p ∧ a.m ≠ b.m)
instance (a b : Rg) : Decidable (Ap a b) := by unfold Ap; exact inferInstance
/-- The one form. -/
def Fm : List Rg → Prop
  | [] => True
  | [a] => a.Ok
  | a :: b :: t => a.Ok ∧ Ap a b ∧ Fm (b :: t)
instance Fm.dec : ∀ l, Decidable (Fm l)
  | [] => isTrue trivial
  | [a] => inferInstanceAs (Decidable a.Ok)
  | a :: b :: t => @instDecidableAnd _ _ _ (@instDecidableAnd _ _ _ (Fm.dec (b :: t)))
/-- Pieces that rise. -/
def Rs : List Rg → Prop
  | [] => True
  | [a] => a.Ok
  | a :: b :: t => a.Ok ∧ a.e ≤ b.p ∧ Rs (b :: t)
def has (r : Rg) (x : Int) : Prop := r.p ≤ x ∧ x < r.e
instance (r : Rg) (x : Int) : Decidable (has r x) := by unfold has; exact inferInstance
/-- A page's permission, if it is mapped. -/
def at_ : List Rg → Int → Option Int
  | [], _ => none
  | r :: t, x => if has r x then some r.m else at_ t x
theorem Fm.rs : ∀ {l : List Rg}, Fm l → Rs l
  | [], _ => trivial
  | [_], h => h
  | a :: b :: t, h => ⟨h.1, by rcases h.2.1 with q | q <;> omega, Fm.rs h.2.2⟩
theorem Rs.tail {a : Rg} {l : List Rg} (h : Rs (a :: l)) : Rs l := by
  cases l with
  | nil => trivial
  | cons b t => exact h.2.2
theorem Rs.head {a : Rg} {l : List Rg} (h : Rs (a :: l)) : a.Ok := by
  cases l with
  | nil => exact h
  | cons b t => exact h.1
theorem Fm.tail {a : Rg} {l : List Rg} (h : Fm (a :: l)) : Fm l := by
  cases l with
  | nil => trivial
  | cons b t => exact h.2.2
theorem Fm.head {a : Rg} {l : List Rg} (h : Fm (a :: l)) : a.Ok := h.rs.head
/-- All of the others lie behind the first. -/
theorem Rs.all {a : Rg} {l : List Rg} (h : Rs (a :: l)) : ∀ r ∈ l, a.e ≤ r.p := by
  induction l generalizing a with
  | nil => exact fun r hr => absurd hr List.not_mem_nil
  | cons b t ih =>
    intro r hr
    rcases List.mem_cons.1 hr with e | e
    · rw [e]; exact h.2.1
    · have h1 := ih h.2.2 r e
      have h2 := h.2.1
      have h3 := h.2.2.head.pg
      unfold pgs at h3
      unfold Rg.e at *
      omega
theorem Rs.ok {l : List Rg} (h : Rs l) : ∀ r ∈ l, r.Ok := by
  induction l with
  | nil => exact fun r hr => absurd hr List.not_mem_nil
  | cons b t ih =>
    intro r hr
    rcases List.mem_cons.1 hr with e | e
    · rw [e]; exact h.head
    · exact ih h.tail r e
theorem Rg.Ok.lt {r : Rg} (h : r.Ok) : r.p < r.e ∧ 1 ≤ r.p ∧ r.e ≤ 1048576 := by
  have := h.pg
  unfold pgs at this
  unfold Rg.e
  omega
theorem at_none {l : List Rg} {x : Int} (h : ∀ r ∈ l, ¬ has r x) : at_ l x = none := by
  induction l with
  | nil => rfl
  | cons a t ih =>
    unfold at_
    rw [if_neg (h a List.mem_cons_self)]
    exact ih (fun r hr => h r (List.mem_cons_of_mem _ hr))
theorem at_some {l : List Rg} {x m : Int} (h : at_ l x = some m) : ∃ r ∈ l, has r x ∧ r.m = m := by
  induction l with
  | nil => exact absurd h nofun
  | cons a t ih =>
    unfold at_ at h
    by_cases q : has a x
    · rw [if_pos q] at h
      exact ⟨a, List.mem_cons_self, q, Option.some.inj h⟩
    · rw [if_neg q] at h
      obtain ⟨r, hr, h1, h2⟩ := ih h
      exact ⟨r, List.mem_cons_of_mem _ hr, h1, h2⟩
theorem at_none_iff {l : List Rg} {x : Int} : at_ l x = none ↔ ∀ r ∈ l, ¬ has r x := by
  refine ⟨fun h r hr q => ?_, at_none⟩
  induction l with
  | nil => exact absurd hr List.not_mem_nil
  | cons a t ih =>
    unfold at_ at h
    by_cases c : has a x
    · rw [if_pos c] at h; exact absurd h nofun
    · rw [if_neg c] at h
      rcases List.mem_cons.1 hr with e | e
      · rw [e] at q; exact c q
      · exact ih h e
/-- Of rising pieces the one that has a page says its permission. -/
theorem Rs.at_of {l : List Rg} (h : Rs l) {r : Rg} (hr : r ∈ l) {x : Int} (hx : has r x) : at_ l x = some r.m := by
  induction l with
  | nil => exact absurd hr List.not_mem_nil
  | cons a t ih =>
    unfold at_
    rcases List.mem_cons.1 hr with e | e
    · rw [← e, if_pos hx]
    · have := h.all r e
      have h2 : ¬ has a x := fun q => by unfold has at *; omega
      rw [if_neg h2]
      exact ih h.tail e
theorem at_append (l k : List Rg) (x : Int) : at_ (l ++ k) x = (at_ l x).or (at_ k x) := by
  induction l with
  | nil => simp [at_]
  | cons a t ih =>
    show (if has a x then some a.m else at_ (t ++ k) x) = (if has a x then some a.m else at_ t x).or (at_ k x)
    by_cases c : has a x
    · rw [if_pos c, if_pos c]; rfl
    · rw [if_neg c, if_neg c]; exact ih
/-- Pages below the first are not mapped. -/
theorem Rs.at_lt {a : Rg} {l : List Rg} (h : Rs (a :: l)) {x : Int} (hx : x < a.p) : at_ (a :: l) x = none :=
  at_none (fun r hr q => by
    rcases List.mem_cons.1 hr with e | e
    · rw [e] at q; unfold has at q; omega
    · have := h.all r e
      have := h.head.lt
      unfold has at q
      omega)
/-- Two lists in the one form with the same pages and permissions are the same list. -/
theorem uniq : ∀ {l k : List Rg}, Fm l → Fm k → (∀ x, at_ l x = at_ k x) → l = k
  | [], [], _, _, _ => rfl
  | [], b :: k, _, hk, h => by
    have := h b.p
    rw [hk.rs.at_of List.mem_cons_self (x := b.p) ⟨Int.le_refl _, hk.head.lt.1⟩] at this
    exact absurd this nofun
  | a :: l, [], hl, _, h => by
    have := h a.p
    rw [hl.rs.at_of List.mem_cons_self (x := a.p) ⟨Int.le_refl _, hl.head.lt.1⟩] at this
    exact absurd this nofun
  | a :: l, b :: k, hl, hk, h => by
    have ha := hl.head.lt
    have hb := hk.head.lt
    have e1 : ∀ {a b : Rg} {l k : List Rg}, Fm (a :: l) → Fm (b :: k) → (∀ x, at_ (a :: l) x = at_ (b :: k) x) → b.p ≤ a.p := fun {a b l k} hl hk h => by
      apply Classical.byContradiction
      intro q
      have := h a.p
      rw [hl.rs.at_of List.mem_cons_self (x := a.p) ⟨Int.le_refl _, hl.head.lt.1⟩, hk.rs.at_lt (by omega)] at this
      exact absurd this nofun
    have ep : a.p = b.p := Int.le_antisymm (e1 hk hl (fun x => (h x).symm)) (e1 hl hk h)
    have em : a.m = b.m := by
      have := h a.p
      rw [hl.rs.at_of List.mem_cons_self (x := a.p) ⟨Int.le_refl _, ha.1⟩, hk.rs.at_of List.mem_cons_self (x := a.p) ⟨by omega, by omega⟩] at this
      exact Option.some.inj this
    have e2 : ∀ {a b : Rg} {l k : List Rg}, Fm (a :: l) → Fm (b :: k) → (∀ x, at_ (a :: l) x = at_ (b :: k) x) → a.p = b.p → a.m = b.m → b.e ≤ a.e := fun {a b l k} hl hk h ep em => by
      apply Classical.byContradiction
      intro q
      have ha := hl.head.lt
      have hx := h a.e
      rw [hk.rs.at_of List.mem_cons_self (x := a.e) ⟨by omega, by omega⟩] at hx
      obtain ⟨r, hr, h1, h2⟩ := at_some hx
      rcases List.mem_cons.1 hr with e | e
      · rw [e] at h1; unfold has at h1; omega
      · cases l with
        | nil => exact absurd e List.not_mem_nil
        | cons c t =>
          have hc := hl.2.1
          have hr2 : r = c := by
            rcases List.mem_cons.1 e with e3 | e3
            · exact e3
            · have := hl.tail.rs.all r e3
              have := hl.tail.head.lt
              unfold has at h1
              rcases hc with z | z <;> omega
          rw [hr2] at h1 h2
          rcases hc with z | z
          · unfold has at h1; omega
          · exact absurd (by rw [h2, em]) z.2
    have ee : a.e = b.e := Int.le_antisymm (e2 hk hl (fun x => (h x).symm) ep.symm em.symm) (e2 hl hk h ep em)
    have en : a.n = b.n := by unfold Rg.e at ee; omega
    have eab : a = b := by
      obtain ⟨ap, an, am⟩ := a
      obtain ⟨bp, bn, bm⟩ := b
      simp only at ep en em
      subst ep en em
      rfl
    subst eab
    refine congrArg (a :: ·) (uniq hl.tail hk.tail (fun x => ?_))
    by_cases c : has a x
    · have n1 : ∀ {l : List Rg}, Rs (a :: l) → at_ l x = none := fun {l} hl => at_none (fun r hr q => by
        have := hl.all r hr
        unfold has at *
        omega)
      rw [n1 hl.rs, n1 hk.rs]
    · have := h x
      unfold at_ at this
      rw [if_neg c, if_neg c] at this
      exact this
end Go.Proofs.Ytmhfgfgiiinpjab.V
