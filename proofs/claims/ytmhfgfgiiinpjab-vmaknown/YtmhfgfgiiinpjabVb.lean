/- Lists of regions taken apart, changed and put together again; no condition but those named. -/
import Derived.Test.YtmhfgfgiiinpjabVa
namespace Go.Proofs.Ytmhfgfgiiinpjab.V
set_option linter.unusedVariables false
theorem rs_iff : ∀ {l : List Rg}, Rs l ↔ (∀ r ∈ l, r.Ok) ∧ l.Pairwise (fun a b => a.e ≤ b.p)
  | [] => ⟨fun _ => ⟨fun r hr => absurd hr List.not_mem_nil, List.Pairwise.nil⟩, fun _ => trivial⟩
  | a :: l => by
    refine ⟨fun h => ⟨h.ok, List.pairwise_cons.2 ⟨h.all, (rs_iff.1 h.tail).2⟩⟩, fun h => ?_⟩
    have ht : Rs l := rs_iff.2 ⟨fun r hr => h.1 r (List.mem_cons_of_mem _ hr), (List.pairwise_cons.1 h.2).2⟩
    cases l with
    | nil => exact h.1 a List.mem_cons_self
    | cons b t => exact ⟨h.1 a List.mem_cons_self, (List.pairwise_cons.1 h.2).1 b List.mem_cons_self, ht⟩
theorem fm_join {a r : Rg} {k : List Rg} : ∀ {l : List Rg}, Fm (l ++ a :: r :: k) ↔ Fm (l ++ [a]) ∧ Ap a r ∧ Fm (r :: k)
  | [] => Iff.rfl
  | [b] => by
    show (b.Ok ∧ Ap b a ∧ (a.Ok ∧ Ap a r ∧ Fm (r :: k))) ↔ (b.Ok ∧ Ap b a ∧ a.Ok) ∧ Ap a r ∧ Fm (r :: k)
    simp only [and_assoc]
  | b :: c :: t => by
    have ih := fm_join (a := a) (r := r) (k := k) (l := c :: t)
    show (b.Ok ∧ Ap b c ∧ Fm (c :: t ++ a :: r :: k)) ↔ (b.Ok ∧ Ap b c ∧ Fm (c :: t ++ [a])) ∧ Ap a r ∧ Fm (r :: k)
    rw [ih]
    simp only [and_assoc]
theorem fm_last {a a' : Rg} (hp : a'.p = a.p) (hm : a'.m = a.m) (ho : a'.Ok) : ∀ {l : List Rg}, Fm (l ++ [a]) → Fm (l ++ [a'])
  | [], _ => ho
  | [b], h => by
    obtain ⟨h1, h2, h3⟩ := h
    refine ⟨h1, ?_, ho⟩
    unfold Ap at *
    rw [hp, hm]
    exact h2
  | b :: c :: t, h => ⟨h.1, h.2.1, fm_last hp hm ho (l := c :: t) h.2.2⟩
theorem fm_init {a : Rg} : ∀ {l : List Rg}, Fm (l ++ [a]) → Fm l
  | [], _ => trivial
  | [b], h => h.1
  | b :: c :: t, h => ⟨h.1, h.2.1, fm_init (l := c :: t) h.2.2⟩
/-- A piece put behind a list: as a region of its own, or into the last one. -/
def jn (out : List Rg) (r : Rg) : List Rg :=
  match out.getLast? with
  | none => [r]
  | some a => if a.e = r.p ∧ a.m = r.m then out.dropLast ++ [⟨a.p, a.n + r.n, a.m⟩] else out ++ [r]
theorem jn_nil (r : Rg) : jn [] r = [r] := rfl
theorem jn_snoc (l : List Rg) (a r : Rg) : jn (l ++ [a]) r = if a.e = r.p ∧ a.m = r.m then l ++ [⟨a.p, a.n + r.n, a.m⟩] else l ++ [a, r] := by
  unfold jn
  rw [List.getLast?_concat]
  simp only [List.dropLast_concat, List.append_assoc, List.cons_append, List.nil_append]
theorem snoc_cases {α : Type} (l : List α) : l = [] ∨ ∃ k a, l = k ++ [a] := by
  rcases List.eq_nil_or_concat l with h | ⟨k, a, h⟩
  · exact Or.inl h
  · exact Or.inr ⟨k, a, by rw [h, List.concat_eq_append]⟩
theorem at_one (r : Rg) (x : Int) : at_ [r] x = if has r x then some r.m else none := rfl
theorem jn_ok {out : List Rg} {r : Rg} (h : Fm out) (hr : r.Ok) (he : ∀ a ∈ out, a.e ≤ r.p) : Fm (jn out r) ∧ (∀ a ∈ jn out r, a.e ≤ r.e) ∧ ∀ x, at_ (jn out r) x = if has r x then some r.m else at_ out x := by
  have hl := hr.lt
  rcases snoc_cases out with e | ⟨l, a, e⟩
  · subst e
    refine ⟨hr, fun b hb => ?_, fun x => rfl⟩
    rw [List.mem_singleton.1 hb]
    exact Int.le_refl _
  · subst e
    have hae := he a (by simp)
    have ha : a.Ok := h.rs.ok a (by simp)
    have hla := ha.lt
    rw [jn_snoc]
    by_cases c : a.e = r.p ∧ a.m = r.m
    · rw [if_pos c]
      have ho : (⟨a.p, a.n + r.n, a.m⟩ : Rg).Ok := by
        refine ⟨?_, ha.pm⟩
        unfold pgs
        unfold Rg.e at *
        simp only
        omega
      refine ⟨fm_last (a := a) (a' := ⟨a.p, a.n + r.n, a.m⟩) rfl rfl ho h, fun b hb => ?_, fun x => ?_⟩
      · rcases List.mem_append.1 hb with q | q
        · have := he b (List.mem_append_left _ q)
          omega
        · rw [List.mem_singleton.1 q]
          unfold Rg.e at *
          simp only
          omega
      · rw [at_append, at_append, at_one, at_one]
        have hno : ∀ y, r.p ≤ y → at_ l y = none := fun y hy => at_none (fun b hb q => by
          have := he b (List.mem_append_left _ hb)
          unfold has at q
          omega)
        by_cases d : has r x
        · rw [if_pos d, hno x d.1, if_pos (show has ⟨a.p, a.n + r.n, a.m⟩ x by unfold has Rg.e at *; simp only; omega)]
          show some a.m = some r.m
          rw [c.2]
        · rw [if_neg d]
          by_cases d2 : has a x
          · rw [if_pos d2, if_pos (show has ⟨a.p, a.n + r.n, a.m⟩ x by unfold has Rg.e at *; simp only; omega)]
          · rw [if_neg d2, if_neg (show ¬ has ⟨a.p, a.n + r.n, a.m⟩ x by unfold has Rg.e at *; simp only; omega)]
    · rw [if_neg c]
      refine ⟨?_, fun b hb => ?_, fun x => ?_⟩
      · rw [fm_join]
        refine ⟨h, ?_, hr⟩
        unfold Ap
        by_cases q : a.e = r.p
        · exact Or.inr ⟨q, fun z => c ⟨q, z⟩⟩
        · exact Or.inl (by omega)
      · rcases List.mem_append.1 hb with q | q
        · have := he b (List.mem_append_left _ q)
          omega
        · rcases List.mem_cons.1 q with q | q
          · rw [q]; omega
          · rw [List.mem_singleton.1 q]; exact Int.le_refl _
      · rw [show l ++ [a, r] = (l ++ [a]) ++ [r] by simp, at_append, at_one]
        by_cases d : has r x
        · rw [if_pos d, if_pos d, at_none (fun b hb q => by
            have := he b hb
            unfold has at *
            omega)]
          rfl
        · rw [if_neg d, if_neg d]
          cases at_ (l ++ [a]) x <;> rfl
/-- Rising pieces in the one form. -/
def jnd (l : List Rg) : List Rg := l.foldl jn []
theorem fold_ok : ∀ {l out : List Rg}, Fm out → Rs l → (∀ a ∈ out, ∀ r ∈ l, a.e ≤ r.p) → Fm (l.foldl jn out) ∧ ∀ x, at_ (l.foldl jn out) x = (at_ l x).or (at_ out x)
  | [], out, h, _, _ => ⟨h, fun x => by simp [at_]⟩
  | r :: l, out, h, hr, he => by
    obtain ⟨j1, j2, j3⟩ := jn_ok h hr.head (fun a ha => he a ha r List.mem_cons_self)
    have hall := hr.all
    obtain ⟨k1, k2⟩ := fold_ok (l := l) j1 hr.tail (fun a ha q hq => Int.le_trans (j2 a ha) (hall q hq))
    refine ⟨k1, fun x => ?_⟩
    show at_ (l.foldl jn (jn out r)) x = _
    rw [k2 x, j3 x]
    show _ = (if has r x then some r.m else at_ l x).or (at_ out x)
    by_cases c : has r x
    · rw [if_pos c, if_pos c, at_none (fun q hq z => by
        have := hall q hq
        unfold has at *
        omega)]
      rfl
    · rw [if_neg c, if_neg c]
theorem jnd_ok {l : List Rg} (h : Rs l) : Fm (jnd l) ∧ ∀ x, at_ (jnd l) x = at_ l x := by
  obtain ⟨h1, h2⟩ := fold_ok (out := []) trivial h (fun a ha => absurd ha List.not_mem_nil)
  refine ⟨h1, fun x => (h2 x).trans ?_⟩
  show (at_ l x).or none = _
  cases at_ l x <;> rfl
/-- What of a region lies from a page up to one. -/
def part (f t : Int) (r : Rg) : Option Rg := if max r.p f ≥ min r.e t then none else some ⟨max r.p f, min r.e t - max r.p f, r.m⟩
def btw (l : List Rg) (f t : Int) : List Rg := l.filterMap (part f t)
theorem part_some {f t : Int} {r q : Rg} (h : part f t r = some q) : q.p = max r.p f ∧ q.e = min r.e t ∧ q.m = r.m ∧ q.p < q.e := by
  unfold part at h
  split at h
  · exact absurd h nofun
  · rename_i c
    have e := Option.some.inj h
    subst e
    refine ⟨rfl, ?_, rfl, ?_⟩
    · show max r.p f + (min r.e t - max r.p f) = _
      omega
    · show max r.p f < max r.p f + (min r.e t - max r.p f)
      omega
theorem btw_at (f t x : Int) : ∀ l : List Rg, at_ (btw l f t) x = if f ≤ x ∧ x < t then at_ l x else none
  | [] => by simp [btw, at_]
  | r :: l => by
    have ih := btw_at f t x l
    unfold btw at *
    rw [List.filterMap_cons]
    cases hp : part f t r with
    | none =>
      simp only
      rw [ih]
      by_cases c : f ≤ x ∧ x < t
      · rw [if_pos c, if_pos c]
        show _ = if has r x then some r.m else at_ l x
        rw [if_neg]
        intro q
        unfold part at hp
        split at hp
        · unfold has Rg.e at *; omega
        · exact absurd hp nofun
      · rw [if_neg c, if_neg c]
    | some q =>
      simp only
      obtain ⟨q1, q2, q3, _⟩ := part_some hp
      show (if has q x then some q.m else at_ (List.filterMap (part f t) l) x) = if f ≤ x ∧ x < t then (if has r x then some r.m else at_ l x) else none
      rw [ih]
      by_cases c : f ≤ x ∧ x < t
      · rw [if_pos c, if_pos c]
        by_cases d : has r x
        · rw [if_pos d, if_pos (show has q x by unfold has at *; omega), q3]
        · rw [if_neg d, if_neg (show ¬ has q x by unfold has at *; omega)]
      · rw [if_neg c, if_neg (show ¬ has q x by unfold has at *; omega), if_neg c]
theorem btw_in {f t : Int} {l : List Rg} {q : Rg} (h : q ∈ btw l f t) : f ≤ q.p ∧ q.e ≤ t := by
  obtain ⟨r, _, hr⟩ := List.mem_filterMap.1 h
  obtain ⟨q1, q2, _⟩ := part_some hr
  omega
theorem btw_rs {f t : Int} {l : List Rg} (h : Rs l) : Rs (btw l f t) := by
  obtain ⟨h1, h2⟩ := rs_iff.1 h
  refine rs_iff.2 ⟨fun q hq => ?_, ?_⟩
  · obtain ⟨r, hr, hq⟩ := List.mem_filterMap.1 hq
    obtain ⟨q1, q2, q3, q4⟩ := part_some hq
    have := (h1 r hr).lt
    refine ⟨?_, by rw [q3]; exact (h1 r hr).pm⟩
    unfold pgs
    unfold Rg.e at *
    omega
  · unfold btw
    rw [List.pairwise_filterMap]
    refine h2.imp (fun {a b} hab q hq z hz => ?_)
    have := part_some hq
    have := part_some hz
    omega
/-- A list, what it has from a page up to one being other pieces. -/
def wth (l : List Rg) (s n : Int) (ins : List Rg) : List Rg := jnd (btw l 0 s ++ ins ++ btw l (s + n) 1048576)
theorem rs_append {l k : List Rg} (hl : Rs l) (hk : Rs k) (h : ∀ a ∈ l, ∀ b ∈ k, a.e ≤ b.p) : Rs (l ++ k) := by
  obtain ⟨l1, l2⟩ := rs_iff.1 hl
  obtain ⟨k1, k2⟩ := rs_iff.1 hk
  exact rs_iff.2 ⟨fun r hr => (List.mem_append.1 hr).elim (l1 r) (k1 r), List.pairwise_append.2 ⟨l2, k2, h⟩⟩
theorem at_bd {l : List Rg} (h : Rs l) {x : Int} (hx : x < 1 ∨ 1048576 ≤ x) : at_ l x = none :=
  at_none (fun r hr q => by
    have := (h.ok r hr).lt
    unfold has at q
    omega)
theorem wth_ok {l ins : List Rg} {s n : Int} (h : Rs l) (hp : pgs s n) (hi : Rs ins) (hin : ∀ r ∈ ins, s ≤ r.p ∧ r.e ≤ s + n) : Fm (wth l s n ins) ∧ ∀ x, at_ (wth l s n ins) x = if s ≤ x ∧ x < s + n then at_ ins x else at_ l x := by
  have hs : Rs (btw l 0 s ++ ins ++ btw l (s + n) 1048576) := by
    refine rs_append (rs_append (btw_rs h) hi (fun a ha b hb => ?_)) (btw_rs h) (fun a ha b hb => ?_)
    · have := btw_in ha
      have := hin b hb
      omega
    · have := btw_in hb
      rcases List.mem_append.1 ha with q | q
      · have := btw_in q
        unfold pgs at hp
        omega
      · have := hin a q
        omega
  obtain ⟨j1, j2⟩ := jnd_ok hs
  refine ⟨j1, fun x => (j2 x).trans ?_⟩
  rw [at_append, at_append, btw_at, btw_at]
  unfold pgs at hp
  have hno : ∀ y, (y < s ∨ s + n ≤ y) → at_ ins y = none := fun y hy => at_none (fun r hr q => by
    have := hin r hr
    unfold has at q
    omega)
  by_cases c : s ≤ x ∧ x < s + n
  · rw [if_pos c, if_neg (by omega), if_neg (by omega)]
    cases at_ ins x <;> rfl
  · rw [if_neg c, hno x (by omega)]
    by_cases c1 : x < s
    · by_cases c2 : 0 ≤ x
      · rw [if_pos ⟨c2, c1⟩, if_neg (by omega)]
        cases at_ l x <;> rfl
      · rw [if_neg (by omega), if_neg (by omega), at_bd h (Or.inl (by omega))]
        rfl
    · by_cases c2 : x < 1048576
      · rw [if_neg (by omega), if_pos ⟨by omega, c2⟩]
        rfl
      · rw [if_neg (by omega), if_neg (by omega), at_bd h (Or.inr (by omega))]
        rfl
end Go.Proofs.Ytmhfgfgiiinpjab.V
