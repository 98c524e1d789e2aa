/- What follows for lists of regions: there and back, either order, page by page, the least gap; no condition but those named. -/
import Derived.Test.YtmhfgfgiiinpjabVc
namespace Go.Proofs.Ytmhfgfgiiinpjab.V
set_option linter.unusedVariables false
theorem ans_ok {l : List Rg} (h : l.length ≤ 1024) : ans l = (l, 0) := by
  unfold ans
  rw [if_neg (by omega)]
theorem ans_zero {l a : List Rg} (h : ans l = (a, 0)) : l = a ∧ a.length ≤ 1024 := by
  unfold ans at h
  split at h
  · exact absurd (Prod.mk.inj h).2 (by decide)
  · have := (Prod.mk.inj h).1
    subst this
    exact ⟨rfl, by omega⟩
theorem May.len {l : List Rg} (h : May l) : l.length ≤ 1024 := h.1
/-! ### Which answer there is -/
theorem puV_ok {l : List Rg} {r : Rg} (h : May l) (hr : r.Ok) (hb : ∀ x, has r x → at_ l x = none) : puV l r = ans (wth l r.p r.n [r]) := by
  unfold puV
  rw [if_neg (by rw [chk_may.2 h]; decide), if_neg (fun q => q hr), if_neg]
  rw [Decidable.not_not, btw_nil h.2.rs]
  exact fun x h1 h2 => hb x ⟨h1, h2⟩
theorem puV_busy {l : List Rg} {r : Rg} (h : May l) (hr : r.Ok) {x : Int} (hx : has r x) (hb : at_ l x ≠ none) : puV l r = ([], 171) := by
  unfold puV
  rw [if_neg (by rw [chk_may.2 h]; decide), if_neg (fun q => q hr), if_pos]
  rw [ne_eq, btw_nil h.2.rs]
  exact fun q => hb (q x hx.1 hx.2)
theorem cuV_ok {l : List Rg} {s n : Int} (h : May l) (hp : pgs s n) : cuV l s n = ans (wth l s n []) := by
  unfold cuV
  rw [if_neg (by rw [chk_may.2 h]; decide), if_neg (fun q => q hp)]
theorem prV_ok {l : List Rg} {s n m : Int} (h : May l) (hr : (⟨s, n, m⟩ : Rg).Ok) (hb : ∀ x, s ≤ x → x < s + n → at_ l x ≠ none) : prV l s n m = ans (wth l s n [⟨s, n, m⟩]) := by
  unfold prV
  rw [if_neg (by rw [chk_may.2 h]; decide), if_neg (fun q => q hr), if_neg]
  rw [Decidable.not_not]
  exact (tot_btw h.2.rs hr.pg.2.2.1).2 hb
theorem prV_fault {l : List Rg} {s n m : Int} (h : May l) (hr : (⟨s, n, m⟩ : Rg).Ok) {x : Int} (h1 : s ≤ x) (h2 : x < s + n) (hb : at_ l x = none) : prV l s n m = ([], 170) := by
  unfold prV
  rw [if_neg (by rw [chk_may.2 h]; decide), if_neg (fun q => q hr), if_pos]
  rw [ne_eq, tot_btw h.2.rs hr.pg.2.2.1]
  exact fun q => q x h1 h2 hb
/-! ### What an answer without an error tells -/
theorem puV_get {l a : List Rg} {r : Rg} (h : puV l r = (a, 0)) : May l ∧ r.Ok ∧ (∀ x, has r x → at_ l x = none) ∧ May a ∧ Is a (tn (at_ l) r.p r.n (some r.m)) := by
  unfold puV at h
  by_cases c : chk l ≠ 0
  · rw [if_pos c] at h
    exact absurd (Prod.mk.inj h).2 c
  · rw [if_neg c] at h
    have hm : May l := chk_may.1 (Decidable.not_not.1 c)
    by_cases d : ¬ r.Ok
    · rw [if_pos d] at h
      exact absurd (Prod.mk.inj h).2 (by decide)
    · rw [if_neg d] at h
      have d := Decidable.not_not.1 d
      by_cases e : btw l r.p r.e ≠ []
      · rw [if_pos e] at h
        exact absurd (Prod.mk.inj h).2 (by decide)
      · rw [if_neg e] at h
        have e := Decidable.not_not.1 e
        obtain ⟨h1, h2⟩ := ans_zero h
        have hi := wth_in (l := l) (s := r.p) (n := r.n) (m := r.m) hm.2 d
        rw [show wth l r.p r.n [⟨r.p, r.n, r.m⟩] = a from h1] at hi
        exact ⟨hm, d, fun x hx => (btw_nil hm.2.rs).1 e x hx.1 hx.2, ⟨h2, hi.fm⟩, hi⟩
theorem cuV_get {l a : List Rg} {s n : Int} (h : cuV l s n = (a, 0)) : May l ∧ pgs s n ∧ May a ∧ Is a (tn (at_ l) s n none) := by
  unfold cuV at h
  by_cases c : chk l ≠ 0
  · rw [if_pos c] at h
    exact absurd (Prod.mk.inj h).2 c
  · rw [if_neg c] at h
    have hm : May l := chk_may.1 (Decidable.not_not.1 c)
    by_cases d : ¬ pgs s n
    · rw [if_pos d] at h
      exact absurd (Prod.mk.inj h).2 (by decide)
    · rw [if_neg d] at h
      have d := Decidable.not_not.1 d
      obtain ⟨h1, h2⟩ := ans_zero h
      have hi := wth_out (l := l) hm.2 d
      rw [h1] at hi
      exact ⟨hm, d, ⟨h2, hi.fm⟩, hi⟩
theorem prV_get {l a : List Rg} {s n m : Int} (h : prV l s n m = (a, 0)) : May l ∧ (⟨s, n, m⟩ : Rg).Ok ∧ (∀ x, s ≤ x → x < s + n → at_ l x ≠ none) ∧ May a ∧ Is a (tn (at_ l) s n (some m)) := by
  unfold prV at h
  by_cases c : chk l ≠ 0
  · rw [if_pos c] at h
    exact absurd (Prod.mk.inj h).2 c
  · rw [if_neg c] at h
    have hm : May l := chk_may.1 (Decidable.not_not.1 c)
    by_cases d : ¬ (⟨s, n, m⟩ : Rg).Ok
    · rw [if_pos d] at h
      exact absurd (Prod.mk.inj h).2 (by decide)
    · rw [if_neg d] at h
      have d := Decidable.not_not.1 d
      by_cases e : tot (btw l s (s + n)) ≠ n
      · rw [if_pos e] at h
        exact absurd (Prod.mk.inj h).2 (by decide)
      · rw [if_neg e] at h
        have e := Decidable.not_not.1 e
        obtain ⟨h1, h2⟩ := ans_zero h
        have hi := wth_in (l := l) hm.2 d
        rw [h1] at hi
        exact ⟨hm, d, (tot_btw hm.2.rs d.pg.2.2.1).1 e, ⟨h2, hi.fm⟩, hi⟩
/-- An answer that is a list that may be: it is the one list with these pages. -/
theorem ans_is {k a : List Rg} {F : Int → Option Int} (h : Is k F) (g : Is a F) (hl : a.length ≤ 1024) : ans k = (a, 0) := by
  rw [h.uniq g, ans_ok hl]
theorem May.is {l : List Rg} (h : May l) : Is l (at_ l) := ⟨h.2, fun _ => rfl⟩
theorem tn_tn (F : Int → Option Int) (s n : Int) (u v : Option Int) (x : Int) : tn (tn F s n u) s n v x = tn F s n v x := by
  unfold tn
  split <;> rfl
theorem tn_back {F : Int → Option Int} {s n : Int} (u : Option Int) (h : ∀ x, s ≤ x → x < s + n → F x = none) (x : Int) : tn (tn F s n u) s n none x = F x := by
  unfold tn
  by_cases c : s ≤ x ∧ x < s + n
  · rw [if_pos c, h x c.1 c.2]
  · rw [if_neg c, if_neg c]
/-- Cut of what was put is what was there; Protect with the same permission changes nothing. -/
theorem back {l a : List Rg} {r : Rg} (h : puV l r = (a, 0)) : cuV a r.p r.n = (l, 0) ∧ prV a r.p r.n r.m = (a, 0) := by
  obtain ⟨hm, hr, hb, ha, hi⟩ := puV_get h
  constructor
  · rw [cuV_ok ha hr.pg]
    refine ans_is (wth_out ha.2 hr.pg) (hm.is.congr (fun x => ?_)) hm.1
    have : tn (at_ a) r.p r.n none x = tn (tn (at_ l) r.p r.n (some r.m)) r.p r.n none x := by
      unfold tn
      split
      · rfl
      · rename_i c
        rw [hi.eq x]
        unfold tn
        rw [if_neg c]
    rw [this, tn_back _ (fun x h1 h2 => hb x ⟨h1, h2⟩)]
  · rw [prV_ok ha (show (⟨r.p, r.n, r.m⟩ : Rg).Ok from hr) (fun x h1 h2 => by
      rw [hi.eq x]
      unfold tn
      rw [if_pos ⟨h1, h2⟩]
      exact nofun)]
    refine ans_is (wth_in ha.2 hr) (ha.is.congr (fun x => ?_)) ha.1
    rw [hi.eq x]
    unfold tn
    split
    · rfl
    · rename_i c
      rw [hi.eq x]
      unfold tn
      rw [if_neg c]
/-- Twice the same Cut is as one. -/
theorem cut_twice {l a : List Rg} {s n : Int} (h : cuV l s n = (a, 0)) : cuV a s n = (a, 0) := by
  obtain ⟨hm, hp, ha, hi⟩ := cuV_get h
  rw [cuV_ok ha hp]
  refine ans_is (wth_out ha.2 hp) (ha.is.congr (fun x => ?_)) ha.1
  rw [hi.eq x]
  unfold tn
  split
  · rfl
  · rename_i c
    rw [hi.eq x]
    unfold tn
    rw [if_neg c]
/-- Of two Protects of the same pages the last one counts. -/
theorem protect_last {l a b : List Rg} {s n m k : Int} (h : prV l s n m = (a, 0)) (g : prV l s n k = (b, 0)) : prV a s n k = (b, 0) := by
  obtain ⟨hm, hr, hf, ha, hi⟩ := prV_get h
  obtain ⟨_, hr2, _, hb, hj⟩ := prV_get g
  rw [prV_ok ha hr2 (fun x h1 h2 => by
    rw [hi.eq x]
    unfold tn
    rw [if_pos ⟨h1, h2⟩]
    exact nofun)]
  refine ans_is (wth_in ha.2 hr2) (hb.is.congr (fun x => ?_)) hb.1
  rw [hj.eq x]
  unfold tn
  split
  · rfl
  · rename_i c
    rw [hi.eq x]
    unfold tn
    rw [if_neg c]
theorem puV_len {l a : List Rg} {r : Rg} (h : puV l r = (a, 0)) : a.length ≤ l.length + 2 := by
  have g := puV_get h
  have e := puV_ok g.1 g.2.1 g.2.2.1
  rw [h] at e
  obtain ⟨e1, _⟩ := ans_zero e.symm
  rw [← e1]
  have hn := g.2.1.pg.2.2.1
  have := wth_len (l := l) (ins := [r]) (s := r.p) (n := r.n) g.1.2.rs (by omega)
  simpa using this
theorem cut_len {l : List Rg} {s n : Int} (h : May l) (hp : pgs s n) (hl : l.length ≤ 1000) : ∃ a, cuV l s n = (a, 0) := by
  have hn := hp.2.2.1
  have := wth_len (l := l) (ins := []) (s := s) (n := n) h.2.rs (by omega)
  simp only [List.length_nil] at this
  exact ⟨_, (cuV_ok h hp).trans (ans_ok (by omega))⟩
/-- Two regions that have nothing together put in either order, and taken out again. -/
theorem put_both {l a b : List Rg} {r q : Rg} (h : puV l r = (a, 0)) (g : puV l q = (b, 0)) (hap : r.e ≤ q.p ∨ q.e ≤ r.p) (hl : l.length ≤ 900) :
    ∃ c, puV a q = (c, 0) ∧ puV b r = (c, 0) ∧ cuV c r.p r.n = (b, 0) ∧ cuV c q.p q.n = (a, 0) ∧ cuV a r.p r.n = (l, 0) ∧ cuV b q.p q.n = (l, 0) := by
  have la := puV_len h
  have lb := puV_len g
  obtain ⟨hm, hr, hf, ha, hi⟩ := puV_get h
  obtain ⟨_, hq, hf2, hb, hj⟩ := puV_get g
  have o1 := hr.lt
  have o2 := hq.lt
  have hqa : ∀ x, has q x → at_ a x = none := fun x hx => by
    rw [hi.eq x]
    unfold tn
    rw [if_neg (by unfold has Rg.e at *; omega)]
    exact hf2 x hx
  have hrb : ∀ x, has r x → at_ b x = none := fun x hx => by
    rw [hj.eq x]
    unfold tn
    rw [if_neg (by unfold has Rg.e at *; omega)]
    exact hf x hx
  have e1 := puV_ok ha hq hqa
  have e2 := puV_ok hb hr hrb
  have i1 := wth_in (l := a) (s := q.p) (n := q.n) (m := q.m) ha.2 hq
  have i2 := wth_in (l := b) (s := r.p) (n := r.n) (m := r.m) hb.2 hr
  have l1 := wth_len (l := a) (ins := [q]) (s := q.p) (n := q.n) ha.2.rs (by have := hq.pg.2.2.1; omega)
  simp only [List.length_cons, List.length_nil] at l1
  have eq : wth b r.p r.n [r] = wth a q.p q.n [q] := by
    refine Is.uniq i2 (i1.congr (fun x => ?_))
    unfold tn
    rw [hi.eq x, hj.eq x]
    unfold tn
    by_cases c1 : r.p ≤ x ∧ x < r.p + r.n
    · rw [if_pos c1, if_pos c1, if_neg (by unfold Rg.e at *; omega)]
    · rw [if_neg c1, if_neg c1]
  have p1 : puV a q = (wth a q.p q.n [q], 0) := e1.trans (ans_ok (by omega))
  have p2 : puV b r = (wth a q.p q.n [q], 0) := by rw [e2, eq]; exact ans_ok (by omega)
  exact ⟨_, p1, p2, (back p2).1, (back p1).1, (back h).1, (back g).1⟩
/-! ### Gaps -/
/-- A place from which n pages lie within from and to, none of them mapped. -/
structure Gp (l : List Rg) (n f t p : Int) : Prop where
  lo : f ≤ p
  hi : p ≤ t - n
  no : ∀ x, p ≤ x → x < p + n → at_ l x = none
/-- Ahead of a gap there is one that begins at from or at a region's end. -/
theorem gap_cand {n f t q : Int} (hn : 1 ≤ n) : ∀ {l : List Rg}, Rs l → Gp l n f t q → ∃ c, (c = f ∨ ∃ r ∈ l, c = r.e) ∧ c ≤ q ∧ Gp l n f t c := by
  intro l hl hg
  -- the greatest of from and of the ends up to q
  have key : ∀ k : List Rg, (∀ r ∈ k, r ∈ l) → ∃ c, (c = f ∨ ∃ r ∈ l, c = r.e) ∧ f ≤ c ∧ c ≤ q ∧ ∀ r ∈ k, r.e ≤ q → r.e ≤ c := by
    intro k
    induction k with
    | nil => exact fun _ => ⟨f, Or.inl rfl, Int.le_refl _, hg.lo, fun r hr => absurd hr List.not_mem_nil⟩
    | cons a k ih =>
      intro hk
      obtain ⟨c, c1, c2, c3, c4⟩ := ih (fun r hr => hk r (List.mem_cons_of_mem _ hr))
      by_cases d : a.e ≤ q ∧ c ≤ a.e
      · refine ⟨a.e, Or.inr ⟨a, hk a List.mem_cons_self, rfl⟩, by omega, d.1, fun r hr hq => ?_⟩
        rcases List.mem_cons.1 hr with e | e
        · rw [e]; exact Int.le_refl _
        · have := c4 r e hq; omega
      · refine ⟨c, c1, c2, c3, fun r hr hq => ?_⟩
        rcases List.mem_cons.1 hr with e | e
        · rw [e] at hq ⊢; omega
        · exact c4 r e hq
  obtain ⟨c, c1, c2, c3, c4⟩ := key l (fun r hr => hr)
  refine ⟨c, c1, c3, c2, by have := hg.hi; omega, fun x h1 h2 => ?_⟩
  by_cases d : q ≤ x
  · exact hg.no x d (by omega)
  · refine at_none (fun r hr hx => ?_)
    have h3 := c4 r hr
    by_cases e : r.e ≤ q
    · have := h3 e
      unfold has at hx
      omega
    · have := hg.no q (Int.le_refl _) (by omega)
      rw [hl.at_of hr (x := q) (by unfold has at *; omega)] at this
      exact absurd this nofun
/-- What Gap tells. -/
def GaS (l : List Rg) (n f t : Int) (p : Int) (is : Bool) (e : Int) : Prop :=
  if chk l ≠ 0 then p = 0 ∧ is = false ∧ e = chk l
  else if ¬ ((1 ≤ n ∧ n ≤ 1048576) ∧ (0 ≤ f ∧ f ≤ 1048576) ∧ f ≤ t ∧ t ≤ 1048576) then p = 0 ∧ is = false ∧ e = 2
  else e = 0 ∧ ((is = true ∧ Gp l n f t p ∧ ∀ q, q < p → ¬ Gp l n f t q) ∨ (is = false ∧ p = 0 ∧ ∀ q, ¬ Gp l n f t q))
theorem GaS.uniq {l : List Rg} {n f t p p' : Int} {is is' : Bool} {e e' : Int} (h : GaS l n f t p is e) (g : GaS l n f t p' is' e') : p = p' ∧ is = is' ∧ e = e' := by
  unfold GaS at h g
  split at h
  · rename_i c
    rw [if_pos c] at g
    exact ⟨h.1.trans g.1.symm, h.2.1.trans g.2.1.symm, h.2.2.trans g.2.2.symm⟩
  · rename_i c
    rw [if_neg c] at g
    split at h
    · rename_i d
      rw [if_pos d] at g
      exact ⟨h.1.trans g.1.symm, h.2.1.trans g.2.1.symm, h.2.2.trans g.2.2.symm⟩
    · rename_i d
      rw [if_neg d] at g
      refine ⟨?_, ?_, h.1.trans g.1.symm⟩
      · rcases h.2 with ⟨_, h2, h3⟩ | ⟨_, h2, h3⟩
        · rcases g.2 with ⟨_, g2, g3⟩ | ⟨_, g2, g3⟩
          · have q1 : ¬ p < p' := fun q => g3 p q h2
            have q2 : ¬ p' < p := fun q => h3 p' q g2
            omega
          · exact absurd h2 (g3 p)
        · rcases g.2 with ⟨_, g2, g3⟩ | ⟨_, g2, g3⟩
          · exact absurd g2 (h3 p')
          · rw [h2, g2]
      · rcases h.2 with ⟨h1, h2, h3⟩ | ⟨h1, h2, h3⟩
        · rcases g.2 with ⟨g1, g2, g3⟩ | ⟨g1, g2, g3⟩
          · rw [h1, g1]
          · exact absurd h2 (g3 p)
        · rcases g.2 with ⟨g1, g2, g3⟩ | ⟨g1, g2, g3⟩
          · exact absurd g2 (h3 p')
          · rw [h1, g1]
/-- A gap's pages can be put. -/
theorem gap_put {l : List Rg} {n f t p : Int} (h : May l) (ht : t ≤ 1048576) (hn : 1 ≤ n) (hp : 0 < p) (g : Gp l n f t p) : (puV l ⟨p, n, 0⟩).2 = 0 ∨ (puV l ⟨p, n, 0⟩).2 = 3 := by
  have h1 := g.hi
  rw [puV_ok (r := ⟨p, n, 0⟩) h ⟨by unfold pgs; simp only; omega, Or.inl rfl⟩ (fun x hx => g.no x hx.1 hx.2)]
  unfold ans
  split
  · exact Or.inr rfl
  · exact Or.inl rfl
theorem gap_busy {l : List Rg} {n f t q p : Int} (h : May l) (ht : t ≤ 1048576) (hn : 1 ≤ n) (hq : 1 ≤ q) (hf : f ≤ q) (hqp : q < p) (g : Gp l n f t p) (hle : ∀ q, q < p → ¬ Gp l n f t q) : puV l ⟨q, n, 0⟩ = ([], 171) := by
  have h1 := g.hi
  have : ∃ x, has ⟨q, n, 0⟩ x ∧ at_ l x ≠ none := by
    apply Classical.byContradiction
    intro c
    refine hle q hqp ⟨hf, by omega, fun x a b => ?_⟩
    apply Classical.byContradiction
    intro d
    exact c ⟨x, ⟨a, b⟩, d⟩
  obtain ⟨x, hx, hb⟩ := this
  exact puV_busy h ⟨by unfold pgs; simp only; omega, Or.inl rfl⟩ hx hb
/-! ### Within the pages below 60 -/
theorem is_in {l : List Rg} {F : Int → Option Int} (h : Is l F) {u : Int} (hF : ∀ x, F x ≠ none → x < u) : ∀ r ∈ l, r.e ≤ u := fun r hr => by
  have ho := (h.fm.rs.ok r hr).lt
  have := hF (r.e - 1) (by
    rw [← h.eq, h.fm.rs.at_of hr (x := r.e - 1) (by unfold has; omega)]
    exact nofun)
  omega
theorem is_tot {l : List Rg} {F : Int → Option Int} (h : Is l F) {u : Nat} (hF : ∀ x, F x ≠ none → x < u) : tot l = cnt F 0 u := by
  rw [tot_cnt (a := 0) (k := u) h.fm.rs (fun r hr => by
    have h1 := is_in h hF r hr
    have h2 := (h.fm.rs.ok r hr).lt
    omega), cnt_congr (G := F) (fun x _ _ => by rw [h.eq x])]
theorem is_len {l : List Rg} {F : Int → Option Int} (h : Is l F) {u : Nat} (hF : ∀ x, F x ≠ none → x < u) : l.length ≤ u := by
  have h1 := is_tot h hF
  have h2 := len_tot h.fm.rs
  have h3 := cnt_le F 0 u
  omega
theorem is_may {l : List Rg} {F : Int → Option Int} (h : Is l F) (hF : ∀ x, F x ≠ none → x < 60) : May l := ⟨by have := is_len (u := 60) h hF; omega, h.fm⟩
theorem tn_in {F : Int → Option Int} {s n u : Int} {v : Option Int} (hF : ∀ x, F x ≠ none → x < u) (hs : s + n ≤ u) : ∀ x, tn F s n v x ≠ none → x < u := fun x hx => by
  unfold tn at hx
  by_cases c : s ≤ x ∧ x < s + n
  · omega
  · rw [if_neg c] at hx
    exact hF x hx
theorem put60 {l : List Rg} {F : Int → Option Int} (h : Is l F) (hF : ∀ x, F x ≠ none → x < 60) {s n m : Int} (h1 : 1 ≤ s) (h2 : 1 ≤ n) (h3 : s + n ≤ 60) (hm : prm m) :
    (∃ x, s ≤ x ∧ x < s + n ∧ F x ≠ none) ∧ puV l ⟨s, n, m⟩ = ([], 171) ∨ (∀ x, s ≤ x → x < s + n → F x = none) ∧ ∃ k, puV l ⟨s, n, m⟩ = (k, 0) ∧ Is k (tn F s n (some m)) := by
  have hr : (⟨s, n, m⟩ : Rg).Ok := ⟨by unfold pgs; simp only; omega, hm⟩
  have hM := is_may h hF
  by_cases c : ∃ x, s ≤ x ∧ x < s + n ∧ F x ≠ none
  · obtain ⟨x, a, b, d⟩ := c
    exact Or.inl ⟨⟨x, a, b, d⟩, puV_busy hM hr (x := x) ⟨a, b⟩ (by rw [h.eq x]; exact d)⟩
  · have hn : ∀ x, s ≤ x → x < s + n → F x = none := fun x a b => Classical.byContradiction (fun d => c ⟨x, a, b, d⟩)
    have hi := (wth_in (l := l) hM.2 hr).congr (G := tn F s n (some m)) (fun x => by unfold tn; rw [h.eq x])
    have hk := is_may hi (tn_in hF h3)
    refine Or.inr ⟨hn, _, ?_, hi⟩
    rw [puV_ok hM hr (fun x hx => by rw [h.eq x]; exact hn x hx.1 hx.2)]
    exact ans_ok hk.1
theorem cut60 {l : List Rg} {F : Int → Option Int} (h : Is l F) (hF : ∀ x, F x ≠ none → x < 60) {s n : Int} (h1 : 1 ≤ s) (h2 : 1 ≤ n) (h3 : s + n ≤ 60) : ∃ k, cuV l s n = (k, 0) ∧ Is k (tn F s n none) := by
  have hp : pgs s n := by unfold pgs; omega
  have hM := is_may h hF
  have hi := (wth_out (l := l) hM.2 hp).congr (G := tn F s n none) (fun x => by unfold tn; rw [h.eq x])
  have hk := is_may hi (tn_in hF h3)
  exact ⟨_, (cuV_ok hM hp).trans (ans_ok hk.1), hi⟩
theorem protect60 {l : List Rg} {F : Int → Option Int} (h : Is l F) (hF : ∀ x, F x ≠ none → x < 60) {s n m : Int} (h1 : 1 ≤ s) (h2 : 1 ≤ n) (h3 : s + n ≤ 60) (hm : prm m) :
    (∃ x, s ≤ x ∧ x < s + n ∧ F x = none) ∧ prV l s n m = ([], 170) ∨ (∀ x, s ≤ x → x < s + n → F x ≠ none) ∧ ∃ k, prV l s n m = (k, 0) ∧ Is k (tn F s n (some m)) := by
  have hr : (⟨s, n, m⟩ : Rg).Ok := ⟨by unfold pgs; simp only; omega, hm⟩
  have hM := is_may h hF
  by_cases c : ∃ x, s ≤ x ∧ x < s + n ∧ F x = none
  · obtain ⟨x, a, b, d⟩ := c
    exact Or.inl ⟨⟨x, a, b, d⟩, prV_fault hM hr a b (by rw [h.eq x]; exact d)⟩
  · have hn : ∀ x, s ≤ x → x < s + n → F x ≠ none := fun x a b d => c ⟨x, a, b, d⟩
    have hi := (wth_in (l := l) hM.2 hr).congr (G := tn F s n (some m)) (fun x => by unfold tn; rw [h.eq x])
    have hk := is_may hi (tn_in hF h3)
    refine Or.inr ⟨hn, _, ?_, hi⟩
    rw [prV_ok hM hr (fun x a b => by rw [h.eq x]; exact hn x a b)]
    exact ans_ok hk.1
end Go.Proofs.Ytmhfgfgiiinpjab.V
