/- What the program's own way of cutting comes to: lists parted at a page, joined again; finding, gaps; no condition but those named. -/
import Derived.Test.YtmhfgfgiiinpjabVd
namespace Go.Proofs.Ytmhfgfgiiinpjab.V
set_option linter.unusedVariables false
theorem Rg.ext' {a b : Rg} (h1 : a.p = b.p) (h2 : a.n = b.n) (h3 : a.m = b.m) : a = b := by
  cases a; cases b; simp only at h1 h2 h3; subst h1 h2 h3; rfl
/-! ### Parted at a page -/
theorem part_all {f t : Int} {r : Rg} (h : r.Ok) (h1 : f ≤ r.p) (h2 : r.e ≤ t) : part f t r = some r := by
  have := h.lt
  unfold part
  rw [if_neg (by omega)]
  refine congrArg some (Rg.ext' ?_ ?_ rfl)
  · show max r.p f = r.p; omega
  · show min r.e t - max r.p f = r.n; unfold Rg.e at *; omega
theorem part_out {f t : Int} {r : Rg} (h : r.e ≤ f ∨ t ≤ r.p) : part f t r = none := by
  unfold part
  rw [if_pos (by omega)]
theorem btw_append (l k : List Rg) (f t : Int) : btw (l ++ k) f t = btw l f t ++ btw k f t := by
  unfold btw
  exact List.filterMap_append
theorem btw_all {f t : Int} : ∀ {l : List Rg}, (∀ r ∈ l, r.Ok ∧ f ≤ r.p ∧ r.e ≤ t) → btw l f t = l
  | [], _ => rfl
  | r :: l, h => by
    have h1 := h r List.mem_cons_self
    have ih := btw_all (l := l) (fun q hq => h q (List.mem_cons_of_mem _ hq))
    unfold btw at *
    rw [List.filterMap_cons, part_all h1.1 h1.2.1 h1.2.2]
    simp only [ih]
theorem btw_out {f t : Int} {l : List Rg} (h : ∀ r ∈ l, r.e ≤ f ∨ t ≤ r.p) : btw l f t = [] :=
  List.filterMap_eq_nil_iff.2 (fun r hr => part_out (h r hr))
/-- The place of the first region that ends behind a page. -/
structure Rch (l : List Rg) (x : Int) (k : Nat) : Prop where
  le : k ≤ l.length
  lo : ∀ r ∈ l.take k, r.e ≤ x
  hi : ∀ r ∈ l.drop k, x < r.e
theorem Rch.len {l : List Rg} {x : Int} (h : Rs l) (hx : 0 ≤ x ∧ x ≤ 1048576) (c : Rch l x l.length) : btw l 0 x = l ∧ btw l x 1048576 = [] := by
  have hlo : ∀ r ∈ l, r.e ≤ x := fun r hr => c.lo r (by rw [List.take_length]; exact hr)
  refine ⟨btw_all (fun r hr => ?_), btw_out (fun r hr => Or.inl (hlo r hr))⟩
  have := h.ok r hr
  have := this.lt
  exact ⟨h.ok r hr, by omega, hlo r hr⟩
theorem Rs.append {l k : List Rg} (h : Rs (l ++ k)) : Rs l ∧ Rs k := by
  obtain ⟨h1, h2⟩ := rs_iff.1 h
  obtain ⟨h3, h4, _⟩ := List.pairwise_append.1 h2
  exact ⟨rs_iff.2 ⟨fun r hr => h1 r (List.mem_append_left _ hr), h3⟩, rs_iff.2 ⟨fun r hr => h1 r (List.mem_append_right _ hr), h4⟩⟩
theorem Rch.parts {l : List Rg} {x : Int} {k : Nat} (h : Rs l) (hx : 0 ≤ x ∧ x ≤ 1048576) (c : Rch l x k) (hk : k < l.length) :
    (x ≤ l[k].p → btw l 0 x = l.take k ∧ btw l x 1048576 = l.drop k) ∧
    (l[k].p < x → btw l 0 x = l.take k ++ [⟨l[k].p, x - l[k].p, l[k].m⟩] ∧ btw l x 1048576 = ⟨x, l[k].e - x, l[k].m⟩ :: l.drop (k + 1)) := by
  have e1 : l = l.take k ++ l.drop k := (List.take_append_drop k l).symm
  have e2 : l.drop k = l[k] :: l.drop (k + 1) := List.drop_eq_getElem_cons hk
  have hs : Rs (l.take k) ∧ Rs (l.drop k) := by rw [e1] at h; exact h.append
  have hb := hs.2
  rw [e2] at hb
  have hall := hb.all
  have hbl := hb.head.lt
  have hxb := c.hi l[k] (by rw [e2]; exact List.mem_cons_self)
  have a1 : btw (l.take k) 0 x = l.take k := btw_all (fun r hr => ⟨hs.1.ok r hr, by have := (hs.1.ok r hr).lt; omega, c.lo r hr⟩)
  have a2 : btw (l.take k) x 1048576 = [] := btw_out (fun r hr => Or.inl (c.lo r hr))
  have t1 : btw (l.drop (k + 1)) 0 x = [] := btw_out (fun r hr => Or.inr (by have := hall r hr; omega))
  have t2 : btw (l.drop (k + 1)) x 1048576 = l.drop (k + 1) := btw_all (fun r hr => ⟨hb.tail.ok r hr, by have := hall r hr; omega, (hb.tail.ok r hr).lt.2.2⟩)
  constructor
  · intro hp
    have b1 : btw (l.drop k) 0 x = [] := btw_out (fun r hr => Or.inr (by
      rw [e2] at hr
      rcases List.mem_cons.1 hr with q | q
      · rw [q]; exact hp
      · have := hall r q; omega))
    have b2 : btw (l.drop k) x 1048576 = l.drop k := btw_all (fun r hr => ⟨hs.2.ok r hr, by
      rw [e2] at hr
      rcases List.mem_cons.1 hr with q | q
      · rw [q]; exact hp
      · have := hall r q; omega, (hs.2.ok r hr).lt.2.2⟩)
    constructor
    · conv => lhs; rw [e1]
      rw [btw_append, a1, b1, List.append_nil]
    · conv => lhs; rw [e1]
      rw [btw_append, a2, b2, List.nil_append]
  · intro hp
    have b1 : btw (l.drop k) 0 x = [⟨l[k].p, x - l[k].p, l[k].m⟩] := by
      rw [e2]
      show List.filterMap (part 0 x) (l[k] :: l.drop (k + 1)) = _
      rw [List.filterMap_cons]
      have : part 0 x l[k] = some ⟨l[k].p, x - l[k].p, l[k].m⟩ := by
        unfold part
        rw [if_neg (by omega)]
        refine congrArg some (Rg.ext' ?_ ?_ rfl)
        · show max l[k].p 0 = l[k].p; omega
        · show min l[k].e x - max l[k].p 0 = x - l[k].p; omega
      rw [this]
      show _ :: btw (l.drop (k + 1)) 0 x = _
      rw [t1]
    have b2 : btw (l.drop k) x 1048576 = ⟨x, l[k].e - x, l[k].m⟩ :: l.drop (k + 1) := by
      rw [e2]
      show List.filterMap (part x 1048576) (l[k] :: l.drop (k + 1)) = _
      rw [List.filterMap_cons]
      have : part x 1048576 l[k] = some ⟨x, l[k].e - x, l[k].m⟩ := by
        unfold part
        rw [if_neg (by omega)]
        refine congrArg some (Rg.ext' ?_ ?_ rfl)
        · show max l[k].p x = x; omega
        · show min l[k].e 1048576 - max l[k].p x = l[k].e - x; omega
      rw [this]
      show _ :: btw (l.drop (k + 1)) x 1048576 = _
      rw [t2]
    constructor
    · conv => lhs; rw [e1]
      rw [btw_append, a1, b1]
    · conv => lhs; rw [e1]
      rw [btw_append, a2, b2, List.nil_append]
/-- Parted twice. -/
theorem part_part {f t u : Int} {r : Rg} (h : r.e ≤ u) : (part f u r).bind (part 0 t) = if 0 ≤ f then part f t r else (part f u r).bind (part 0 t) := by
  split
  · rename_i hf
    unfold part
    by_cases c : max r.p f ≥ min r.e u
    · rw [if_pos c, if_pos (by omega)]; rfl
    · rw [if_neg c]
      show (if max (max r.p f) 0 ≥ min (max r.p f + (min r.e u - max r.p f)) t then none else some (⟨max (max r.p f) 0, min (max r.p f + (min r.e u - max r.p f)) t - max (max r.p f) 0, r.m⟩ : Rg)) = _
      by_cases d : max r.p f ≥ min r.e t
      · rw [if_pos d, if_pos (by omega)]
      · rw [if_neg d, if_neg (by omega)]
        refine congrArg some (Rg.ext' ?_ ?_ rfl)
        · show max (max r.p f) 0 = max r.p f; omega
        · show min (max r.p f + (min r.e u - max r.p f)) t - max (max r.p f) 0 = min r.e t - max r.p f; omega
  · rfl
theorem fm_congr {α β : Type} {f g : α → Option β} : ∀ {l : List α}, (∀ r ∈ l, f r = g r) → l.filterMap f = l.filterMap g
  | [], _ => rfl
  | a :: l, h => by rw [List.filterMap_cons, List.filterMap_cons, h a List.mem_cons_self, fm_congr (l := l) (fun r hr => h r (List.mem_cons_of_mem _ hr))]
theorem btw_btw {l : List Rg} (h : Rs l) {f t : Int} (hf : 0 ≤ f) : btw (btw l f 1048576) 0 t = btw l f t := by
  unfold btw
  rw [List.filterMap_filterMap]
  refine fm_congr (fun r hr => ?_)
  have := part_part (f := f) (t := t) (u := 1048576) (h.ok r hr).lt.2.2
  rw [if_pos hf] at this
  exact this
/-! ### Joined again -/
theorem ap_trans {a b c : Rg} (hb : b.Ok) (h1 : Ap a b) (h2 : Ap b c) : Ap a c := by
  have := hb.lt
  unfold Ap at *
  omega
theorem fm_iff : ∀ {l : List Rg}, Fm l ↔ (∀ r ∈ l, r.Ok) ∧ l.Pairwise Ap
  | [] => ⟨fun _ => ⟨fun r hr => absurd hr List.not_mem_nil, List.Pairwise.nil⟩, fun _ => trivial⟩
  | [a] => ⟨fun h => ⟨fun r hr => by rw [List.mem_singleton.1 hr]; exact h, List.pairwise_singleton _ _⟩, fun h => h.1 a List.mem_cons_self⟩
  | a :: b :: t => by
    have ih := fm_iff (l := b :: t)
    constructor
    · intro h
      obtain ⟨i1, i2⟩ := ih.1 h.2.2
      refine ⟨fun r hr => ?_, List.pairwise_cons.2 ⟨fun r hr => ?_, i2⟩⟩
      · rcases List.mem_cons.1 hr with q | q
        · rw [q]; exact h.1
        · exact i1 r q
      · rcases List.mem_cons.1 hr with q | q
        · rw [q]; exact h.2.1
        · exact ap_trans (i1 b List.mem_cons_self) h.2.1 ((List.pairwise_cons.1 i2).1 r q)
    · intro h
      obtain ⟨p1, p2⟩ := List.pairwise_cons.1 h.2
      exact ⟨h.1 a List.mem_cons_self, p1 b List.mem_cons_self, ih.2 ⟨fun r hr => h.1 r (List.mem_cons_of_mem _ hr), p2⟩⟩
theorem btw_fm {l : List Rg} (h : Fm l) (f t : Int) : Fm (btw l f t) := by
  obtain ⟨h1, h2⟩ := fm_iff.1 h
  refine fm_iff.2 ⟨(btw_rs h.rs).ok, ?_⟩
  unfold btw
  rw [List.pairwise_filterMap]
  refine h2.imp (fun {a b} hab q hq z hz => ?_)
  have h3 := part_some hq
  have h4 := part_some hz
  unfold Ap at *
  omega
theorem fold_ap : ∀ {t : List Rg} {a b : Rg} (l : List Rg), Fm (a :: t) → b.e = a.e → b.m = a.m → t.foldl jn (l ++ [b]) = l ++ b :: t
  | [], a, b, l, _, _, _ => rfl
  | c :: t, a, b, l, h, he, hm => by
    have hac := h.2.1
    have e : jn (l ++ [b]) c = l ++ [b] ++ [c] := by
      rw [jn_snoc, if_neg (by unfold Ap at hac; omega)]
      simp
    show t.foldl jn (jn (l ++ [b]) c) = _
    rw [e, fold_ap (l ++ [b]) h.2.2 rfl rfl]
    simp
theorem fold_self {l : List Rg} (h : Fm l) : l.foldl jn [] = l := by
  cases l with
  | nil => rfl
  | cons a t =>
    have := fold_ap (b := a) [] h rfl rfl
    exact this
/-- One list put behind another one, both in the one form. -/
def jo (l k : List Rg) : List Rg := k.foldl jn l
theorem jo_nil (l : List Rg) : jo l [] = l := rfl
theorem jo_none {k : List Rg} (h : Fm k) : jo [] k = k := fold_self h
theorem jo_one {l k : List Rg} {a b : Rg} (h : Fm (b :: k)) (h1 : a.e = b.p) (h2 : a.m = b.m) : jo (l ++ [a]) (b :: k) = l ++ [⟨a.p, a.n + b.n, a.m⟩] ++ k := by
  show k.foldl jn (jn (l ++ [a]) b) = _
  rw [jn_snoc, if_pos ⟨h1, h2⟩, fold_ap (a := b) (b := ⟨a.p, a.n + b.n, a.m⟩) l h (by unfold Rg.e at *; simp only; omega) h2]
  simp
theorem jo_two {l k : List Rg} {a b : Rg} (h : Fm (b :: k)) (h1 : ¬ (a.e = b.p ∧ a.m = b.m)) : jo (l ++ [a]) (b :: k) = l ++ [a] ++ b :: k := by
  show k.foldl jn (jn (l ++ [a]) b) = _
  rw [jn_snoc, if_neg h1, show l ++ [a, b] = (l ++ [a]) ++ [b] by simp, fold_ap (a := b) (l ++ [a]) h rfl rfl]
theorem wth_jo {l ins : List Rg} {s n : Int} (h : Fm l) : wth l s n ins = jo (jo (btw l 0 s) ins) (btw l (s + n) 1048576) := by
  unfold wth jnd jo
  rw [List.foldl_append, List.foldl_append, fold_self (btw_fm h 0 s)]
/-- What is left of a run has no more pages than the run. -/
theorem tot_le {l : List Rg} (h : Rs l) {s n : Int} (hn : 1 ≤ n) : tot (btw l s (s + n)) ≤ n := by
  obtain ⟨k, hk⟩ : ∃ k : Nat, (k : Int) = n := ⟨n.toNat, by omega⟩
  rw [tot_cnt (a := s) (k := k) (btw_rs h) (fun r hr => by have := btw_in hr; omega)]
  have := cnt_le (at_ (btw l s (s + n))) s k
  omega
theorem tot_max {l : List Rg} (h : Rs l) : 0 ≤ tot l ∧ tot l ≤ 1048576 := by
  rw [tot_cnt (a := 0) (k := 1048576) h (fun r hr => by have := (h.ok r hr).lt; omega)]
  have := cnt_le (at_ l) 0 1048576
  omega
theorem tot_take {l : List Rg} (h : Rs l) (k : Nat) : 0 ≤ tot (l.take k) ∧ tot (l.take k) ≤ 1048576 :=
  tot_max (Rs.append (k := l.drop k) (by rw [List.take_append_drop]; exact h)).1
theorem tot_append (l k : List Rg) : tot (l ++ k) = tot l + tot k := by
  induction l with
  | nil => show tot k = 0 + tot k; omega
  | cons a l ih => show a.n + tot (l ++ k) = a.n + tot l + tot k; rw [ih]; omega
theorem tot_succ {l : List Rg} {k : Nat} (hk : k < l.length) : tot (l.take (k + 1)) = tot (l.take k) + l[k].n := by
  rw [List.take_add_one, List.getElem?_eq_getElem hk, tot_append]
  show _ + (l[k].n + 0) = _
  omega
/-! ### Finding -/
def fnd (l : List Rg) (x : Int) : Option Rg := l.find? (fun r => decide (has r x))
theorem at_fnd : ∀ (l : List Rg) (x : Int), at_ l x = (fnd l x).map (·.m)
  | [], _ => rfl
  | r :: l, x => by
    show (if has r x then some r.m else at_ l x) = ((r :: l).find? (fun r => decide (has r x))).map (·.m)
    rw [List.find?_cons]
    by_cases c : has r x
    · rw [if_pos c]; simp [c]
    · rw [if_neg c, at_fnd l x]; simp [c, fnd]
theorem fnd_none {l : List Rg} {x : Int} (h : ∀ r ∈ l, ¬ has r x) : fnd l x = none :=
  List.find?_eq_none.2 (fun r hr => by simpa using h r hr)
theorem Rch.find {l : List Rg} {x : Int} {k : Nat} (h : Rs l) (c : Rch l x k) : (k = l.length → fnd l x = none) ∧ ∀ (hk : k < l.length), (x < l[k].p → fnd l x = none) ∧ (l[k].p ≤ x → fnd l x = some l[k]) := by
  have hlo : ∀ r ∈ l.take k, ¬ has r x := fun r hr q => by have := c.lo r hr; unfold has at q; omega
  constructor
  · intro e
    refine fnd_none (fun r hr => hlo r ?_)
    rw [e, List.take_length]; exact hr
  · intro hk
    have e1 : l = l.take k ++ l.drop k := (List.take_append_drop k l).symm
    have e2 : l.drop k = l[k] :: l.drop (k + 1) := List.drop_eq_getElem_cons hk
    have hb : Rs (l.drop k) := by rw [e1] at h; exact h.append.2
    rw [e2] at hb
    have hall := hb.all
    have hbl := hb.head.lt
    constructor
    · intro hp
      refine fnd_none (fun r hr => ?_)
      rw [e1] at hr
      rcases List.mem_append.1 hr with q | q
      · exact hlo r q
      · rw [e2] at q
        rcases List.mem_cons.1 q with q | q
        · rw [q]; unfold has; omega
        · have := hall r q; unfold has; omega
    · intro hp
      unfold fnd
      conv => lhs; rw [e1]
      rw [List.find?_append, List.find?_eq_none.2 (fun r hr => by simpa using hlo r hr), e2, List.find?_cons]
      have : has l[k] x := ⟨hp, c.hi l[k] (by rw [e2]; exact List.mem_cons_self)⟩
      simp [this]
theorem fnd_mem {l : List Rg} {x : Int} {r : Rg} (h : fnd l x = some r) : r ∈ l := List.mem_of_find?_eq_some h
/-! ### Gaps, as they are looked for -/
def gp (n : Int) : Int → List Rg → Int
  | g, [] => g
  | g, r :: t => if r.p - g ≥ n then g else gp n r.e t
theorem gp_ok {n : Int} (hn : 1 ≤ n) : ∀ {l : List Rg} {g : Int}, Rs l → (∀ r ∈ l, g ≤ r.p) → g ≤ gp n g l ∧ (∀ x, gp n g l ≤ x → x < gp n g l + n → at_ l x = none) ∧ ∀ q, g ≤ q → (∀ x, q ≤ x → x < q + n → at_ l x = none) → gp n g l ≤ q
  | [], g, _, _ => ⟨Int.le_refl _, fun _ _ _ => rfl, fun q h _ => h⟩
  | r :: t, g, h, hg => by
    have hr := h.head.lt
    have hall := h.all
    have hgr := hg r List.mem_cons_self
    unfold gp
    by_cases c : r.p - g ≥ n
    · rw [if_pos c]
      exact ⟨Int.le_refl _, fun x h1 h2 => h.at_lt (by omega), fun q h _ => h⟩
    · rw [if_neg c]
      obtain ⟨i1, i2, i3⟩ := gp_ok hn (l := t) (g := r.e) h.tail hall
      refine ⟨by omega, fun x h1 h2 => ?_, fun q hq hx => ?_⟩
      · show (if has r x then some r.m else at_ t x) = none
        rw [if_neg (by unfold has; omega)]
        exact i2 x h1 h2
      · have hqe : r.e ≤ q := by
          apply Classical.byContradiction
          intro z
          have : ∃ x, q ≤ x ∧ x < q + n ∧ has r x := by
            by_cases d : r.p ≤ q
            · exact ⟨q, Int.le_refl _, by omega, by unfold has; omega⟩
            · exact ⟨r.p, by omega, by omega, by unfold has; omega⟩
          obtain ⟨x, x1, x2, x3⟩ := this
          have := hx x x1 x2
          rw [h.at_of List.mem_cons_self x3] at this
          exact absurd this nofun
        refine i3 q hqe (fun x h1 h2 => ?_)
        have := hx x h1 h2
        have e : at_ (r :: t) x = if has r x then some r.m else at_ t x := rfl
        rw [e] at this
        split at this
        · exact absurd this nofun
        · exact this
theorem gp_gas {l : List Rg} {n f t : Int} (h : May l) (hn : 1 ≤ n ∧ n ≤ 1048576) (hf : 0 ≤ f ∧ f ≤ 1048576) (ht : f ≤ t) (ht2 : t ≤ 1048576) :
    (n ≤ t - gp n f (btw l f 1048576) → GaS l n f t (gp n f (btw l f 1048576)) true 0) ∧ (t - gp n f (btw l f 1048576) < n → GaS l n f t 0 false 0) := by
  obtain ⟨g1, g2, g3⟩ := gp_ok hn.1 (g := f) (btw_rs (f := f) (t := 1048576) h.2.rs) (fun r hr => (btw_in hr).1)
  generalize gp n f (btw l f 1048576) = g at *
  have hat : ∀ x, f ≤ x → at_ (btw l f 1048576) x = at_ l x := fun x hx => by
    rw [btw_at]
    by_cases c : x < 1048576
    · rw [if_pos ⟨hx, c⟩]
    · rw [if_neg (by omega), at_bd h.2.rs (Or.inr (by omega))]
  have hle : ∀ q, Gp l n f t q → g ≤ q := fun q hq => g3 q hq.lo (fun x h1 h2 => by rw [hat x (by have := hq.lo; omega)]; exact hq.no x h1 h2)
  constructor
  · intro c
    unfold GaS
    rw [if_neg (by rw [chk_may.2 h]; decide), if_neg (fun q => q ⟨hn, hf, ht, ht2⟩)]
    exact ⟨rfl, Or.inl ⟨rfl, ⟨g1, by omega, fun x h1 h2 => by rw [← hat x (by omega)]; exact g2 x h1 h2⟩, fun q hq hg => by have := hle q hg; omega⟩⟩
  · intro c
    unfold GaS
    rw [if_neg (by rw [chk_may.2 h]; decide), if_neg (fun q => q ⟨hn, hf, ht, ht2⟩)]
    exact ⟨rfl, Or.inr ⟨rfl, rfl, fun q hg => by have := hle q hg; have := hg.hi; omega⟩⟩
/-! ### Gaps, as the document looks for them -/
/-- The best of the places looked at. -/
def Bst (l : List Rg) (n f t : Int) (C : Int → Prop) (b : Int) : Prop := (b = -1 ∧ ∀ c, C c → ¬ Gp l n f t c) ∨ (0 ≤ b ∧ Gp l n f t b ∧ ∀ c, C c → Gp l n f t c → b ≤ c)
theorem Bst.keep {l : List Rg} {n f t b p : Int} {C : Int → Prop} (h : Bst l n f t C b) (hp : Gp l n f t p → 0 ≤ b ∧ b ≤ p) : Bst l n f t (fun c => C c ∨ c = p) b := by
  rcases h with ⟨h1, h2⟩ | ⟨h1, h2, h3⟩
  · exact Or.inl ⟨h1, fun c hc hg => hc.elim (fun q => h2 c q hg) (fun q => by subst q; have := hp hg; omega)⟩
  · exact Or.inr ⟨h1, h2, fun c hc hg => hc.elim (fun q => h3 c q hg) (fun q => by subst q; exact (hp hg).2)⟩
theorem Bst.take {l : List Rg} {n f t b p : Int} {C : Int → Prop} (h : Bst l n f t C b) (h0 : 0 ≤ f) (hg : Gp l n f t p) (hp : 0 ≤ b → p < b) : Bst l n f t (fun c => C c ∨ c = p) p := by
  have := hg.lo
  refine Or.inr ⟨by omega, hg, fun c hc hgc => hc.elim (fun q => ?_) (fun q => by omega)⟩
  rcases h with ⟨h1, h2⟩ | ⟨h1, h2, h3⟩
  · exact absurd hgc (h2 c q)
  · have := h3 c q hgc
    have := hp h1
    omega
theorem Bst.congr {l : List Rg} {n f t b : Int} {C D : Int → Prop} (h : Bst l n f t C b) (e : ∀ c, D c → C c) : Bst l n f t D b :=
  h.imp (fun ⟨h1, h2⟩ => ⟨h1, fun c hc => h2 c (e c hc)⟩) (fun ⟨h1, h2, h3⟩ => ⟨h1, h2, fun c hc => h3 c (e c hc)⟩)
theorem Bst.gas {l : List Rg} {n f t b : Int} (h : Bst l n f t (fun c => c = f ∨ ∃ r ∈ l, c = r.e) b) (hm : May l) (hn : 1 ≤ n ∧ n ≤ 1048576) (hf : 0 ≤ f ∧ f ≤ 1048576) (ht : f ≤ t) (ht2 : t ≤ 1048576) :
    (b < 0 → GaS l n f t 0 false 0) ∧ (0 ≤ b → GaS l n f t b true 0) := by
  have e : ∀ p is, GaS l n f t p is 0 ↔ ((is = true ∧ Gp l n f t p ∧ ∀ q, q < p → ¬ Gp l n f t q) ∨ (is = false ∧ p = 0 ∧ ∀ q, ¬ Gp l n f t q)) := fun p is => by
    unfold GaS
    rw [if_neg (by rw [chk_may.2 hm]; decide), if_neg (fun q => q ⟨hn, hf, ht, ht2⟩)]
    exact ⟨fun q => q.2, fun q => ⟨rfl, q⟩⟩
  rw [e, e]
  constructor
  · intro hb
    rcases h with ⟨h1, h2⟩ | ⟨h1, _⟩
    · refine Or.inr ⟨rfl, rfl, fun q hg => ?_⟩
      obtain ⟨c, c1, c2, c3⟩ := gap_cand hn.1 hm.2.rs hg
      exact h2 c c1 c3
    · omega
  · intro hb
    rcases h with ⟨h1, h2⟩ | ⟨h1, h2, h3⟩
    · omega
    · refine Or.inl ⟨rfl, h2, fun q hq hg => ?_⟩
      obtain ⟨c, c1, c2, c3⟩ := gap_cand hn.1 hm.2.rs hg
      have := h3 c c1 c3
      omega
theorem gp_btw {l : List Rg} (h : Rs l) {n f t p : Int} : Gp l n f t p ↔ f ≤ p ∧ p ≤ t - n ∧ btw l p (p + n) = [] := by
  rw [btw_nil h]
  exact ⟨fun g => ⟨g.lo, g.hi, g.no⟩, fun ⟨a, b, c⟩ => ⟨a, b, c⟩⟩
/-! ### Check, as it is looked at -/
theorem fm_take {l : List Rg} (h : Fm l) (k : Nat) : Fm (l.take k) := by
  obtain ⟨h1, h2⟩ := fm_iff.1 h
  exact fm_iff.2 ⟨fun r hr => h1 r (List.mem_of_mem_take hr), h2.sublist (List.take_sublist k l)⟩
theorem fm_snoc {l : List Rg} {a r : Rg} : Fm (l ++ [a] ++ [r]) ↔ Fm (l ++ [a]) ∧ Ap a r ∧ r.Ok := by
  rw [show l ++ [a] ++ [r] = l ++ a :: r :: [] by simp, fm_join]
  exact Iff.rfl
theorem fm_succ0 {l : List Rg} (h : 0 < l.length) : Fm (l.take 1) ↔ l[0].Ok := by
  rw [List.take_add_one, List.getElem?_eq_getElem h]
  exact Iff.rfl
theorem fm_succ {l : List Rg} {k : Nat} (h : k + 1 < l.length) : Fm (l.take (k + 1 + 1)) ↔ Fm (l.take (k + 1)) ∧ Ap l[k] l[k + 1] ∧ l[k + 1].Ok := by
  rw [List.take_add_one, List.getElem?_eq_getElem h]
  show Fm (l.take (k + 1) ++ [l[k + 1]]) ↔ _
  rw [show l.take (k + 1) = l.take k ++ [l[k]] by rw [List.take_add_one, List.getElem?_eq_getElem (by omega)]; rfl]
  exact fm_snoc
theorem ap_iff {a b : Rg} : Ap a b ↔ ¬ (b.p < a.e ∨ (a.e = b.p ∧ a.m = b.m)) := by
  unfold Ap
  constructor
  · intro h q; omega
  · intro h
    by_cases c : a.m = b.m <;> omega
theorem ok_take {l : List Rg} {k : Nat} (h : Fm (l.take (k + 1))) (hk : k < l.length) : l[k].Ok :=
  h.rs.ok _ (by rw [show l.take (k + 1) = l.take k ++ [l[k]] by rw [List.take_add_one, List.getElem?_eq_getElem hk]; rfl]; exact List.mem_append_right _ List.mem_cons_self)
theorem chk_many {l : List Rg} (h : 1024 < l.length) : chk l = 3 := if_pos h
theorem chk_arg {l : List Rg} (h : l.length ≤ 1024) (h2 : ¬ Fm l) : chk l = 2 := by unfold chk; rw [if_neg (by omega), if_neg h2]
theorem chk_ok {l : List Rg} (h : l.length ≤ 1024) (h2 : Fm l) : chk l = 0 := chk_may.2 ⟨h, h2⟩
end Go.Proofs.Ytmhfgfgiiinpjab.V
