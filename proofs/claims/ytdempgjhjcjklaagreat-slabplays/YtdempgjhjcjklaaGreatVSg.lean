/- A pool and a slab over it, made since a call began: what the slab's calls tell and leave; the chapter's example; works; no condition but those that each theorem names. -/
import Derived.Test.YtdempgjhjcjklaaGreatVSv
import Derived.Test.YtdempgjhjcjklaaGreatVOw
namespace Go.Proofs.YtdempgjhjcjklaaGreat.P
open B Go.ChangeShapes Go.WideShapes Go.ChangeAt Go.RowKit
set_option linter.unusedVariables false
set_option maxRecDepth 8192

structure Se (w0 w : World) (F : Nat → Prop) (p : Nat) (P : Par) (us : Us) (s b u : Nat) (mk : Ms) : Prop where
  be : Below w0.heap.size w0 w
  fl : ∀ x, F x → w0.heap.size ≤ x
  s0 : w0.heap.size ≤ s
  b0 : w0.heap.size ≤ b
  po : Po w F p P us
  sl : Sl w s b p u mk
  d1 : ¬ F s
  d2 : ¬ F b
  lk : Lk u us mk
theorem Se.below {w0 w w' : World} {F : Nat → Prop} {p : Nat} {P : Par} {us : Us} {s b u : Nat} {mk : Ms} (h : Se w0 w F p P us s b u mk) (k : Below w.heap.size w w') : Se w0 w' F p P us s b u mk :=
  { h with be := h.be.trans (k.mono h.be.size), po := h.po.below k, sl := h.sl.below k }
theorem Se.next {w0 w w' : World} {F F' : Nat → Prop} {p : Nat} {P : Par} {us us' : Us} {s b u : Nat} {mk mk' : Ms} (h : Se w0 w F p P us s b u mk) (hp : Po w' F' p P us') (hs : Sl w' s b p u mk') (d1 : ¬ F' s) (d2 : ¬ F' b) (lk : Lk u us' mk') (k : Kp (fun x => F x ∨ x = b) (fun x => F' x ∨ x = b) w w') : Se w0 w' F' p P us' s b u mk' := by
  refine ⟨h.be.trans (k.below _ h.be.size (fun x hx => ?_)), fun x hx => ?_, h.s0, h.b0, hp, hs, d1, d2, lk⟩
  · rcases hx with z | z
    · exact h.fl x z
    · rw [z]; exact h.b0
  · rcases k.new x (Or.inl hx) with (z | z) | z
    · exact h.fl x z
    · rw [z]; exact h.b0
    · exact Nat.le_trans h.be.size z
theorem Se.take {w0 w : World} {F : Nat → Prop} {p : Nat} {P : Par} {us : Us} {s b u : Nat} {mk : Ms} (h : Se w0 w F p P us s b u mk) : Calls Tryz.prog 18 #[.pointer (some ⟨s, 0, none⟩)] w fun x w' => ∃ (a e : Nat) (us' : Us) (mk' : Ms) (F' : Nat → Prop), x = .returned (.tuple #[.int .u64 a, .int .i64 e]) ∧ TkS P u us mk a e us' mk' ∧ Se w0 w' F' p P us' s b u mk' ∧ Kp (fun x => F x ∨ x = b) (fun x => F' x ∨ x = b) w w' := by
  refine (STake_s h.po h.sl h.d1 h.d2 h.lk).mono ?_
  rintro x w' ⟨a, e, us', mk', F', rfl, h1, h2, h3, h4, h5, h6⟩
  exact ⟨a, e, us', mk', F', rfl, h1, h.next h2 h3 h4 h5 (h1.lk h.lk) h6, h6⟩
theorem Se.give {w0 w : World} {F : Nat → Prop} {p : Nat} {P : Par} {us : Us} {s b u : Nat} {mk : Ms} (h : Se w0 w F p P us s b u mk) {a e : Nat} {us' : Us} {mk' : Ms} (ha : a < 18446744073709551616) (hg : GvS u us mk a e us' mk') : Calls Tryz.prog 19 #[.pointer (some ⟨s, 0, none⟩), .int .u64 a] w fun x w' => ∃ F', x = .returned (.int .i64 e) ∧ Se w0 w' F' p P us' s b u mk' ∧ Kp (fun x => F x ∨ x = b) (fun x => F' x ∨ x = b) w w' := by
  refine (SGive_s h.po h.sl h.d1 h.d2 h.lk ha hg).mono ?_
  rintro x w' ⟨F', rfl, h2, h3, h4, h5, h6⟩
  exact ⟨F', rfl, h.next h2 h3 h4 h5 (hg.lk h.lk) h6, h6⟩
theorem Se.held {w0 w : World} {F : Nat → Prop} {p : Nat} {P : Par} {us : Us} {s b u : Nat} {mk : Ms} (h : Se w0 w F p P us s b u mk) : Calls Tryz.prog 20 #[.pointer (some ⟨s, 0, none⟩)] w fun x w' => ∃ v, x = .returned v ∧ Iu w' w.heap.size v (hel u mk) ∧ Below w.heap.size w w' ∧ Se w0 w' F p P us s b u mk := by
  refine (SHeld_s h.sl).mono ?_
  rintro x w' ⟨v, rfl, h1, h2⟩
  exact ⟨v, rfl, h1, h2, h.below h2⟩
theorem Se.other {w0 w w' : World} {F : Nat → Prop} {p : Nat} {P : Par} {us : Us} {s b u : Nat} {mk : Ms} {row : Option Nat} (h : Se w0 w F p P us s b u mk) (g : w.grownBy w' row) (hr : ∀ k, row = some k → w0.heap.size ≤ k ∧ ¬ F k ∧ k ≠ b ∧ k ≠ s) : Se w0 w' F p P us s b u mk := by
  have hn : ∀ x, (F x ∨ x = b ∨ x = s) → some x ≠ row := fun x hx e => by
    have := hr x e.symm
    rcases hx with z | z | z
    · exact this.2.1 z
    · exact this.2.2.1 z
    · exact this.2.2.2 z
  exact { h with
    be := h.be.trans (below_of g _ h.be.size (fun k hk => (hr k hk).1))
    po := h.po.of_eq g.size (fun x hx => g.block x (h.po.lt x hx) (hn x (Or.inl hx)))
    sl := h.sl.of_eq g.size (g.block s h.sl.lt (hn s (Or.inr (Or.inr rfl)))) (g.block b h.sl.mp.lt (hn b (Or.inr (Or.inl rfl)))) }
structure To (w : World) (base : Nat) (F : Nat → Prop) (s b : Nat) (v : Value) (l : List Int) : Prop where
  iu : Iu w base v l
  ap : ∀ k, v.ownBlock = some k → ¬ F k ∧ k ≠ b ∧ k ≠ s
theorem To.kp {w w' : World} {base : Nat} {F F' : Nat → Prop} {s b : Nat} {v : Value} {l : List Int} (h : To w base F s b v l) (k : Kp (fun x => F x ∨ x = b) (fun x => F' x ∨ x = b) w w') : To w' base F' s b v l := by
  refine ⟨h.iu.of_eq (fun g hg => k.block g (h.iu.lt g hg).2 (fun z => ?_)), fun g hg => ⟨fun z => ?_, (h.ap g hg).2⟩⟩
  · rcases z with z | z
    · exact (h.ap g hg).1 z
    · exact (h.ap g hg).2.1 z
  · rcases k.new g (Or.inl z) with (q | q) | q
    · exact (h.ap g hg).1 q
    · exact (h.ap g hg).2.1 q
    · have := (h.iu.lt g hg).2
      omega
theorem To.below {w w' : World} {base : Nat} {F : Nat → Prop} {s b : Nat} {v : Value} {l : List Int} (h : To w base F s b v l) (k : Below w.heap.size w w') : To w' base F s b v l := ⟨h.iu.below k, h.ap⟩
def m1 (x : Nat) : Ms := put (fun _ => 0) 1 x
theorem m1_same (x : Nat) : m1 x 1 = x := put_same _ _ _
theorem m1_other (x : Nat) {g : Nat} (h : g ≠ 1) : m1 x g = 0 := put_other _ _ _ _ h
theorem m1_put (x y : Nat) : put (m1 x) 1 y = m1 y := by
  funext z
  by_cases e : z = 1
  · subst e; rw [put_same, m1_same]
  · rw [put_other _ _ _ _ e, m1_other _ e, m1_other _ e]
theorem m1_zero : m1 0 = fun _ => 0 := by
  funext z
  by_cases e : z = 1
  · subst e; rw [m1_same]
  · rw [m1_other _ e]
theorem ex_take {us us' : Us} {x i a e : Nat} {mk' : Ms} (h0 : x ≠ 0) (h1 : x ≠ 15) (hi : LP 4 x i) (h : TkS PU 4 us (m1 x) a e us' mk') : a = 256 + i * 64 ∧ e = 0 ∧ us' = us ∧ mk' = m1 (x ||| 2 ^ i) := by
  have hr : Rm 4 (m1 x) 1 := ⟨⟨by rw [m1_same]; exact h0, by rw [m1_same]; exact h1⟩, fun g hg z => by have := z.1; rw [m1_other x (by omega)] at this; exact this rfl⟩
  obtain ⟨q1, q2, q3, q4⟩ := TkS.uniq (Or.inl ⟨1, i, hr, by rw [m1_same]; exact hi, rfl, rfl, rfl, rfl⟩) h
  refine ⟨q1, q2, q3, q4.trans ?_⟩
  rw [m1_same, m1_put]
theorem ex_none {x : Nat} (h : x = 0 ∨ x = 15) (g : Nat) : ¬ rmy 4 (m1 x) g := by
  rintro ⟨z1, z2⟩
  by_cases e : g = 1
  · subst e
    rw [m1_same] at z1 z2
    rcases h with rfl | rfl
    · exact z1 rfl
    · exact z2 rfl
  · rw [m1_other x e] at z1
    exact z1 rfl
def uS : Us := pt u1 1 (some 4)
theorem ex_first {us' : Us} {a e : Nat} {mk' : Ms} (h : TkS PU 4 u1 (fun _ => 0) a e us' mk') : a = 256 ∧ e = 0 ∧ us' = uS ∧ mk' = m1 1 := by
  have hq : cU u1 4 4096 < PU.q 4 := by rw [u1_c 4 (by omega)]; decide
  rw [← m1_zero] at h
  rcases h with ⟨g, i, h1, _⟩ | ⟨h0, g, h1, h2⟩
  · exact absurd h1.1 (ex_none (Or.inl rfl) g)
  · rcases h1 with ⟨rfl, t, _⟩ | ⟨_, _, _, t⟩
    · obtain ⟨rfl, rfl, _⟩ := u1_lv.take PU_ok (i := 1) (k := 4) (a := 0) (r := []) (by decide) (by decide) (by decide) (by decide) t
      rcases h2 with ⟨_, rfl, rfl⟩ | ⟨z, _⟩
      · exact ⟨by decide, rfl, rfl, by rw [show fm PU 1 0 = 1 by decide, m1_put]⟩
      · exact absurd rfl z
    · omega
theorem ex_hit {us : Us} {x i : Nat} (hi : i < 4) (hb : x.testBit i = true) (hc : clr x i ≠ 0) : GvS 4 us (m1 x) (256 + i * 64) 0 us (m1 (clr x i)) :=
  Or.inl ⟨1, i, ⟨hi, rfl, by rw [m1_same]; exact hb⟩, rfl, by rw [m1_same, m1_put], by rw [m1_same, if_neg hc]⟩
end Go.Proofs.YtdempgjhjcjklaaGreat.P
namespace Go.Proofs.YtdempgjhjcjklaaGreat.P
open B Go.ChangeShapes Go.WideShapes Go.ChangeAt Go.RowKit
set_option linter.unusedVariables false
set_option maxRecDepth 8192

structure Pe (w0 w : World) (F : Nat → Prop) (p : Nat) (P : Par) (us : Us) : Prop where
  be : Below w0.heap.size w0 w
  fl : ∀ x, F x → w0.heap.size ≤ x
  po : Po w F p P us
theorem Pe.kp {w0 w w' : World} {F F' : Nat → Prop} {p : Nat} {P : Par} {us us' : Us} (h : Pe w0 w F p P us) (hp : Po w' F' p P us') (k : Kp F F' w w') : Pe w0 w' F' p P us' :=
  ⟨h.be.trans (k.below _ h.be.size h.fl), fun x hx => by
    rcases k.new x hx with z | z
    · exact h.fl x z
    · exact Nat.le_trans h.be.size z, hp⟩
theorem new_pe {w0 W : World} (hb : Below w0.heap.size w0 W) {a : Ad} {c : Cf} (hcu : c = us) (hc : Cin W a c) : Calls Tryz.prog 7 #[.agg #[.int .i64 c.F, .int .i64 c.C, .int .i64 c.W, .int .i64 c.S, .int .i64 c.V, .int .i64 c.T, .int .u64 c.k.l1, .int .u64 c.k.llc, .int .u64 c.k.mi, .int .u64 c.k.fa, .int .u64 c.k.st, .int .u64 c.k.di, .int .u64 c.sl, .int .u64 c.pd, .int .u64 c.ft, .slice a.ta c.tn a.tc, .slice a.pa c.pn a.pc], .int .i64 0] W fun e w' => ∃ p F, e = .returned (.tuple #[.pointer (some ⟨p, 0, none⟩), .int .i64 0]) ∧ Pe w0 w' F p PU (fun _ => none) := by
  subst hcu
  refine (New_p hc 0 us_may (by decide)).mono ?_
  rintro e w' ⟨p, F, rfl, hP, hK⟩
  refine ⟨p, F, rfl, hb.trans ((kp_false hK).mono hb.size), fun x hx => ?_, hP⟩
  rcases hK.new x hx with z | z
  · exact z.elim
  · exact Nat.le_trans hb.size z
theorem image_pe {w0 w : World} {F : Nat → Prop} {p : Nat} (h : Pe w0 w F p PU (fun _ => none)) : Calls Tryz.prog 11 #[.pointer (some ⟨p, 0, none⟩)] w fun e w' => ∃ v F', e = .returned (.tuple #[v, .int .i64 0]) ∧ Pe w0 w' F' p PU u1 := by
  refine (Image_p h.po (cU_none _ _) 0 u_nx).mono ?_
  rintro e w' ⟨v, F', rfl, _, _, hP, hK⟩
  exact ⟨v, F', rfl, h.kp hP hK⟩
theorem snew_pe {w0 w : World} {F : Nat → Prop} {p : Nat} {P : Par} {us : Us} (h : Pe w0 w F p P us) {u : Nat} (hu : 4 ≤ u ∧ u ≤ 6) : Calls Tryz.prog 13 #[.pointer (some ⟨p, 0, none⟩), .int .u8 u] w fun e w' => ∃ s b, e = .returned (.tuple #[.pointer (some ⟨s, 0, none⟩), .int .i64 0]) ∧ Se w0 w' F p P us s b u (fun _ => 0) := by
  refine (SNew_s h.po hu).mono ?_
  rintro e w' ⟨s, b, rfl, h1, h2, h3, h4⟩
  refine ⟨s, b, rfl, h.be.trans (h4.mono h.be.size), h.fl, Nat.le_trans h.be.size h2, Nat.le_trans h.be.size h3, h.po.below h4, h1, fun z => ?_, fun z => ?_, fun g z => absurd rfl z⟩
  · have := h.po.lt _ z; omega
  · have := h.po.lt _ z; omega
set_option maxHeartbeats 2000000 in
theorem works_any (w : World) : Calls Tryz.prog 8 #[] w (One (.bool true) w) := by
  go_enter Tryz.func8, Tryz.ntmps8
  go_wp2_with fail
  refine (conf_any _).mono ?_
  rintro e w1 ⟨a, c, rfl, hcu, hci, hb1⟩
  have CN1 : Hid (Calls _ _ _ _ _) := new_pe hb1 hcu hci
  clear hcu hci hb1
  go_wp2_with fail
  refine CN1.out.mono ?_
  rintro e w2 ⟨p, F2, rfl, h2⟩
  have CI : Hid (Calls _ _ _ _ _) := image_pe h2
  clear CN1 h2
  go_wp2_with fail
  refine CI.out.mono ?_
  rintro e w3 ⟨v3, F3, rfl, h3⟩
  have CS : Hid (Calls Tryz.prog 13 #[.pointer (some ⟨p, 0, none⟩), .int .u8 4] w3 _) := snew_pe h3 (u := 4) (by omega)
  clear CI h3
  go_wp2_with fail
  refine CS.out.mono ?_
  rintro e w4 ⟨s, b, rfl, h4⟩
  have CT : Hid (Calls _ _ _ _ _) := h4.take
  clear CS h4
  go_wp2_with fail
  refine CT.out.mono ?_
  rintro e w5 ⟨a5, e5, us5, mk5, F5, rfl, t5, h5, _⟩
  obtain ⟨rfl, rfl, rfl, rfl⟩ := ex_first t5
  have CT2 : Hid (Calls _ _ _ _ _) := h5.take
  clear CT t5 h5
  go_wp2_with fail
  refine CT2.out.mono ?_
  rintro e w6 ⟨a6, e6, us6, mk6, F6, rfl, t6, h6, _⟩
  obtain ⟨rfl, rfl, rfl, rfl⟩ := ex_take (x := 1) (i := 1) (by decide) (by decide) (by unfold LP; decide) t6
  have CG : Hid (Calls Tryz.prog 19 #[.pointer (some ⟨s, 0, none⟩), .int .u64 256] w6 _) := h6.give (a := 256) (by omega) (ex_hit (x := 3) (i := 0) (by decide) (by decide) (by decide))
  clear CT2 t6 h6
  go_wp2_with fail
  refine CG.out.mono ?_
  rintro e w7 ⟨F7, rfl, h7, _⟩
  have CT3 : Hid (Calls _ _ _ _ _) := h7.take
  clear CG h7
  go_wp2_with fail
  refine CT3.out.mono ?_
  rintro e w8 ⟨a8, e8, us8, mk8, F8, rfl, t8, h8, _⟩
  obtain ⟨rfl, rfl, rfl, rfl⟩ := ex_take (x := clr 3 0) (i := 0) (by decide) (by decide) (by unfold LP; decide) t8
  have HB : Hid (Below w.heap.size w w8) := h8.be
  clear CT3 t8 h8
  go_wp2
  go_ret
  exact ⟨rfl, HB.out⟩
end Go.Proofs.YtdempgjhjcjklaaGreat.P
namespace Go.Proofs.YtdempgjhjcjklaaGreat.P
open B Go.ChangeShapes Go.WideShapes Go.ChangeAt Go.RowKit
set_option linter.unusedVariables false
set_option maxRecDepth 8192

def Au (w : World) (ao : Option Addr) (n : Nat) (f : Nat → Int) : Prop := n = 0 ∨ ∃ b off, ao = some ⟨b, off, none⟩ ∧ b < w.heap.size ∧ ∀ i, i < n → w.cell? ⟨b, off + i, none⟩ = some (.int .u64 (f i))
theorem Au.at' {w w' : World} {ao : Option Addr} {n : Nat} {f : Nat → Int} (h : Au w ao n f) (hb : Below w.heap.size w w') {i : Nat} (hi : i < n) : ∃ b off, ao = some ⟨b, off, none⟩ ∧ w'.cell? ⟨b, off + i, none⟩ = some (.int .u64 (f i)) := by
  rcases h with h | ⟨b, off, e, hl, hr⟩
  · omega
  · exact ⟨b, off, e, (hb.cell (p := ⟨b, off + i, none⟩) hl).trans (hr i hi)⟩
theorem Iu.au {w : World} {base : Nat} {v : Value} {l : List Int} (h : Iu w base v l) : ∃ a c, v = .slice a l.length c ∧ Au w a l.length (fun i => l.getD i 0) := by
  obtain ⟨h0, ⟨rfl, h1⟩ | ⟨g, cap, cur, rfl, h2, h3, h4, h5, h6, h7⟩⟩ := h
  · refine ⟨none, 0, by rw [h1], Or.inl h1⟩
  · refine ⟨_, _, rfl, Or.inr ⟨g, 0, rfl, (Array.getElem?_eq_some_iff.1 h3).1, fun i hi => ?_⟩⟩
    rw [Nat.zero_add, cell_of_row w g i _ _ (0, 0) h3]
    have e1 : (cur.toList.take (l.length * 1))[i]? = cur.toList[i]? := by rw [List.getElem?_take]; simp [hi]
    rw [h7] at e1
    rw [← Array.getElem?_toList, ← e1]
    simp [U.vs, hi, List.getD_eq_getElem?_getD]
set_option maxHeartbeats 1000000 in
theorem same_true {w : World} {a b : Option Addr} {n c d : Nat} {f : Nat → Int} (ha : Au w a n f) (hb : Au w b n f) (hn : n < 1000000) : Calls Tryz.prog 25 #[.slice a n c, .slice b n d] w (One (.bool true) w) := by
  have HA : Hid (Au w a n f) := ha
  have HB : Hid (Au w b n f) := hb
  clear ha hb
  go_enter Tryz.func25, Tryz.ntmps25
  go_wp2
  go_loopw [5] (fun z wr => ∃ k : Nat, z = .int .i64 k ∧ k ≤ n ∧ Below w.heap.size w wr) (fun z _ => n - (B.iv z).toNat)
  case atStart => exact ⟨0, rfl, by omega, Below.refl _ _⟩
  case round =>
    obtain ⟨k, rfl, h1, h2⟩ := hrel
    have H2 : Hid (Below w.heap.size w wr) := h2
    clear h2
    by_cases hk : k < n
    · have hkI : (k : Int) < (n : Int) := by omega
      obtain ⟨ba, oa, rfl, ca⟩ := HA.out.at' H2.out hk
      obtain ⟨bb, ob, rfl, cb⟩ := HB.out.at' H2.out hk
      generalize f k = x at *
      go_wp2
      go_quiet (fail)
      go_wp2
      go_roundw
      case rel => exact ⟨k + 1, by go_num, by omega, H2.out.trans (below_of (grown_drewN wr _ none) _ H2.out.size (by simp))⟩
      case measure => simp [B.iv]; omega
    · obtain rfl : k = n := by omega
      go_wp2
      go_ret
      exact ⟨rfl, H2.out⟩
theorem same_iu {w : World} {base base' : Nat} {v v' : Value} {l : List Int} (h : Iu w base v l) (h' : Iu w base' v' l) (hn : l.length < 1000000) : Calls Tryz.prog 25 #[v, v'] w (One (.bool true) w) := by
  obtain ⟨a, c, rfl, hA⟩ := h.au
  obtain ⟨a', c', rfl, hA'⟩ := h'.au
  exact same_true hA hA' hn
end Go.Proofs.YtdempgjhjcjklaaGreat.P
