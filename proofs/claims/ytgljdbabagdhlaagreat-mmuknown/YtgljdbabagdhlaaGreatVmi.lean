/- How a list of accesses is read; no condition. -/
import Derived.Test.YtgljdbabagdhlaaGreatVOa
import Derived.Test.YtgljdbabagdhlaaGreatVmh
import Derived.Test.YtgljdbabagdhlaaGreatVmd
namespace Go.Proofs.YtgljdbabagdhlaaGreat.Pg
open P E Go.ChangeShapes Go.WideShapes Go.ChangeAt Go.RowKit Go.Deep
set_option linter.unusedVariables false
set_option maxRecDepth 8192

structure Ac where
  p : Int
  o : Int
  z : Int
  t : Bool
  s : Bool
  v : Int
def Ac.ce (x : Ac) : List Value := [.int .i64 x.p, .int .i64 x.o, .int .i64 x.z, .bool x.t, .bool x.s, .int .u64 x.v]
structure Ac.Wf (x : Ac) : Prop where
  p0 : -9223372036854775808 ≤ x.p
  p1 : x.p < 9223372036854775808
  o0 : -9223372036854775808 ≤ x.o
  o1 : x.o < 9223372036854775808
  z0 : -9223372036854775808 ≤ x.z
  z1 : x.z < 9223372036854775808
  v0 : 0 ≤ x.v
  v1 : x.v < 18446744073709551616
def Al (w : World) (ao : Option Addr) (l : Nat) : Prop := ∀ i, i < l → ∃ b off x, ao = some ⟨b, off, none⟩ ∧ b < w.heap.size ∧ (∀ j v, (Ac.ce x)[j]? = some v → w.cell? ⟨b, off + i * 6 + j, none⟩ = some v) ∧ x.Wf
theorem Al.below {w w' : World} {ao : Option Addr} {l : Nat} (h : Al w ao l) (k : Below w.heap.size w w') : Al w' ao l := fun i hi => by
  obtain ⟨b, off, x, e, hb, hc, hd⟩ := h i hi
  exact ⟨b, off, x, e, Nat.lt_of_lt_of_le hb k.size, fun j v hv => (World.cell?_of_block (w := w) (a := ⟨b, off + i * 6 + j, none⟩) (k.block b hb)).trans (hc j v hv), hd⟩
theorem Tryz.cellsA4 : Tryz.prog.cellsOf 4 = 1 := by kernel_rfl
theorem Tryz.cellsA64 : Tryz.prog.cellsOf 38 = 1 := by kernel_rfl
theorem Tryz.cellsAc : Tryz.prog.cellsOf 40 = 6 := by kernel_rfl
theorem list6 {α : Type} {l : List α} (h : l.length = 6) : ∃ c0 c1 c2 c3 c4 c5, l = [c0, c1, c2, c3, c4, c5] := by
  match l, h with
  | [c0, c1, c2, c3, c4, c5], _ => exact ⟨c0, c1, c2, c3, c4, c5, rfl⟩
theorem open_ac {H : Type} {enc : TypeId × Value → H} {W : World} {fuel : Nat} {cs : List Value} {x : DataW H × List MemPlace} (hl : cs.length = 6)
    (h : DataW.trod enc Tryz.prog W 0 (fun _ => true) true fuel 40 cs = some x) : ∃ y : Ac, cs = y.ce ∧ y.Wf := by
  obtain ⟨c0, c1, c2, c3, c4, c5, rfl⟩ := list6 hl
  obtain ⟨xs, n, _, hx, _, hlen, hg⟩ := DataW.trod_struct Tryz.underlying40 h
  match xs, hlen with
  | [z0, z1, z2, z3, z4, z5], _ =>
    have t0 := hg 0 _ rfl
    have t1 := hg 1 _ rfl
    have t2 := hg 2 _ rfl
    have t3 := hg 3 _ rfl
    have t4 := hg 4 _ rfl
    have t5 := hg 5 _ rfl
    simp [Go.Proofs.YtgljdbabagdhlaaGreat.Tryz.cells3, Tryz.cellsA4, Tryz.cellsA64] at t0 t1 t2 t3 t4 t5
    obtain ⟨a, e0, _, w0⟩ := DataW.trod_int Tryz.underlying3 t0
    obtain ⟨p, e1, _, w1⟩ := DataW.trod_int Tryz.underlying3 t1
    obtain ⟨f, e2, _, w2⟩ := DataW.trod_int Tryz.underlying3 t2
    obtain ⟨r, e3, _⟩ := DataW.trod_bool Tryz.underlying4 t3
    obtain ⟨v, e4, _⟩ := DataW.trod_bool Tryz.underlying4 t4
    obtain ⟨d, e5, _, w5⟩ := DataW.trod_int Tryz.underlying38 t5
    simp at e0 e1 e2 e3 e4 e5
    subst e0 e1 e2 e3 e4 e5
    have b0 := wf_i64 w0
    have b1 := wf_i64 w1
    have b2 := wf_i64 w2
    have b5 := wf_u64 w5
    exact ⟨⟨a, p, f, r, v, d⟩, rfl, b0.1, Int.lt_of_le_of_lt b0.2 (by decide), b1.1, Int.lt_of_le_of_lt b1.2 (by decide), b2.1, Int.lt_of_le_of_lt b2.2 (by decide), b5.1, b5.2⟩
theorem open_acs {H : Type} {enc : TypeId × Value → H} {W : World} {a0 : Option Addr} {len cap : Nat} {d : DataW H} {p : List MemPlace}
    (h : DataW.Trod enc Tryz.prog W 0 (fun _ => true) true 23 (.slice a0 len cap) d p) : Al W a0 len ∧ len ≤ maxLen := by
  obtain ⟨fuel, hf⟩ := h
  rcases DataW.trod_slice Tryz.underlying23 hf with ⟨hcs, hx⟩ | ⟨a, l, c, elems, rest, n, _, hcs, hx, _, hlc, hcm, hlen, hel, _, _⟩
  · simp [Value.cells] at hcs
    obtain ⟨rfl, rfl, rfl⟩ := hcs
    exact ⟨fun i hi => by omega, by unfold maxLen; omega⟩
  · simp [Value.cells] at hcs
    obtain ⟨rfl, rfl, rfl⟩ := hcs
    refine ⟨fun i hi => ?_, by omega⟩
    have hi2 := hel i hi
    rw [List.getElem?_eq_getElem (by omega : i < elems.length)] at hi2
    obtain ⟨cs, hcs, htr⟩ := Option.bind_eq_some_iff.1 hi2
    rw [Tryz.cellsAc] at hcs
    obtain ⟨_, hl2, hcell⟩ := World.cells?_some hcs
    have hblk := World.cells?_block hcs (by omega)
    obtain ⟨y, rfl, hd⟩ := open_ac hl2 htr
    have hspot : a.spot = none := by
      have hz := hel 0 (by omega)
      rw [List.getElem?_eq_getElem (by omega : 0 < elems.length)] at hz
      obtain ⟨cz, hcz, _⟩ := Option.bind_eq_some_iff.1 hz
      rw [Tryz.cellsAc] at hcz
      obtain ⟨_, hz2, hzc⟩ := World.cells?_some hcz
      have h0 := hzc 0 (by omega)
      rw [List.getElem?_eq_getElem (by omega : 0 < cz.length)] at h0
      simpa [Addr.add] using World.cell?_spot h0
    obtain ⟨b, off, spot⟩ := a
    simp only at hspot
    subst hspot
    refine ⟨b, off, y, rfl, ?_, fun j v hv => ?_, hd⟩
    · rw [Go.WideShapes.add_plain] at hblk
      exact hblk
    · have hj : j < 6 := by
        have := (List.getElem?_eq_some_iff.1 hv).1
        omega
      have := hcell j (by omega)
      rw [Go.WideShapes.add_plain, Go.WideShapes.add_plain] at this
      rw [this]
      exact hv
end Go.Proofs.YtgljdbabagdhlaaGreat.Pg
namespace Go.Proofs.YtgljdbabagdhlaaGreat.Pg
open P E Go.ChangeShapes Go.WideShapes Go.ChangeAt Go.RowKit
set_option linter.unusedVariables false
set_option maxRecDepth 8192
def wo (f : Int) (r u a d : Bool) : Int := N.lo true false r u a d + f * 256
theorem wo_bits (f : Int) (h0 : 0 ≤ f) (h1 : f ≤ 4095) (r u a d : Bool) : N.fb (wo f r u a d) 1 = true ∧ N.fb (wo f r u a d) 2 = false ∧ N.fb (wo f r u a d) 4 = r ∧ N.fb (wo f r u a d) 8 = u ∧ N.fb (wo f r u a d) 16 = a ∧ N.fb (wo f r u a d) 32 = d ∧ wo f r u a d / 256 = f := by
  have q := N.fb_word true false r u a d f h0 h1
  have hr := N.lo_range true false r u a d
  refine ⟨q.1, q.2.1, q.2.2.1, q.2.2.2.1, q.2.2.2.2.1, q.2.2.2.2.2, ?_⟩
  unfold wo
  omega
theorem lf_back {x : Int} (hx : Lf x) : N.lo (N.fb x 1) (N.fb x 2) (N.fb x 4) (N.fb x 8) (N.fb x 16) (N.fb x 32) + x / 256 * 256 = x := by
  have h := hx.1
  unfold N.mayW at h
  rw [Bool.and_eq_true, decide_eq_true_eq] at h
  exact N.word_back x hx.2.1 hx.2.2 h.1
theorem acc_same {x : Int} (hx : Lf x) (h : N.fb x 16 = true) : acc x = x := by
  unfold acc
  rw [← h]
  exact lf_back hx
theorem upd_same (v : Nat → Int) (pg : Nat) : upd v pg (v pg) = v := by
  funext q
  unfold upd
  split
  · rename_i e; rw [e]
  · rfl
theorem upd_at (v : Nat → Int) (pg : Nat) (x : Int) : upd v pg x pg = x := if_pos rfl
theorem updv_ne (v : Nat → Int) {pg q : Nat} (x : Int) (h : q ≠ pg) : upd v pg x q = v q := if_neg h
structure Tw (v : Nat → Int) (x : T.Tr) : Prop where
  a : x.a = 1 ∨ x.a = 2
  pg : ∃ pg : Nat, pg < 8 ∧ x.p = pg ∧ N.fb (v pg) 1 = true ∧ N.fb (v pg) 2 = false ∧ x.f = v pg / 256 ∧ x.r = N.fb (v pg) 4 ∧ x.w = N.fb (v pg) 8 ∧ N.fb (v pg) 16 = true ∧ (x.d = true → N.fb (v pg) 32 = true)
theorem Tw.at {v : Nat → Int} {x : T.Tr} (t : Tw v x) {pg : Nat} (h : x.p = pg) : pg < 8 ∧ N.fb (v pg) 1 = true ∧ N.fb (v pg) 2 = false ∧ x.f = v pg / 256 ∧ x.r = N.fb (v pg) 4 ∧ x.w = N.fb (v pg) 8 ∧ N.fb (v pg) 16 = true ∧ (x.d = true → N.fb (v pg) 32 = true) := by
  obtain ⟨q, h1, h2, h3⟩ := t.pg
  have e : q = pg := by rw [h] at h2; omega
  subst e
  exact ⟨h1, h3⟩
theorem Tw.acc {v : Nat → Int} {x : T.Tr} (t : Tw v x) {pg : Nat} (hl : Lf (v pg)) : Tw (upd v pg (acc (v pg))) x := by
  refine ⟨t.a, ?_⟩
  obtain ⟨q, h1, h2, h3⟩ := t.pg
  refine ⟨q, h1, h2, ?_⟩
  by_cases e : q = pg
  · subst e
    rw [upd_at]
    obtain ⟨q1, q2, q3, q4, q5, q6, q7⟩ := acc_bits hl
    rw [q1, q2, q3, q4, q5, q6, q7]
    exact ⟨h3.1, h3.2.1, h3.2.2.1, h3.2.2.2.1, h3.2.2.2.2.1, rfl, h3.2.2.2.2.2.2⟩
  · rw [updv_ne v _ e]
    exact h3
theorem Tw.other {v : Nat → Int} {x : T.Tr} (t : Tw v x) {pg : Nat} (h : x.p ≠ pg) (y : Int) : Tw (upd v pg y) x := by
  obtain ⟨q, h1, h2, h3⟩ := t.pg
  refine ⟨t.a, q, h1, h2, ?_⟩
  rw [updv_ne v _ (fun e => h (by rw [h2, e]))]
  exact h3
theorem pk_key {a p : Int} {l : List T.Tr} (h : (T.pk a p l).2.1 = true) : (T.pk a p l).1.a = a ∧ (T.pk a p l).1.p = p := by
  unfold T.pk at h ⊢
  by_cases c : (T.okA a && T.okP p) = true
  · rw [if_pos c] at h ⊢
    cases hx : T.look a p l with
    | some x =>
      have := List.find?_some hx
      unfold T.hk at this
      rw [Bool.and_eq_true, beq_iff_eq, beq_iff_eq] at this
      exact this
    | none => rw [hx] at h; exact absurd h (by decide)
  · rw [if_neg c] at h
    exact absurd h (by decide)
section
variable {R : Nat → Prop} {S : E.Sc × Us} {v : Nat → Int}
theorem fill_tr {h : Hw} {s : E.Sc} {a : Int} {r pg : Nat} {y : Int} {x : T.Tr} (hx : x ∈ (fillS h s a r pg y).l) : x = trV a pg y ∨ x ∈ s.l := by
  unfold fillS at hx
  rcases filL_in hx with e | e
  · exact Or.inl e
  · rw [set_l] at e; exact Or.inr e
theorem tr_tw {a : Int} (ha : a = 1 ∨ a = 2) {pg : Nat} (hp : pg < 8) (hl : Lf (v pg)) (h1 : N.fb (v pg) 1 = true) (h2 : N.fb (v pg) 2 = false) : Tw (upd v pg (acc (v pg))) (trV a pg (v pg)) := by
  obtain ⟨q1, q2, q3, q4, q5, q6, q7⟩ := acc_bits hl
  refine ⟨ha, pg, hp, rfl, ?_⟩
  rw [upd_at, q1, q2, q3, q4, q5, q6, q7]
  exact ⟨h1, h2, rfl, rfl, rfl, rfl, id⟩
structure Lk (h : Hw) (s : E.Sc) (v : Nat → Int) (a : Int) (pg : Nat) (wr : Bool) : Prop where
  he : lkV s v a pg wr = wkV v pg wr
  hy : (lookS h s a 0 pg wr).2.2.2 = alV (v pg) wr
  ht : ∀ x ∈ (lookS h s a 0 pg wr).1.l, Tw (wkV v pg wr) x
  hx : alV (v pg) wr = 0 → (lookS h s a 0 pg wr).2.1.a = a ∧ (lookS h s a 0 pg wr).2.1.p = pg ∧ (lookS h s a 0 pg wr).2.1.f = v pg / 256 ∧ (lookS h s a 0 pg wr).2.1.r = N.fb (v pg) 4 ∧ (lookS h s a 0 pg wr).2.1.w = N.fb (v pg) 8 ∧ ((lookS h s a 0 pg wr).2.1.d = true → N.fb (v pg) 32 = true)
theorem Iv.look_tw (I : Iv R S v) (h : Hw) {a : Int} (ha : a = 1 ∨ a = 2) {pg : Nat} (hp : pg < 8) (wr : Bool) (ht : ∀ x ∈ S.1.l, Tw v x) : Lk h S.1 v a pg wr := by
  have hl := I.word (pg := pg) (by omega)
  by_cases c : ((T.pk a pg S.1.l).2.1 && alw wr (T.pk a pg S.1.l).1) = true
  · have c' := Bool.and_eq_true_iff.1 c
    obtain ⟨k1, k2⟩ := pk_key c'.1
    have tx := ht _ (pk_in c'.1)
    obtain ⟨h1, h2, h3, h4, h5, h6, h7, h8⟩ := tx.at k2
    have e0 : alV (v pg) wr = 0 := by
      have q := c'.2
      unfold alw at q
      unfold alV N.al
      rw [h2, h3, ← h5, ← h6]
      cases wr <;> simp at q ⊢ <;> exact q
    have ew : wkV v pg wr = v := by
      unfold wkV
      rw [if_pos e0, acc_same hl h7, upd_same]
    have eL : lookS h S.1 a 0 pg wr = ({ S.1 with l := T.fd a pg S.1.l }, (T.pk a pg S.1.l).1, true, 0) := by unfold lookS; rw [if_pos c]
    refine ⟨?_, ?_, ?_, ?_⟩
    · rw [ew]; unfold lkV; rw [if_pos c]
    · rw [eL, e0]
    · rw [eL, ew]
      exact fun x hx => ht x (fd_in hx)
    · rw [eL]
      exact fun _ => ⟨k1, k2, h4, h5, h6, h8⟩
  · have I1 : Iv R ({ S.1 with l := T.rmL a pg (T.fd a pg S.1.l) }, S.2) v := I.m_eq rfl (fun x hx => I.tr x (fd_in (rmL_in hx)))
    have ht1 : ∀ x ∈ T.rmL a pg (T.fd a pg S.1.l), Tw v x := fun x hx => ht x (fd_in (rmL_in hx))
    have eL : lookS h S.1 a 0 pg wr = ((walkS h { S.1 with l := T.rmL a pg (T.fd a pg S.1.l) } a 0 pg wr).1, (walkS h { S.1 with l := T.rmL a pg (T.fd a pg S.1.l) } a 0 pg wr).2.1, false, (walkS h { S.1 with l := T.rmL a pg (T.fd a pg S.1.l) } a 0 pg wr).2.2) := by unfold lookS; rw [if_neg c]
    have eV : lkV S.1 v a pg wr = wkV v pg wr := by unfold lkV; rw [if_neg c]
    have hy := (I1.walk h a (pg := pg) (by omega) wr).2.2
    generalize hs : ({ S.1 with l := T.rmL a pg (T.fd a pg S.1.l) } : E.Sc) = s1 at *
    have hsl : s1.l = T.rmL a pg (T.fd a pg S.1.l) := by rw [← hs]
    have hpw : Pg.pw (wd s1.m) 0 pg = v pg := I1.pw pg (by omega)
    have hwy : whyV (wd s1.m) 0 pg wr = alV (v pg) wr := I1.why (by omega) wr
    refine ⟨eV, by rw [eL]; exact hy, ?_, ?_⟩
    · rw [eL]
      intro x hx
      have hx : x ∈ (walkS h s1 a 0 pg wr).1.l := hx
      unfold walkS at hx
      unfold wkV
      by_cases c0 : alV (v pg) wr = 0
      · rw [if_pos c0]
        rw [hwy, if_pos c0, hpw] at hx
        have hb := al_pres c0
        rcases fill_tr hx with e | e
        · rw [e]; exact tr_tw ha hp hl hb.1 hb.2
        · rw [wk_l, hsl] at e
          exact (ht1 x e).acc hl
      · rw [if_neg c0]
        rw [hwy, if_neg c0] at hx
        have hx : x ∈ (wkS h s1 0 pg).l := hx
        rw [wk_l, hsl] at hx
        exact ht1 x hx
    · intro c0
      rw [eL]
      show (walkS h s1 a 0 pg wr).2.1.a = a ∧ _
      unfold walkS
      rw [hwy, if_pos c0, hpw]
      exact ⟨rfl, rfl, rfl, rfl, rfl, id⟩
end
end Go.Proofs.YtgljdbabagdhlaaGreat.Pg
namespace Go.Proofs.YtgljdbabagdhlaaGreat.Pg
open P E Go.ChangeShapes Go.WideShapes Go.ChangeAt Go.RowKit
set_option linter.unusedVariables false
set_option maxRecDepth 8192
structure Ne where
  p : Bool
  r : Bool
  u : Bool
  a : Int
def Ne.ev (x : Ne) : List Value := [.bool x.p, .bool false, .bool x.r, .bool x.u, .bool false, .bool false, .int .i64 x.a]
def ne0 : Ne := ⟨false, false, false, 0⟩
def putN (e : Nat → Ne) (i : Nat) (x : Ne) : Nat → Ne := fun k => if k = i then x else e k
structure Nw (e : Nat → Ne) (L : List Value) : Prop where
  len : L.length = 56
  ce : ∀ i, i < 8 → ∀ j v, (Ne.ev (e i))[j]? = some v → L[i * 7 + j]? = some v
theorem ev_lt {x : Ne} {j : Nat} {v : Value} (h : (Ne.ev x)[j]? = some v) : j < 7 := (List.getElem?_eq_some_iff.1 h).1
theorem Nw.set {e : Nat → Ne} {L : List Value} (h : Nw e L) {i : Nat} (hi : i < 8) (x : Ne) : Nw (putN e i x) (L.take (i * 7) ++ x.ev ++ L.drop (i * 7 + x.ev.length)) := by
  have hl := h.len
  have he : x.ev.length = 7 := rfl
  refine ⟨by simp [he]; omega, fun k hk j v hv => ?_⟩
  have hj := ev_lt hv
  unfold putN at hv
  have ht : (L.take (i * 7)).length = i * 7 := by simp; omega
  rw [he]
  by_cases c : k = i
  · rw [if_pos c] at hv
    subst c
    rw [List.getElem?_append_left (by simp [he]; omega), List.getElem?_append_right (by omega), ht, Nat.add_sub_cancel_left]
    exact hv
  · rw [if_neg c] at hv
    have hh := h.ce k hk j v hv
    by_cases c2 : k < i
    · rw [List.getElem?_append_left (by simp [he]; omega), List.getElem?_append_left (by omega), List.getElem?_take_of_lt (by omega)]
      exact hh
    · rw [List.getElem?_append_right (by simp [he]; omega), List.getElem?_drop, List.length_append, ht, he, show i * 7 + 7 + (k * 7 + j - (i * 7 + 7)) = k * 7 + j by omega]
      exact hh
def nwL0 : List Value := [.bool false, .bool false, .bool false, .bool false, .bool false, .bool false, .int .i64 0, .bool false, .bool false, .bool false, .bool false, .bool false, .bool false, .int .i64 0, .bool false, .bool false, .bool false, .bool false, .bool false, .bool false, .int .i64 0, .bool false, .bool false, .bool false, .bool false, .bool false, .bool false, .int .i64 0, .bool false, .bool false, .bool false, .bool false, .bool false, .bool false, .int .i64 0, .bool false, .bool false, .bool false, .bool false, .bool false, .bool false, .int .i64 0, .bool false, .bool false, .bool false, .bool false, .bool false, .bool false, .int .i64 0, .bool false, .bool false, .bool false, .bool false, .bool false, .bool false, .int .i64 0]
theorem nw0 : Nw (fun _ => ne0) nwL0 := by
  refine ⟨rfl, fun i hi j v hv => ?_⟩
  have hj := ev_lt hv
  have : i = 0 ∨ i = 1 ∨ i = 2 ∨ i = 3 ∨ i = 4 ∨ i = 5 ∨ i = 6 ∨ i = 7 := by omega
  have hj' : j = 0 ∨ j = 1 ∨ j = 2 ∨ j = 3 ∨ j = 4 ∨ j = 5 ∨ j = 6 := by omega
  rcases this with rfl | rfl | rfl | rfl | rfl | rfl | rfl | rfl <;> rcases hj' with rfl | rfl | rfl | rfl | rfl | rfl | rfl <;> exact hv
def Wn (e : Nat → Ne) (v : Nat → Int) : Prop := ∀ i, i < 8 → N.fb (v i) 1 = (e i).p ∧ N.fb (v i) 2 = false ∧ N.fb (v i) 4 = (e i).r ∧ N.fb (v i) 8 = (e i).u ∧ v i / 256 = (e i).a
theorem wn0 : Wn (fun _ => ne0) (fun _ => 0) := fun i _ => by
  exact ⟨show N.fb 0 1 = false by decide +kernel, show N.fb 0 2 = false by decide +kernel, show N.fb 0 4 = false by decide +kernel, show N.fb 0 8 = false by decide +kernel, rfl⟩
theorem Wn.set {e : Nat → Ne} {v : Nat → Int} (h : Wn e v) (i : Nat) {f : Int} (h0 : 0 ≤ f) (h1 : f ≤ 4095) (r u : Bool) : Wn (putN e i ⟨true, r, u, f⟩) (upd v i (wo f r u false false)) := fun k hk => by
  unfold putN
  by_cases c : k = i
  · subst c
    rw [if_pos rfl, upd_at]
    obtain ⟨q1, q2, q3, q4, q5, q6, q7⟩ := wo_bits f h0 h1 r u false false
    exact ⟨q1, q2, q3, q4, q7⟩
  · rw [if_neg c, updv_ne v _ c]
    exact h k hk
theorem Wn.wk {e : Nat → Ne} {v : Nat → Int} (h : Wn e v) {pg : Nat} (hl : Lf (v pg)) (wr : Bool) : Wn e (wkV v pg wr) := by
  unfold wkV
  split
  · intro k hk
    by_cases c : k = pg
    · subst c
      rw [upd_at]
      obtain ⟨q1, q2, q3, q4, q5, q6, q7⟩ := acc_bits hl
      rw [q1, q2, q3, q4, q7]
      exact h k hk
    · rw [updv_ne v _ c]
      exact h k hk
  · exact h
def alE (x : Ne) (wr : Bool) : Int := if x.p = true then (if (bif wr then x.u else x.r) = true then 0 else 3) else 1
theorem Wn.al {e : Nat → Ne} {v : Nat → Int} (h : Wn e v) {pg : Nat} (hp : pg < 8) (wr : Bool) : alV (v pg) wr = alE (e pg) wr := by
  obtain ⟨q1, q2, q3, q4, q5⟩ := h pg hp
  unfold alV alE
  rw [q1, q2, q3, q4]
  cases (e pg).p <;> cases (e pg).r <;> cases (e pg).u <;> cases wr <;> rfl
theorem may_set {r u : Bool} (hru : u = true → r = true) {f : Nat} (h1 : f < 64) : N.may true false r u false false (f : Nat) = true := by
  unfold N.may
  rw [decide_eq_true (by omega : (0 : Int) ≤ (f : Nat)), decide_eq_true (by omega : ((f : Nat) : Int) ≤ 1023), decide_eq_true (by omega : ((f : Nat) : Int) ≤ 4095)]
  generalize (((f : Nat) : Int) == 0) = z
  cases r <;> cases u <;> cases z <;> simp at hru <;> decide
theorem rmL_not {a : Int} {pg : Nat} (ha : T.okA a = true) (hp : pg < 1048576) {l : List T.Tr} {x : T.Tr} (h : x ∈ T.rmL a pg l) : ¬ (x.a = a ∧ x.p = pg) := by
  have hk : T.okP (pg : Int) = true := by unfold T.okP; exact decide_eq_true (by omega)
  unfold T.rmL at h
  rw [ha, hk] at h
  unfold T.rm at h
  have := (List.mem_filter.1 h).2
  unfold T.hk at this
  intro ⟨e1, e2⟩
  rw [e1, e2] at this
  simp at this
structure Kn (w wr : World) (t c p g : Nat) (m : Nat → Option Nat) (Q : Nat → Prop) (S : E.Sc × Us) (v : Nat → Int) (e : Nat → Ne) (L : List Value) : Prop where
  M : Mq (fun k => k < w.heap.size) Q w wr t c p (hwOf us) (par us 0) S m
  B : Bb Q w wr g 55 L
  I : Iv (fun r => m r ≠ none) S v
  T : ∀ x ∈ S.1.l, Tw v x
  W : Wn e v
  N : Nw e L
  hN : (par us 0).N * (par us 0).C ≤ (hwOf us).n
section
variable {w wr w' : World} {t c p g : Nat} {m : Nat → Option Nat} {Q Q' : Nat → Prop} {S S' : E.Sc × Us} {v : Nat → Int} {e : Nat → Ne} {L : List Value}
theorem Mq.be (M : Mq (fun k => k < w.heap.size) Q w wr t c p (hwOf us) (par us 0) S m) : Below w.heap.size w wr := ⟨M.ky.os, M.ky.tape, M.ky.output, M.ky.size, M.ky.block⟩
theorem Kn.below (K : Kn w wr t c p g m Q S v e L) (b : Below wr.heap.size wr w') : Kn w w' t c p g m Q S v e L := ⟨K.M.below b, K.B.below b, K.I, K.T, K.W, K.N, K.hN⟩
theorem Mq.mid (M : Mq (fun k => k < w.heap.size) Q w wr t c p (hwOf us) (par us 0) S m) (B : Bb Q w wr g 55 L) (N : Nw e L) {pg : Nat} (hp : pg < 8) (x : Ne) :
    wr.there g (pg * 7) x.ev.toArray.size ∧ Mq (fun k => k < w.heap.size) Q w (wr.setCells g (pg * 7) x.ev) t c p (hwOf us) (par us 0) S m ∧ Bb Q w (wr.setCells g (pg * 7) x.ev) g 55 (L.take (pg * 7) ++ x.ev ++ L.drop (pg * 7 + x.ev.length)) ∧ Nw (putN e pg x) (L.take (pg * 7) ++ x.ev ++ L.drop (pg * 7 + x.ev.length)) ∧ ∀ b' ty' L', b' ≠ g → Bb Q w wr b' ty' L' → Bb Q w (wr.setCells g (pg * 7) x.ev) b' ty' L' := by
  have gb : wr.grownBy (wr.setCells g (pg * 7) x.ev) (some g) := C.grown_setCells g x.ev (pg * 7) wr
  have hn : ¬ g < w.heap.size := Nat.not_lt.2 B.hb
  have hl := N.len
  have he : x.ev.length = 7 := rfl
  refine ⟨fun j hj => ⟨?_, B.bk.frozen _⟩, ⟨M.q.wrote B.qb gb, M.zq, M.lo, M.ky.wrote (fun k hk => M.q.lt k (M.zq k hk)) hn gb⟩, ⟨C.Blk.sets x.ev (pg * 7) wr L B.bk (by rw [he]; omega), B.qb, B.hb⟩, N.set hp x, fun b' ty' L' hne B' => ⟨B'.bk.of_eq (gb.block b' B'.bk.lt (C.some_ne hne)), B'.qb, B'.hb⟩⟩
  have hj : j < 7 := hj
  rw [B.bk.cell, List.getElem?_eq_getElem (by omega)]
  rfl
theorem Kn.look (K : Kn w wr t c p g m Q S v e L) {a : Int} (ha : a = 1 ∨ a = 2) {pg : Nat} (hp : pg < 8) (s : Bool) :
    Calls Tryz.prog 16 #[.pointer (some ⟨c, 0, none⟩), .pointer (some ⟨t, 0, none⟩), .int .i64 a, .int .i64 0, .int .i64 (pg : Nat), .bool s] wr fun x w' => ∃ (tr : T.Tr) (tl : Bool) (S' : E.Sc × Us) (v' : Nat → Int), x = .returned (.tuple #[.agg #[.int .i64 tr.a, .int .i64 tr.p, .int .i64 tr.f, .bool tr.r, .bool tr.w, .bool tr.d], .agg #[.int .u64 0, .int .u8 (alE (e pg) s), .bool tl, .bool false, .bool false], .int .i64 0]) ∧ Kn w w' t c p g m Q S' v' e L ∧ Ky Q wr w' ∧ (alE (e pg) s = 0 → tr.a = a ∧ tr.p = pg ∧ tr.f = (e pg).a ∧ tr.r = (e pg).r ∧ tr.w = (e pg).u) := by
  have hok : T.okA a = true := by rcases ha with rfl | rfl <;> decide
  have hc := chk_ok hok K.I.rt
  have LK := K.I.look_tw (hwOf us) ha hp s K.T
  have hw := K.W.al hp s
  refine (mLook_ok K.M.q K.I.ok K.hN a (r := 0) K.I.rt (by decide) hc (by omega) s).mono ?_
  rintro x w' ⟨rfl, k1, k2⟩
  have J := (K.I.look (hwOf us) a (pg := pg) (by omega) s).1
  rw [LK.he] at J
  refine ⟨_, _, _, _, by rw [LK.hy, hw], ⟨K.M.turn k1 k2, K.B.ky k2, J, LK.ht, K.W.wk (K.I.word (by omega)) s, K.N, K.hN⟩, k2, fun h0 => ?_⟩
  rw [← hw] at h0
  obtain ⟨x1, x2, x3, x4, x5, _⟩ := LK.hx h0
  obtain ⟨q1, q2, q3, q4, q5⟩ := K.W pg hp
  exact ⟨x1, x2, by rw [x3, q5], by rw [x4, q3], by rw [x5, q4]⟩
theorem Kn.turned (K : Kn w wr t c p g m Q S v e L) {pg f : Nat} (hp : pg < 8) (f0 : 40 ≤ f) (f1 : f < 64) {r u : Bool} (hru : u = true → r = true) {L' : List Value} {w' : World} (hN : Nw (putN e pg ⟨true, r, u, (f : Nat)⟩) L') (B : Bb Q w w' g 55 L')
    (M : Mq (fun k => k < w.heap.size) Q w w' t c p (hwOf us) (par us 0) ({ setS S.1 0 pg true (wo (f : Nat) r u false false) with l := T.rmL 2 pg (T.rmL 1 pg (setS S.1 0 pg true (wo (f : Nat) r u false false)).l) }, S.2) m) :
    Kn w w' t c p g m Q ({ setS S.1 0 pg true (wo (f : Nat) r u false false) with l := T.rmL 2 pg (T.rmL 1 pg (setS S.1 0 pg true (wo (f : Nat) r u false false)).l) }, S.2) (upd v pg (wo (f : Nat) r u false false)) (putN e pg ⟨true, r, u, (f : Nat)⟩) L' := by
  have hm := may_set hru f1
  obtain ⟨q1, q2, q3, q4, q5, q6, q7⟩ := wo_bits (f : Nat) (by omega) (by omega) r u false false
  have J := K.I.set (pg := pg) (by omega) (x := wo (f : Nat) r u false false) (lf_word hm) (fun _ => ⟨f, q7, f0, f1⟩)
  have hsl : (setS S.1 0 pg true (wo (f : Nat) r u false false)).l = S.1.l := set_l _ _ _ _ _
  have W' := K.W.set pg (f := (f : Nat)) (Int.natCast_nonneg f) (by omega) r u
  generalize setS S.1 0 pg true (wo (f : Nat) r u false false) = s1 at *
  generalize hv1 : upd v pg (wo (f : Nat) r u false false) = v1 at *
  have hJ : ∀ x ∈ ({ s1 with l := T.rmL 2 pg (T.rmL 1 pg s1.l) } : E.Sc).l, Fr x.f := fun x hx => by
    dsimp only at hx
    exact J.tr x (rmL_in (rmL_in hx))
  refine ⟨M, B, J.m_eq (s := { s1 with l := T.rmL 2 pg (T.rmL 1 pg s1.l) }) rfl hJ, fun x hx => ?_, W', hN, K.hN⟩
  dsimp only at hx
  have n2 : ¬ (x.a = 2 ∧ x.p = pg) := rmL_not (a := 2) (by decide) (Nat.lt_trans hp (by decide)) hx
  have n1 : ¬ (x.a = 1 ∧ x.p = pg) := rmL_not (a := 1) (by decide) (Nat.lt_trans hp (by decide)) (rmL_in hx)
  have hin := rmL_in (rmL_in hx)
  rw [hsl] at hin
  have tx := K.T x hin
  rw [← hv1]
  refine tx.other (fun hpx => ?_) _
  rcases tx.a with h | h
  · exact n1 ⟨h, hpx⟩
  · exact n2 ⟨h, hpx⟩
end
end Go.Proofs.YtgljdbabagdhlaaGreat.Pg
namespace Go.Proofs.YtgljdbabagdhlaaGreat
open Go.ChangeShapes Go.WideShapes Go.ChangeAt Go.RowKit Go.Deep
set_option maxRecDepth 100000 in
set_option maxHeartbeats 40000000 in
theorem joinedMmuKnown : joinedFacts Tryz.prog 5 Tryz.f5 Rows.mmuKnownSpec Rows.mmuKnownRow = true := by
  unfold joinedFacts
  simp only [Bool.and_eq_true]
  repeat' apply And.intro
  all_goals (as_aux_lemma => kernel_rfl)
end Go.Proofs.YtgljdbabagdhlaaGreat
