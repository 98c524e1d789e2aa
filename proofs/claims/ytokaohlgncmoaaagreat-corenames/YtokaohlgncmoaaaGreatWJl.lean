/- Calls of a core's parts, of both, beside blocks that are none of theirs: the structs stay as they are; no condition but those named. -/
import Derived.Test.YtokaohlgncmoaaaGreatWJi
import Derived.Test.YtokaohlgncmoaaaGreatWOa
namespace Go.Proofs.YtokaohlgncmoaaaGreat.E
open Go.ChangeShapes Go.WideShapes Go.ChangeAt Go.RowKit
set_option linter.unusedVariables false
set_option maxRecDepth 8192

theorem ptr_inj {w : World} {a : Addr} {b c : Nat} (h : w.cell? a = some (.pointer (some ⟨b, 0, none⟩))) (k : w.cell? a = some (.pointer (some ⟨c, 0, none⟩))) : b = c := by
  rw [h] at k
  injection k with e
  injection e with e
  injection e with e
  injection e with e
def Zp (Z : Nat → Prop) (p q : Nat) : Nat → Prop := fun k => Z k ∨ k = p ∨ k = q
theorem Zp.mono {Z Z' : Nat → Prop} {p q : Nat} (h : ∀ k, Z k → Z' k) : ∀ k, Zp Z p q k → Zp Z' p q k := fun k hk => hk.imp_left (h k)
def Gu (k : Kd) (w : World) (X : Nat → Prop) (p : Nat) (h : Hw) (s' : Sc) (w' : World) : Prop := Gv k w X p h s' w' ∧ w'.heap[p]? = w.heap[p]?
theorem Cr.own {k : Kd} {w : World} {X : Nat → Prop} {p : Nat} {h : Hw} {s : Sc} (K : Cr k w X p h s) : X p := by
  obtain ⟨G, P, c, rfl, rfl⟩ := K
  exact ⟨0, c.g0⟩
theorem Cw.u1 {q : Kd} {w w' : World} {G : Nat → Nat → Prop} {P : Pl} {h : Hw} {s : Sc} (K : Cw q w G P h s) {m : Nat → Int} (c : F.Mem w' P.m P.g h.n m) (g : w.grownBy w' (some P.g)) : Gu q w (un G) P.h h { s with m := m } w' := by
  obtain ⟨c', k'⟩ := K.t1 c g
  exact ⟨c'.gv k', g.block _ (K.lt 0 _ K.g0) (C.some_ne (fun e => K.dis 0 1 P.h (by decide) K.g0 (by rw [e]; exact K.gg)))⟩
theorem Cw.u2 {q : Kd} {w w' : World} {G : Nat → Nat → Prop} {P : Pl} {h : Hw} {s : Sc} (K : Cw q w G P h s) {l : List T.Tr} (lv : T.Lv w (G 2) P.t h.t l w') : Gu q w (un G) P.h h { s with l := l } w' := by
  obtain ⟨G', c', k'⟩ := K.t2 lv
  obtain ⟨F', _, kk⟩ := lv
  exact ⟨c'.gv k', (kpT kk).block _ (K.lt 0 _ K.g0) (fun z => K.dis 0 2 _ (by decide) K.g0 z)⟩
theorem Cw.u3 {q : Kd} {w w' : World} {G : Nat → Nat → Prop} {P : Pl} {h : Hw} {s : Sc} (K : Cw q w G P h s) {m : Nat → Option (Nat → Int)} {X : Nat → Prop} (c : q.D w' X P h m) (k : C.Kp (G 3) X w w') (hX : ∀ x, X x → x < w'.heap.size) : Gu q w (un G) P.h h { s with p := m } w' := by
  obtain ⟨G', c', k'⟩ := K.t3 c k hX
  exact ⟨c'.gv k', k.block _ (K.lt 0 _ K.g0) (fun z => K.dis 0 3 _ (by decide) K.g0 z)⟩
theorem Cr.u0 {q : Kd} {w : World} {X : Nat → Prop} {p : Nat} {h : Hw} {s : Sc} (K : Cr q w X p h s) : Gu q w X p h s w := ⟨K.gv (Below.refl _ _), rfl⟩
theorem Bo.callu {Z : Nat → Prop} {w : World} {p q : Nat} {L : Nat → Value} {h : Hw} {s s' t : Sc} {fn : FuncId} {args : Array Value} {R : Ending → Prop} (K : Bo Z w p q L h s t)
    (H : ∀ X, Cr pK w X p h s → (∀ k, X k → ¬ Z k) → Calls Tryz.prog fn args w fun e w' => R e ∧ Gu pK w X p h s' w') :
    Calls Tryz.prog fn args w fun e w' => R e ∧ Bo Z w' p q L h s' t ∧ Kz (Zp Z p q) w w' := by
  obtain ⟨X, Y, c, d, ds, zx, zy⟩ := K.c
  refine (H X c zx).mono ?_
  rintro e w' ⟨hR, ⟨X', c', k⟩, hp⟩
  refine ⟨hR, ⟨⟨X', Y, c', d.kept k (fun i hy hx => ds i hx hy), fun i hx hy => ?_, fun i hx hz => ?_, zy⟩, fun i hi => Nat.lt_of_lt_of_le (K.z i hi) k.size⟩, ⟨k.os, k.tape, k.output, k.size, fun i hi => ?_⟩⟩
  · rcases k.new i hx with q | q
    · exact ds i q hy
    · have := d.lt i hy; omega
  · rcases k.new i hx with q | q
    · exact zx i q hz
    · have := K.z i hz; omega
  · rcases hi with hi | hi | hi
    · exact k.block i (K.z i hi) (fun q => zx i q hi)
    · rw [hi]; exact hp
    · rw [hi]; exact k.block q (d.lt _ d.own) (fun x => ds _ x d.own)
theorem Bo.rcallu {Z : Nat → Prop} {w : World} {p q : Nat} {L : Nat → Value} {h : Hw} {s t t' : Sc} {fn : FuncId} {args : Array Value} {R : Ending → Prop} (K : Bo Z w p q L h s t)
    (H : ∀ Y, Cr (rK L) w Y q h t → (∀ k, Y k → ¬ Z k) → Calls Tryz.prog fn args w fun e w' => R e ∧ Gu (rK L) w Y q h t' w') :
    Calls Tryz.prog fn args w fun e w' => R e ∧ Bo Z w' p q L h s t' ∧ Kz (Zp Z p q) w w' := by
  obtain ⟨X, Y, c, d, ds, zx, zy⟩ := K.c
  refine (H Y d zy).mono ?_
  rintro e w' ⟨hR, ⟨Y', d', k⟩, hp⟩
  refine ⟨hR, ⟨⟨X, Y', c.kept k (fun i hx hy => ds i hx hy), d', fun i hx hy => ?_, zx, fun i hy hz => ?_⟩, fun i hi => Nat.lt_of_lt_of_le (K.z i hi) k.size⟩, ⟨k.os, k.tape, k.output, k.size, fun i hi => ?_⟩⟩
  · rcases k.new i hy with q | q
    · exact ds i hx q
    · have := c.lt i hx; omega
  · rcases k.new i hy with q | q
    · exact zy i q hz
    · have := K.z i hz; omega
  · rcases hi with hi | hi | hi
    · exact k.block i (K.z i hi) (fun q => zy i q hi)
    · rw [hi]; exact k.block p (c.lt _ c.own) (fun x => ds _ c.own x)
    · rw [hi]; exact hp
theorem Bo.zp {Z : Nat → Prop} {w : World} {p q : Nat} {L : Nat → Value} {h : Hw} {s t : Sc} (K : Bo Z w p q L h s t) : ∀ k, Zp Z p q k → k < w.heap.size := by
  obtain ⟨X, Y, c, d, _⟩ := K.c
  rintro k (hk | hk | hk)
  · exact K.z k hk
  · rw [hk]; exact c.lt _ c.own
  · rw [hk]; exact d.lt _ d.own
structure Pts (w : World) (p q pm pt pd qm qt qd : Nat) : Prop where
  m : w.cell? ⟨p, 0, none⟩ = some (.pointer (some ⟨pm, 0, none⟩))
  t : w.cell? ⟨p, 1, none⟩ = some (.pointer (some ⟨pt, 0, none⟩))
  d : w.cell? ⟨p, 2, none⟩ = some (.pointer (some ⟨pd, 0, none⟩))
  rm : w.cell? ⟨q, 17, none⟩ = some (.pointer (some ⟨qm, 0, none⟩))
  rt : w.cell? ⟨q, 18, none⟩ = some (.pointer (some ⟨qt, 0, none⟩))
  rd : w.cell? ⟨q, 19, none⟩ = some (.pointer (some ⟨qd, 0, none⟩))
theorem Bo.pts {Z : Nat → Prop} {w : World} {p q : Nat} {L : Nat → Value} {h : Hw} {s t : Sc} (K : Bo Z w p q L h s t) : ∃ pm pt pd qm qt qd, Pts w p q pm pt pd qm qt qd := by
  obtain ⟨X, Y, ⟨G, P, c, rfl, rfl⟩, ⟨G', P', d, rfl, rfl⟩, _⟩ := K.c
  exact ⟨_, _, _, _, _, _, c.c0, c.c1, c.c2, d.d17, d.d18, d.d19⟩
theorem Pts.kz {Z : Nat → Prop} {w w' : World} {p q pm pt pd qm qt qd : Nat} (a : Pts w p q pm pt pd qm qt qd) (k : Kz (Zp Z p q) w w') : Pts w' p q pm pt pd qm qt qd := by
  have hp := k.block p (Or.inr (Or.inl rfl))
  have hq := k.block q (Or.inr (Or.inr rfl))
  exact ⟨(World.cell?_of_block (w := w) (a := ⟨p, 0, none⟩) hp).trans a.m, (World.cell?_of_block (w := w) (a := ⟨p, 1, none⟩) hp).trans a.t, (World.cell?_of_block (w := w) (a := ⟨p, 2, none⟩) hp).trans a.d, (World.cell?_of_block (w := w) (a := ⟨q, 17, none⟩) hq).trans a.rm, (World.cell?_of_block (w := w) (a := ⟨q, 18, none⟩) hq).trans a.rt, (World.cell?_of_block (w := w) (a := ⟨q, 19, none⟩) hq).trans a.rd⟩
def Lu (Z : Nat → Prop) (w : World) (p q : Nat) (L : Nat → Value) (h : Hw) (s t : Sc) (w' : World) : Prop := Bo Z w' p q L h s t ∧ Kz (Zp Z p q) w w'
theorem Bo.lu {Z : Nat → Prop} {w w' : World} {p q : Nat} {L : Nat → Value} {h : Hw} {s t : Sc} (K : Bo Z w p q L h s t) (b : Below w.heap.size w w') : Lu Z w p q L h s t w' := ⟨K.below b, Kz.of_below b K.zp⟩
theorem Bo.fill {Z : Nat → Prop} {w : World} {p q : Nat} {L : Nat → Value} {h : Hw} {s t : Sc} (K : Bo Z w p q L h s t) {pt : Nat} (hc : w.cell? ⟨p, 1, none⟩ = some (.pointer (some ⟨pt, 0, none⟩))) (x : T.Tr) :
    Calls Tryz.prog 47 #[.pointer (some ⟨pt, 0, none⟩), .agg #[.int .i64 x.a, .int .i64 x.p, .int .i64 x.f, .bool x.r, .bool x.w, .bool x.d]] w fun e w' => e = .returned (.int .i64 (T.filE x)) ∧ Lu Z w p q L h { s with l := T.filL h.t x s.l } t w' := by
  refine K.callu (R := fun e => e = .returned (.int .i64 (T.filE x))) (fun X c _ => ?_)
  obtain ⟨G, P, c, rfl, rfl⟩ := c
  obtain rfl := ptr_inj hc c.c1
  refine (T.Fill_ok c.tl x).mono ?_
  rintro e w2 ⟨rfl, lv⟩
  exact ⟨rfl, c.u2 lv⟩
theorem Bo.rfill {Z : Nat → Prop} {w : World} {p q : Nat} {L : Nat → Value} {h : Hw} {s t : Sc} (K : Bo Z w p q L h s t) {pt : Nat} (hc : w.cell? ⟨q, 18, none⟩ = some (.pointer (some ⟨pt, 0, none⟩))) (x : T.Tr) :
    Calls Tryz.prog 48 #[.pointer (some ⟨pt, 0, none⟩), .agg #[.int .i64 x.a, .int .i64 x.p, .int .i64 x.f, .bool x.r, .bool x.w, .bool x.d]] w fun e w' => e = .returned (.int .i64 (T.filE x)) ∧ Lu Z w p q L h s { t with l := T.filL h.t x t.l } w' := by
  refine K.rcallu (R := fun e => e = .returned (.int .i64 (T.filE x))) (fun X c _ => ?_)
  obtain ⟨G, P, c, rfl, rfl⟩ := c
  obtain rfl := ptr_inj hc c.d18
  refine (T.RFill_ok c.tl x).mono ?_
  rintro e w2 ⟨rfl, lv⟩
  exact ⟨rfl, c.u2 lv⟩
theorem Bo.find {Z : Nat → Prop} {w : World} {p q : Nat} {L : Nat → Value} {h : Hw} {s t : Sc} (K : Bo Z w p q L h s t) {pt : Nat} (hc : w.cell? ⟨p, 1, none⟩ = some (.pointer (some ⟨pt, 0, none⟩))) (a g : Int) :
    Calls Tryz.prog 19 #[.pointer (some ⟨pt, 0, none⟩), .int .i64 a, .int .i64 g] w fun e w' => e = .returned (.tuple #[.agg #[.int .i64 (T.pk a g s.l).1.a, .int .i64 (T.pk a g s.l).1.p, .int .i64 (T.pk a g s.l).1.f, .bool (T.pk a g s.l).1.r, .bool (T.pk a g s.l).1.w, .bool (T.pk a g s.l).1.d], .bool (T.pk a g s.l).2.1, .int .i64 (T.pk a g s.l).2.2]) ∧ Lu Z w p q L h { s with l := T.fd a g s.l } t w' := by
  refine K.callu (R := fun e => e = .returned (.tuple #[.agg #[.int .i64 (T.pk a g s.l).1.a, .int .i64 (T.pk a g s.l).1.p, .int .i64 (T.pk a g s.l).1.f, .bool (T.pk a g s.l).1.r, .bool (T.pk a g s.l).1.w, .bool (T.pk a g s.l).1.d], .bool (T.pk a g s.l).2.1, .int .i64 (T.pk a g s.l).2.2])) (fun X c _ => ?_)
  obtain ⟨G, P, c, rfl, rfl⟩ := c
  obtain rfl := ptr_inj hc c.c1
  refine (T.Find_ok c.tl a g).mono ?_
  rintro e w2 ⟨rfl, lv⟩
  exact ⟨rfl, c.u2 lv⟩
theorem Bo.rfind {Z : Nat → Prop} {w : World} {p q : Nat} {L : Nat → Value} {h : Hw} {s t : Sc} (K : Bo Z w p q L h s t) {pt : Nat} (hc : w.cell? ⟨q, 18, none⟩ = some (.pointer (some ⟨pt, 0, none⟩))) (a g : Int) :
    Calls Tryz.prog 49 #[.pointer (some ⟨pt, 0, none⟩), .int .i64 a, .int .i64 g] w fun e w' => e = .returned (.tuple #[.agg #[.int .i64 (T.pk a g t.l).1.a, .int .i64 (T.pk a g t.l).1.p, .int .i64 (T.pk a g t.l).1.f, .bool (T.pk a g t.l).1.r, .bool (T.pk a g t.l).1.w, .bool (T.pk a g t.l).1.d], .bool (T.pk a g t.l).2.1, .int .i64 (T.pk a g t.l).2.2]) ∧ Lu Z w p q L h s { t with l := T.fd a g t.l } w' := by
  refine K.rcallu (R := fun e => e = .returned (.tuple #[.agg #[.int .i64 (T.pk a g t.l).1.a, .int .i64 (T.pk a g t.l).1.p, .int .i64 (T.pk a g t.l).1.f, .bool (T.pk a g t.l).1.r, .bool (T.pk a g t.l).1.w, .bool (T.pk a g t.l).1.d], .bool (T.pk a g t.l).2.1, .int .i64 (T.pk a g t.l).2.2])) (fun X c _ => ?_)
  obtain ⟨G, P, c, rfl, rfl⟩ := c
  obtain rfl := ptr_inj hc c.d18
  refine (T.RFind_ok c.tl a g).mono ?_
  rintro e w2 ⟨rfl, lv⟩
  exact ⟨rfl, c.u2 lv⟩
def stS (h : Hw) (s : Sc) (pa : Nat) (z v : Int) : Sc := if F.runE h.n pa z = 0 then { s with m := F.lay s.m pa z.toNat (F.byt v) } else s
def ldV (h : Hw) (s : Sc) (pa : Nat) : Int := if F.runE h.n pa 8 = 0 then F.num s.m pa 8 else 0
theorem Bo.store {Z : Nat → Prop} {w : World} {p q : Nat} {L : Nat → Value} {h : Hw} {s t : Sc} (K : Bo Z w p q L h s t) {pm : Nat} (hc : w.cell? ⟨p, 0, none⟩ = some (.pointer (some ⟨pm, 0, none⟩))) (pa : Nat) (z v : Int) (hpa : pa < 18446744073709551616) (hz0 : -9223372036854775808 ≤ z) (hz1 : z < 9223372036854775808) (hv0 : 0 ≤ v) (hv1 : v < 18446744073709551616) :
    Calls Tryz.prog 50 #[.pointer (some ⟨pm, 0, none⟩), .int .u64 pa, .int .i64 z, .int .u64 v] w fun e w' => e = .returned (.int .i64 (F.runE h.n pa z)) ∧ Lu Z w p q L h (stS h s pa z v) t w' := by
  refine K.callu (R := fun e => e = .returned (.int .i64 (F.runE h.n pa z))) (fun X c _ => ?_)
  have hk := c.ok
  have c0 := c.u0
  obtain ⟨G, P, c, rfl, rfl⟩ := c
  obtain rfl := ptr_inj hc c.c0
  by_cases he : F.runE h.n pa z = 0
  · obtain ⟨_, h1, h8, hl⟩ := F.runE_ok he
    obtain ⟨k, rfl⟩ := Int.eq_ofNat_of_zero_le (show 0 ≤ z by omega)
    have e2 : stS h s pa (k : Int) v = { s with m := F.lay s.m pa k (F.byt v) } := by unfold stS; rw [if_pos he]; rfl
    rw [e2, he]
    refine (F.Store_ok c.mm hk.n2 pa k (by omega) (by omega) (by omega) v hv0 hv1).mono ?_
    rintro e w2 ⟨rfl, hm, hg⟩
    exact ⟨rfl, c.u1 hm hg⟩
  · have e2 : stS h s pa z v = s := by unfold stS; rw [if_neg he]
    rw [e2]
    refine (F.Store_no c.mm hk.n1 hk.n2 pa z v (by omega) (by omega) hz0 hz1 he).mono ?_
    rintro e w2 ⟨rfl, rfl⟩
    exact ⟨rfl, c0⟩
theorem Bo.rstore {Z : Nat → Prop} {w : World} {p q : Nat} {L : Nat → Value} {h : Hw} {s t : Sc} (K : Bo Z w p q L h s t) {pm : Nat} (hc : w.cell? ⟨q, 17, none⟩ = some (.pointer (some ⟨pm, 0, none⟩))) (pa : Nat) (z v : Int) (hpa : pa < 18446744073709551616) (hz0 : -9223372036854775808 ≤ z) (hz1 : z < 9223372036854775808) (hv0 : 0 ≤ v) (hv1 : v < 18446744073709551616) :
    Calls Tryz.prog 51 #[.pointer (some ⟨pm, 0, none⟩), .int .u64 pa, .int .i64 z, .int .u64 v] w fun e w' => e = .returned (.int .i64 (F.runE h.n pa z)) ∧ Lu Z w p q L h s (stS h t pa z v) w' := by
  refine K.rcallu (R := fun e => e = .returned (.int .i64 (F.runE h.n pa z))) (fun X c _ => ?_)
  have hk := c.ok
  have c0 := c.u0
  obtain ⟨G, P, c, rfl, rfl⟩ := c
  obtain rfl := ptr_inj hc c.d17
  by_cases he : F.runE h.n pa z = 0
  · obtain ⟨_, h1, h8, hl⟩ := F.runE_ok he
    obtain ⟨k, rfl⟩ := Int.eq_ofNat_of_zero_le (show 0 ≤ z by omega)
    have e2 : stS h t pa (k : Int) v = { t with m := F.lay t.m pa k (F.byt v) } := by unfold stS; rw [if_pos he]; rfl
    rw [e2, he]
    refine (F.rStore_ok c.mm hk.n2 pa k (by omega) (by omega) (by omega) v hv0 hv1).mono ?_
    rintro e w2 ⟨rfl, hm, hg⟩
    exact ⟨rfl, c.u1 hm hg⟩
  · have e2 : stS h t pa z v = t := by unfold stS; rw [if_neg he]
    rw [e2]
    refine (F.rStore_no c.mm hk.n1 hk.n2 pa z v (by omega) (by omega) hz0 hz1 he).mono ?_
    rintro e w2 ⟨rfl, rfl⟩
    exact ⟨rfl, c0⟩
theorem Bo.load {Z : Nat → Prop} {w : World} {p q : Nat} {L : Nat → Value} {h : Hw} {s t : Sc} (K : Bo Z w p q L h s t) {pm : Nat} (hc : w.cell? ⟨p, 0, none⟩ = some (.pointer (some ⟨pm, 0, none⟩))) (pa : Nat) (hpa : pa < 18446744073709551616) :
    Calls Tryz.prog 18 #[.pointer (some ⟨pm, 0, none⟩), .int .u64 pa, .int .i64 8] w fun e w' => e = .returned (.tuple #[.int .u64 (ldV h s pa), .int .i64 (F.runE h.n pa 8)]) ∧ w' = w := by
  obtain ⟨X, c, _⟩ := K.cr
  have hk := c.ok
  obtain ⟨G, P, c, rfl, rfl⟩ := c
  obtain rfl := ptr_inj hc c.c0
  by_cases he : F.runE h.n pa 8 = 0
  · obtain ⟨_, _, _, hl⟩ := F.runE_ok he
    have e2 : ldV h s pa = F.num s.m pa 8 := by unfold ldV; rw [if_pos he]
    rw [e2, he]
    exact F.Load_ok c.mm hk.n2 pa 8 (by omega) (by omega) (by omega)
  · have e2 : ldV h s pa = 0 := by unfold ldV; rw [if_neg he]
    rw [e2]
    exact F.Load_no c.mm hk.n1 hk.n2 pa 8 (by omega) (by omega) (by omega) (by omega) he
theorem Bo.rload {Z : Nat → Prop} {w : World} {p q : Nat} {L : Nat → Value} {h : Hw} {s t : Sc} (K : Bo Z w p q L h s t) {pm : Nat} (hc : w.cell? ⟨q, 17, none⟩ = some (.pointer (some ⟨pm, 0, none⟩))) (pa : Nat) (hpa : pa < 18446744073709551616) :
    Calls Tryz.prog 52 #[.pointer (some ⟨pm, 0, none⟩), .int .u64 pa, .int .i64 8] w fun e w' => e = .returned (.tuple #[.int .u64 (ldV h t pa), .int .i64 (F.runE h.n pa 8)]) ∧ w' = w := by
  obtain ⟨X, c, _⟩ := K.rcr
  have hk := c.ok
  obtain ⟨G, P, c, rfl, rfl⟩ := c
  obtain rfl := ptr_inj hc c.d17
  by_cases he : F.runE h.n pa 8 = 0
  · obtain ⟨_, _, _, hl⟩ := F.runE_ok he
    have e2 : ldV h t pa = F.num t.m pa 8 := by unfold ldV; rw [if_pos he]
    rw [e2, he]
    exact F.rLoad_ok c.mm hk.n2 pa 8 (by omega) (by omega) (by omega)
  · have e2 : ldV h t pa = 0 := by unfold ldV; rw [if_neg he]
    rw [e2]
    exact F.rLoad_no c.mm hk.n1 hk.n2 pa 8 (by omega) (by omega) (by omega) (by omega) he
def Tld (w : World) (l : Nat) (u : Nat → Int) (er : Int) (e : Ending) (w' : World) : Prop := ∃ a c, e = .returned (.tuple #[.slice a l c, .int .i64 er]) ∧ D.Arg w' a l u ∧ Below w.heap.size w w'
theorem below_grown {w w' : World} (g : w.grownBy w' none) : Below w.heap.size w w' := (Below.refl _ w).grown g (Nat.le_refl _) (fun k hk => by cases hk)
theorem tld_none {fn : FuncId} {args : Array Value} {w : World} {er : Int} (H : Calls Tryz.prog fn args w fun e w' => e = .returned (.tuple #[.slice none 0 0, .int .i64 er]) ∧ w' = w) (u : Nat → Int) : Calls Tryz.prog fn args w (Tld w 0 u er) :=
  H.mono fun e w' ⟨he, hw⟩ => ⟨none, 0, he, Or.inl rfl, by subst hw; exact Below.refl _ _⟩
theorem tld_noneg {fn : FuncId} {args : Array Value} {w : World} {er : Int} (H : Calls Tryz.prog fn args w fun e w' => e = .returned (.tuple #[.slice none 0 0, .int .i64 er]) ∧ w.grownBy w' none) (u : Nat → Int) : Calls Tryz.prog fn args w (Tld w 0 u er) :=
  H.mono fun e w' ⟨he, hw⟩ => ⟨none, 0, he, Or.inl rfl, below_grown hw⟩
theorem tld_by {w w' : World} {b : Nat} {u : Nat → Int} (h : D.By w' b 256 u) : D.Arg w' (some ⟨b, 0, none⟩) 256 u := Or.inr ⟨b, 0, rfl, h.1, fun i hi => by rw [Nat.zero_add]; exact (h.2 i hi).1⟩
theorem argB_below {w w' : World} {a : Option Addr} {l : Nat} {u : Nat → Int} (h : D.Arg w a l u) (b : Below w.heap.size w w') : D.Arg w' a l u := argB_kz (Z := fun k => k < w.heap.size) h (Kz.of_below b (fun _ z => z)) (by
  rcases h with h | ⟨b, off, rfl, hb, _⟩
  · exact Or.inl h
  · exact Or.inr (fun c o e => by cases e; exact hb))
theorem page_both (h : Hw) (s : Sc) (k : Int) : ∃ (l : Nat) (u : Nat → Int) (er : Int), l ≤ 256 ∧
    (∀ (Z : Nat → Prop) (w : World) (p q : Nat) (L : Nat → Value) (t : Sc) (pm : Nat), Bo Z w p q L h s t → w.cell? ⟨p, 0, none⟩ = some (.pointer (some ⟨pm, 0, none⟩)) → Calls Tryz.prog 57 #[.pointer (some ⟨pm, 0, none⟩), .int .i64 k] w (Tld w l u er)) ∧
    (∀ (Z : Nat → Prop) (w : World) (p q : Nat) (L : Nat → Value) (t : Sc) (pm : Nat), Bo Z w p q L h t s → w.cell? ⟨q, 17, none⟩ = some (.pointer (some ⟨pm, 0, none⟩)) → Calls Tryz.prog 58 #[.pointer (some ⟨pm, 0, none⟩), .int .i64 k] w (Tld w l u er)) := by
  by_cases hk : 0 ≤ k ∧ k < h.n
  · obtain ⟨j, rfl⟩ := Int.eq_ofNat_of_zero_le hk.1
    have hj : j < h.n := by omega
    refine ⟨256, fun i => s.m (j * 256 + i), 0, Nat.le_refl _, fun Z w p q L t pm K hc => ?_, fun Z w p q L t pm K hc => ?_⟩
    · obtain ⟨X, c, _⟩ := K.cr
      have ok := c.ok
      obtain ⟨G, P, c, rfl, rfl⟩ := c
      obtain rfl := ptr_inj hc c.c0
      refine (F.Page_ok c.mm ok.n2 j hj).mono ?_
      rintro e w' ⟨b, rfl, hB, hg, _⟩
      exact ⟨_, _, rfl, tld_by (w := w) hB, below_grown hg⟩
    · obtain ⟨X, c, _⟩ := K.rcr
      have ok := c.ok
      obtain ⟨G, P, c, rfl, rfl⟩ := c
      obtain rfl := ptr_inj hc c.d17
      refine (F.rPage_ok c.mm ok.n2 j hj).mono ?_
      rintro e w' ⟨b, rfl, hB, hg, _⟩
      exact ⟨_, _, rfl, tld_by (w := w) hB, below_grown hg⟩
  · refine ⟨0, fun _ => 0, 2, by omega, fun Z w p q L t pm K hc => ?_, fun Z w p q L t pm K hc => ?_⟩
    · obtain ⟨X, c, _⟩ := K.cr
      have ok := c.ok
      obtain ⟨G, P, c, rfl, rfl⟩ := c
      obtain rfl := ptr_inj hc c.c0
      exact tld_none (F.Page_no c.mm ok.n1 ok.n2 k hk) _
    · obtain ⟨X, c, _⟩ := K.rcr
      have ok := c.ok
      obtain ⟨G, P, c, rfl, rfl⟩ := c
      obtain rfl := ptr_inj hc c.d17
      exact tld_none (F.rPage_no c.mm ok.n1 ok.n2 k hk) _
theorem read_both (h : Hw) (s : Sc) (k : Int) : ∃ (l : Nat) (u : Nat → Int) (er : Int), l ≤ 256 ∧
    (∀ (Z : Nat → Prop) (w : World) (p q : Nat) (L : Nat → Value) (t : Sc) (pm : Nat), Bo Z w p q L h s t → w.cell? ⟨p, 2, none⟩ = some (.pointer (some ⟨pm, 0, none⟩)) → Calls Tryz.prog 55 #[.pointer (some ⟨pm, 0, none⟩), .int .i64 k] w (Tld w l u er)) ∧
    (∀ (Z : Nat → Prop) (w : World) (p q : Nat) (L : Nat → Value) (t : Sc) (pm : Nat), Bo Z w p q L h t s → w.cell? ⟨q, 19, none⟩ = some (.pointer (some ⟨pm, 0, none⟩)) → Calls Tryz.prog 56 #[.pointer (some ⟨pm, 0, none⟩), .int .i64 k] w (Tld w l u er)) := by
  by_cases hk : 0 ≤ k ∧ k < h.d
  · obtain ⟨j, rfl⟩ := Int.eq_ofNat_of_zero_le hk.1
    have hj : j < h.d := by omega
    cases hu : s.p j with
    | none =>
      refine ⟨0, fun _ => 0, 60, by omega, fun Z w p q L t pm K hc => ?_, fun Z w p q L t pm K hc => ?_⟩
      · obtain ⟨X, c, _⟩ := K.cr
        obtain ⟨G, P, c, rfl, rfl⟩ := c
        obtain rfl := ptr_inj hc c.c2
        exact tld_noneg (D.Read_none c.dk.1 j hj hu) _
      · obtain ⟨X, c, _⟩ := K.rcr
        obtain ⟨G, P, c, rfl, rfl⟩ := c
        obtain rfl := ptr_inj hc c.d19
        obtain ⟨T, A, hr, _⟩ := Rs.full c.dk
        exact tld_none (D.rRead_none hr j hj hu) _
    | some u =>
      refine ⟨256, u, 0, Nat.le_refl _, fun Z w p q L t pm K hc => ?_, fun Z w p q L t pm K hc => ?_⟩
      · obtain ⟨X, c, _⟩ := K.cr
        obtain ⟨G, P, c, rfl, rfl⟩ := c
        obtain rfl := ptr_inj hc c.c2
        refine (D.Read_ok c.dk.1 j u hu).mono ?_
        rintro e w' ⟨rfl, hB, hg⟩
        exact ⟨_, _, rfl, tld_by (w := w) hB, below_grown hg⟩
      · obtain ⟨X, c, _⟩ := K.rcr
        obtain ⟨G, P, c, rfl, rfl⟩ := c
        obtain rfl := ptr_inj hc c.d19
        obtain ⟨T, A, hr, _⟩ := Rs.full c.dk
        refine (D.rRead_ok hr j u hu).mono ?_
        rintro e w' ⟨x, cc, rfl, _, hB, _, hg⟩
        exact ⟨_, _, rfl, tld_by (w := w) hB, below_grown hg⟩
  · refine ⟨0, fun _ => 0, 2, by omega, fun Z w p q L t pm K hc => ?_, fun Z w p q L t pm K hc => ?_⟩
    · obtain ⟨X, c, _⟩ := K.cr
      obtain ⟨G, P, c, rfl, rfl⟩ := c
      obtain rfl := ptr_inj hc c.c2
      exact tld_none (D.Read_no c.dk.1 k hk) _
    · obtain ⟨X, c, _⟩ := K.rcr
      obtain ⟨G, P, c, rfl, rfl⟩ := c
      obtain rfl := ptr_inj hc c.d19
      obtain ⟨T, A, hr, _⟩ := Rs.full c.dk
      exact tld_none (D.rRead_no hr k hk) _
theorem write_both (h : Hw) (s : Sc) (k : Int) (l : Nat) (u : Nat → Int) (hl : l ≤ maxLen) (hu : D.okB l u) : ∃ (er : Int) (s' : Sc),
    (∀ (Z : Nat → Prop) (w : World) (p q : Nat) (L : Nat → Value) (t : Sc) (pm : Nat) (a : Option Addr) (c : Nat), Bo Z w p q L h s t → w.cell? ⟨p, 2, none⟩ = some (.pointer (some ⟨pm, 0, none⟩)) → D.Arg w a l u → In Z a l → Calls Tryz.prog 53 #[.pointer (some ⟨pm, 0, none⟩), .int .i64 k, .slice a l c] w fun e w' => e = .returned (.int .i64 er) ∧ Lu Z w p q L h s' t w') ∧
    (∀ (Z : Nat → Prop) (w : World) (p q : Nat) (L : Nat → Value) (t : Sc) (pm : Nat) (a : Option Addr) (c : Nat), Bo Z w p q L h t s → w.cell? ⟨q, 19, none⟩ = some (.pointer (some ⟨pm, 0, none⟩)) → D.Arg w a l u → Calls Tryz.prog 54 #[.pointer (some ⟨pm, 0, none⟩), .int .i64 k, .slice a l c] w fun e w' => e = .returned (.int .i64 er) ∧ Lu Z w p q L h t s' w') := by
  by_cases hk : 0 ≤ k ∧ k < h.d
  · obtain ⟨j, rfl⟩ := Int.eq_ofNat_of_zero_le hk.1
    have hj : j < h.d := by omega
    by_cases h2 : l = 256
    · subst h2
      refine ⟨0, { s with p := D.pt s.p j (some u) }, fun Z w p q L t pm a c K hc ha hi => ?_, fun Z w p q L t pm a c K hc ha => ?_⟩
      · obtain ⟨b, off, rfl, hr⟩ := ha.resolve_left (by omega)
        have hz : Z b := (hi.resolve_left (by omega)) b off rfl
        refine K.callu (R := fun e => e = .returned (.int .i64 0)) (fun X cr zx => ?_)
        obtain ⟨G, P, cw, rfl, rfl⟩ := cr
        obtain rfl := ptr_inj hc cw.c2
        have hd := cw.dk
        have hne : b ≠ P.e := fun e => zx P.e ⟨3, hd.2.2⟩ (e ▸ hz)
        refine (D.Write_ok hd.1 j hj b off c u hr hu hne).mono ?_
        rintro e w' ⟨rfl, hd', hg⟩
        exact ⟨rfl, cw.u3 (X := G 3) ⟨hd', hd.2.1, hd.2.2⟩ (C.Kp.of_grown hg (fun x hx => by cases hx; exact hd.2.2) (fun _ z => Or.inl z)) (fun x hx => Nat.lt_of_lt_of_le (cw.lt 3 x hx) hg.size)⟩
      · obtain ⟨b, off, rfl, hr⟩ := ha.resolve_left (by omega)
        refine K.rcallu (R := fun e => e = .returned (.int .i64 0)) (fun X cr zx => ?_)
        obtain ⟨G, P, cw, rfl, rfl⟩ := cr
        obtain rfl := ptr_inj hc cw.d19
        obtain ⟨T, A, hk2, hx⟩ := Rs.full cw.dk
        refine (D.rWrite_ok hk2 j hj b off c u hr hu).mono ?_
        rintro e w' ⟨rfl, hk', gr⟩
        obtain ⟨h1, h2⟩ := Rs.wrote (m := s.p) cw.dk.1 cw.dk.2.1 hx hk' gr
        exact ⟨rfl, cw.u3 (w' := w') (m := D.pt s.p j (some u)) (X := fun k => G 3 k ∨ (w.heap.size ≤ k ∧ k < w'.heap.size)) h1 h2 (fun x hx => by
          rcases hx with z | z
          · exact Nat.lt_of_lt_of_le (cw.lt 3 x z) gr.size
          · exact z.2)⟩
    · refine ⟨2, s, fun Z w p q L t pm a c K hc ha hi => ?_, fun Z w p q L t pm a c K hc ha => ?_⟩
      · obtain ⟨X, cr, _⟩ := K.cr
        obtain ⟨G, P, cw, rfl, rfl⟩ := cr
        obtain rfl := ptr_inj hc cw.c2
        refine (D.Write_len cw.dk.1 j hj a l c h2 hl).mono ?_
        rintro e w' ⟨rfl, rfl⟩
        exact ⟨rfl, K.lu (Below.refl _ _)⟩
      · obtain ⟨X, cr, _⟩ := K.rcr
        obtain ⟨G, P, cw, rfl, rfl⟩ := cr
        obtain rfl := ptr_inj hc cw.d19
        obtain ⟨T, A, hk2, hx⟩ := Rs.full cw.dk
        refine (D.rWrite_len hk2 j hj a l c h2 hl).mono ?_
        rintro e w' ⟨rfl, rfl⟩
        exact ⟨rfl, K.lu (Below.refl _ _)⟩
  · refine ⟨2, s, fun Z w p q L t pm a c K hc ha hi => ?_, fun Z w p q L t pm a c K hc ha => ?_⟩
    · obtain ⟨X, cr, _⟩ := K.cr
      obtain ⟨G, P, cw, rfl, rfl⟩ := cr
      obtain rfl := ptr_inj hc cw.c2
      refine (D.Write_no cw.dk.1 k hk _).mono ?_
      rintro e w' ⟨rfl, rfl⟩
      exact ⟨rfl, K.lu (Below.refl _ _)⟩
    · obtain ⟨X, cr, _⟩ := K.rcr
      obtain ⟨G, P, cw, rfl, rfl⟩ := cr
      obtain rfl := ptr_inj hc cw.d19
      obtain ⟨T, A, hk2, hx⟩ := Rs.full cw.dk
      refine (D.rWrite_no hk2 k hk _).mono ?_
      rintro e w' ⟨rfl, rfl⟩
      exact ⟨rfl, K.lu (Below.refl _ _)⟩
end Go.Proofs.YtokaohlgncmoaaaGreat.E
namespace Go.Proofs.YtokaohlgncmoaaaGreat.E
open Go.ChangeShapes Go.WideShapes Go.ChangeAt Go.RowKit Go.Deep
set_option linter.unusedVariables false
set_option maxRecDepth 8192

def Dl (Z : Nat → Prop) (w : World) (ao : Option Addr) (l : Nat) : Prop := ∀ i, i < l → ∃ b off x, ao = some ⟨b, off, none⟩ ∧ Z b ∧ (∀ j v, (Dx.ce x)[j]? = some v → w.cell? ⟨b, off + i * 12 + j, none⟩ = some v) ∧ Din Z w x
theorem Dl.kz {Z : Nat → Prop} {w w' : World} {ao : Option Addr} {l : Nat} (h : Dl Z w ao l) (k : Kz Z w w') : Dl Z w' ao l := fun i hi => by
  obtain ⟨b, off, x, e, hz, hc, hd⟩ := h i hi
  exact ⟨b, off, x, e, hz, fun j v hv => (World.cell?_of_block (w := w) (a := ⟨b, off + i * 12 + j, none⟩) (k.block b hz)).trans (hc j v hv), hd.kz k⟩
theorem in_of_au {w : World} {ao : Option Addr} {l : Nat} {f : Nat → Nat} (h : AU w ao l f) : In (fun k => k < w.heap.size) ao l := by
  rcases h with h | ⟨b, off, rfl, hb, _⟩
  · exact Or.inl h
  · exact Or.inr (fun c o e => by cases e; exact hb)
theorem in_of_arg {w : World} {ao : Option Addr} {l : Nat} {f : Nat → Int} (h : D.Arg w ao l f) : In (fun k => k < w.heap.size) ao l := by
  rcases h with h | ⟨b, off, rfl, hb, _⟩
  · exact Or.inl h
  · exact Or.inr (fun c o e => by cases e; exact hb)
end Go.Proofs.YtokaohlgncmoaaaGreat.E
