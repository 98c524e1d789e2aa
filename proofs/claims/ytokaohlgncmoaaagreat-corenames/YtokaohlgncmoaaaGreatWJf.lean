/- The document's core in memory: its struct and its parts; what keeps its device; no condition. -/
import Derived.Test.YtokaohlgncmoaaaGreatWJe
import Derived.Test.YtokaohlgncmoaaaGreatWHj
import Derived.Test.YtokaohlgncmoaaaGreatWHd
import Derived.Test.YtokaohlgncmoaaaGreatWHh
import Derived.Test.YtokaohlgncmoaaaGreatWHb
namespace Go.Proofs.YtokaohlgncmoaaaGreat.E
open Go.ChangeShapes Go.WideShapes Go.ChangeAt Go.RowKit
set_option linter.unusedVariables false
set_option maxRecDepth 8192

theorem _root_.Go.Proofs.YtokaohlgncmoaaaGreat.D.By.of_eq {w w' : World} {g n : Nat} {f : Nat → Int} (b : D.By w g n f) (hs : w.heap.size ≤ w'.heap.size) (e : w'.heap[g]? = w.heap[g]?) : D.By w' g n f :=
  ⟨Nat.lt_of_lt_of_le b.1 hs, fun i hi => ⟨(World.cell?_of_block (w := w) (a := ⟨g, i, none⟩) e).trans (b.2 i hi).1, (World.frozen?_of_block (w := w) (a := ⟨g, i, none⟩) e).trans (b.2 i hi).2⟩⟩
theorem _root_.Go.Proofs.YtokaohlgncmoaaaGreat.D.Cl.of_eq {w w' : World} {g n : Nat} {s : Nat → Value} (b : D.Cl w g n s) (hs : w.heap.size ≤ w'.heap.size) (e : w'.heap[g]? = w.heap[g]?) : D.Cl w' g n s :=
  ⟨Nat.lt_of_lt_of_le b.1 hs, fun i hi => ⟨(World.cell?_of_block (w := w) (a := ⟨g, i, none⟩) e).trans (b.2 i hi).1, (World.frozen?_of_block (w := w) (a := ⟨g, i, none⟩) e).trans (b.2 i hi).2⟩⟩
def Rs (w : World) (X : Nat → Prop) (q g N : Nat) (m : Nat → Option (Nat → Int)) : Prop := X q ∧ X g ∧ ∃ T A, D.Rk w q g N m T A ∧ ∀ k, k < T → k ∉ A → X k
theorem Rs.stay {w w' : World} {X : Nat → Prop} {q g N : Nat} {m : Nat → Option (Nat → Int)} (h : Rs w X q g N m) (hs : w.heap.size ≤ w'.heap.size) (e : ∀ k, X k → w'.heap[k]? = w.heap[k]?) : Rs w' X q g N m := by
  obtain ⟨hq, hg, T, A, k, hx⟩ := h
  obtain ⟨s, hcl, hat⟩ := k.cl
  refine ⟨hq, hg, T, A, ⟨k.st.of_eq (e q hq), ⟨s, hcl.of_eq hs (e g hg), fun j hj => ?_⟩, k.ne, k.n, k.lt, k.q', k.g', Nat.le_trans k.t hs, fun x hx => Nat.lt_of_lt_of_le (k.a x hx) hs⟩, hx⟩
  rcases hat j hj with y | ⟨u, b, c, e1, e2, hc, e3, e4, e5, e6⟩
  · exact Or.inl y
  · exact Or.inr ⟨u, b, c, e1, e2, hc, e3.of_eq hs (e b (hx b e5 e6)), e4, e5, e6⟩
theorem rk_adds {w : World} {q g N : Nat} {m : Nat → Option (Nat → Int)} {T : Nat} {A : List Nat} : ∀ (B : List Nat), D.Rk w q g N m T A → (∀ x ∈ B, T ≤ x ∧ x < w.heap.size) → D.Rk w q g N m T (B ++ A)
  | [], h, _ => h
  | x :: B, h, hb => (rk_adds B h (fun y hy => hb y (List.mem_cons_of_mem _ hy))).add (hb x (List.mem_cons_self ..)).1 (hb x (List.mem_cons_self ..)).2
theorem Rs.full {w : World} {X : Nat → Prop} {q g N : Nat} {m : Nat → Option (Nat → Int)} (h : Rs w X q g N m) : ∃ T A, D.Rk w q g N m T A ∧ ∀ k, k < w.heap.size → k ∉ A → X k := by
  obtain ⟨hq, hg, T, A, k, hx⟩ := h
  refine ⟨T, (List.range w.heap.size).filter (fun x => decide (T ≤ x)) ++ A, rk_adds _ k (fun x hx => ?_), fun i hi hn => ?_⟩
  · simp at hx; omega
  · by_cases hT : i < T
    · exact hx i hT (fun z => hn (List.mem_append_right _ z))
    · exact absurd (List.mem_append_left A (by simp; omega)) hn
theorem Rs.wrote {w w' : World} {X : Nat → Prop} {q g N : Nat} {m m' : Nat → Option (Nat → Int)} {A : List Nat} (hq : X q) (hg : X g) (hx : ∀ k, k < w.heap.size → k ∉ A → X k) (h : D.Rk w' q g N m' w'.heap.size A) (gr : w.grownBy w' (some g)) :
    Rs w' (fun k => X k ∨ (w.heap.size ≤ k ∧ k < w'.heap.size)) q g N m' ∧ C.Kp X (fun k => X k ∨ (w.heap.size ≤ k ∧ k < w'.heap.size)) w w' := by
  refine ⟨⟨Or.inl hq, Or.inl hg, _, A, h, fun k hk hn => ?_⟩, C.Kp.of_grown gr (fun x e => by cases e; exact hg) (fun k hk => ?_)⟩
  · by_cases hl : k < w.heap.size
    · exact Or.inl (hx k hl hn)
    · exact Or.inr ⟨by omega, hk⟩
  · rcases hk with z | z
    · exact Or.inl z
    · exact Or.inr z.1
def rL (L : Nat → Value) (P : Pl) (h : Hw) (z : Int) : List Value :=
  [.int .i64 h.n, .int .i64 h.c, L 2, .int .i64 h.s, L 4, L 5, .int .u64 h.co.l1, .int .u64 h.co.llc, .int .u64 h.co.mi, .int .u64 h.co.fa, .int .u64 h.co.st, .int .u64 h.co.di, L 12, L 13, L 14, L 15, L 16,
   .pointer (some ⟨P.m, 0, none⟩), .pointer (some ⟨P.t, 0, none⟩), .pointer (some ⟨P.d, 0, none⟩), .pointer (some ⟨P.a, 0, none⟩), .pointer (some ⟨P.b, 0, none⟩), .int .u64 z]
def rK (L : Nat → Value) : Kd where
  ty := 89
  L := rL L
  ix := 22
  D := fun w X P h m => Rs w X P.d P.e h.d m
  set := fun P h z z' => rfl
  stay := fun w w' X P h m k hs e => k.stay hs e
theorem Cw.d0 {L : Nat → Value} {w : World} {G : Nat → Nat → Prop} {P : Pl} {h : Hw} {s : Sc} (K : Cw (rK L) w G P h s) : w.cell? ⟨P.h, 0, none⟩ = some (.int .i64 h.n) := K.st.cell 0
theorem Cw.d1 {L : Nat → Value} {w : World} {G : Nat → Nat → Prop} {P : Pl} {h : Hw} {s : Sc} (K : Cw (rK L) w G P h s) : w.cell? ⟨P.h, 1, none⟩ = some (.int .i64 h.c) := K.st.cell 1
theorem Cw.d3 {L : Nat → Value} {w : World} {G : Nat → Nat → Prop} {P : Pl} {h : Hw} {s : Sc} (K : Cw (rK L) w G P h s) : w.cell? ⟨P.h, 3, none⟩ = some (.int .i64 h.s) := K.st.cell 3
theorem Cw.d17 {L : Nat → Value} {w : World} {G : Nat → Nat → Prop} {P : Pl} {h : Hw} {s : Sc} (K : Cw (rK L) w G P h s) : w.cell? ⟨P.h, 17, none⟩ = some (.pointer (some ⟨P.m, 0, none⟩)) := K.st.cell 17
theorem Cw.d18 {L : Nat → Value} {w : World} {G : Nat → Nat → Prop} {P : Pl} {h : Hw} {s : Sc} (K : Cw (rK L) w G P h s) : w.cell? ⟨P.h, 18, none⟩ = some (.pointer (some ⟨P.t, 0, none⟩)) := K.st.cell 18
theorem Cw.d19 {L : Nat → Value} {w : World} {G : Nat → Nat → Prop} {P : Pl} {h : Hw} {s : Sc} (K : Cw (rK L) w G P h s) : w.cell? ⟨P.h, 19, none⟩ = some (.pointer (some ⟨P.d, 0, none⟩)) := K.st.cell 19
theorem Cw.d20 {L : Nat → Value} {w : World} {G : Nat → Nat → Prop} {P : Pl} {h : Hw} {s : Sc} (K : Cw (rK L) w G P h s) : w.cell? ⟨P.h, 20, none⟩ = some (.pointer (some ⟨P.a, 0, none⟩)) := K.st.cell 20
theorem Cw.d21 {L : Nat → Value} {w : World} {G : Nat → Nat → Prop} {P : Pl} {h : Hw} {s : Sc} (K : Cw (rK L) w G P h s) : w.cell? ⟨P.h, 21, none⟩ = some (.pointer (some ⟨P.b, 0, none⟩)) := K.st.cell 21
theorem Cw.d22 {L : Nat → Value} {w : World} {G : Nat → Nat → Prop} {P : Pl} {h : Hw} {s : Sc} (K : Cw (rK L) w G P h s) : w.cell? ⟨P.h, 22, none⟩ = some (.int .u64 s.z) := K.st.cell 22
theorem Cw.dc {L : Nat → Value} {w : World} {G : Nat → Nat → Prop} {P : Pl} {h : Hw} {s : Sc} (K : Cw (rK L) w G P h s) : w.cell? ⟨P.h, 6, none⟩ = some (.int .u64 h.co.l1) ∧ w.cell? ⟨P.h, 7, none⟩ = some (.int .u64 h.co.llc) ∧ w.cell? ⟨P.h, 8, none⟩ = some (.int .u64 h.co.mi) ∧ w.cell? ⟨P.h, 9, none⟩ = some (.int .u64 h.co.fa) ∧ w.cell? ⟨P.h, 10, none⟩ = some (.int .u64 h.co.st) ∧ w.cell? ⟨P.h, 11, none⟩ = some (.int .u64 h.co.di) := ⟨K.st.cell 6, K.st.cell 7, K.st.cell 8, K.st.cell 9, K.st.cell 10, K.st.cell 11⟩
structure Ut (L : Nat → Value) (X0 : Nat → Prop) (w0 w : World) (G : Nat → Nat → Prop) (P : Pl) (h : Hw) (s : Sc) (r m : Nat) (x y : Bool) : Prop where
  c : Cw (rK L) w G P h s
  k : C.Kp X0 (un G) w0 w
  br : C.Blk w r 59 [.bool false, .bool false]
  bm : C.Blk w m 59 [.bool x, .bool y]
  nr : ¬ un G r
  nm : ¬ un G m
  rm : r ≠ m
  hr : w0.heap.size ≤ r
  hm : w0.heap.size ≤ m
theorem Ut.drew {L : Nat → Value} {X0 : Nat → Prop} {w0 w : World} {G : Nat → Nat → Prop} {P : Pl} {h : Hw} {s : Sc} {r m : Nat} {x y : Bool} (K : Ut L X0 w0 w G P h s r m x y) : Ut L X0 w0 w.drew G P h s r m x y :=
  ⟨K.c.of_eq (Nat.le_refl _) (fun _ _ => rfl), K.k.trans (kp_of_below _ ((Below.refl _ _).drew)), K.br, K.bm, K.nr, K.nm, K.rm, K.hr, K.hm⟩
theorem Ut.below {L : Nat → Value} {X0 : Nat → Prop} {w0 w w' : World} {G : Nat → Nat → Prop} {P : Pl} {h : Hw} {s : Sc} {r m : Nat} {x y : Bool} (K : Ut L X0 w0 w G P h s r m x y) (b : Below w.heap.size w w') : Ut L X0 w0 w' G P h s r m x y :=
  ⟨K.c.of_eq b.size (fun i ⟨j, hj⟩ => b.block i (K.c.lt j i hj)), K.k.trans (kp_of_below _ b), K.br.of_eq (b.block r K.br.lt), K.bm.of_eq (b.block m K.bm.lt), K.nr, K.nm, K.rm, K.hr, K.hm⟩
theorem Ut.turn {L : Nat → Value} {X0 : Nat → Prop} {w0 w w' : World} {G G' : Nat → Nat → Prop} {P : Pl} {h : Hw} {s s' : Sc} {r m : Nat} {x y : Bool} (K : Ut L X0 w0 w G P h s r m x y) (c : Cw (rK L) w' G' P h s') (k : C.Kp (un G) (un G') w w') : Ut L X0 w0 w' G' P h s' r m x y := by
  have out : ∀ a, a < w.heap.size → ¬ un G a → ¬ un G' a := by
    intro a ha hn q
    rcases k.new a q with q | q
    · exact hn q
    · omega
  exact ⟨c, K.k.trans k, K.br.of_eq (k.block r K.br.lt K.nr), K.bm.of_eq (k.block m K.bm.lt K.nm), out r K.br.lt K.nr, out m K.bm.lt K.nm, K.rm, K.hr, K.hm⟩
theorem Ut.met {L : Nat → Value} {X0 : Nat → Prop} {w0 w : World} {G : Nat → Nat → Prop} {P : Pl} {h : Hw} {s : Sc} {r m : Nat} {x y : Bool} (K : Ut L X0 w0 w G P h s r m x y) (i : Nat) (v : Bool) (x' y' : Bool) (e : [Value.bool x, .bool y].set i (.bool v) = [.bool x', .bool y']) :
    Ut L X0 w0 (w.setCell ⟨m, i, none⟩ (.bool v)) G P h s r m x' y' := by
  have g := C.grown_setCell' w m i (.bool v)
  have hb := K.bm.set i (.bool v)
  rw [e] at hb
  refine ⟨K.c.of_eq g.size (fun a ha => g.block a (by obtain ⟨j, hj⟩ := ha; exact K.c.lt j a hj) (C.some_ne (fun q => K.nm (q ▸ ha)))), ⟨g.os.trans K.k.os, g.tape.trans K.k.tape, g.output.trans K.k.output, Nat.le_trans K.k.size g.size, fun a ha hn => (g.block a (Nat.lt_of_lt_of_le ha K.k.size) (C.some_ne (by have := K.hm; omega))).trans (K.k.block a ha hn), K.k.new⟩,
    K.br.kept g (C.some_ne K.rm), hb, K.nr, K.nm, K.rm, K.hr, K.hm⟩
theorem ut_new {L : Nat → Value} {w : World} {G : Nat → Nat → Prop} {P : Pl} {h : Hw} {s : Sc} (K : Cw (rK L) w G P h s) : Ut L (un G) w ((w.alloc (.cells #[.bool false, .bool false] 59)).alloc (.cells #[.bool false, .bool false] 59)) G P h s w.heap.size (w.heap.size + 1) false false := by
  have b : Below w.heap.size w ((w.alloc (.cells #[.bool false, .bool false] 59)).alloc (.cells #[.bool false, .bool false] 59)) := ((Below.refl _ _).alloc (Nat.le_refl _) _).alloc (by simp) _
  have lt : ∀ a, un G a → a < w.heap.size := fun a ⟨j, hj⟩ => K.lt j a hj
  refine ⟨K.of_eq b.size (fun i hi => b.block i (lt i hi)), kp_of_below _ b, ?_, ?_, fun q => by have := lt _ q; omega, fun q => by have := lt _ q; omega, by omega, by omega, by omega⟩
  · exact (C.blk_new w [.bool false, .bool false] 59).kept (World.grownBy_alloc _ _ none) (by simp)
  · have := C.blk_new (w.alloc (.cells #[.bool false, .bool false] 59)) [.bool false, .bool false] 59
    simpa using this
theorem Ut.fin {L : Nat → Value} {X0 : Nat → Prop} {w0 w : World} {G : Nat → Nat → Prop} {P : Pl} {h : Hw} {s : Sc} {r m : Nat} {x y : Bool} (K : Ut L X0 w0 w G P h s r m x y) (z : Int) (z0 : 0 ≤ z) (z1 : z < 18446744073709551616) {w9 : World} (e : w9 = ((w.setCell ⟨P.h, 22, none⟩ (.int .u64 z)).setCell ⟨r, 0, none⟩ (.bool x)).setCell ⟨r, 1, none⟩ (.bool y)) :
    C.Blk w9 r 59 [.bool x, .bool y] ∧ Gv (rK L) w0 X0 P.h h { s with z := z } w9 := by
  subst e
  obtain ⟨c1, k1⟩ := K.c.t0 z z0 z1
  have T1 := K.turn c1 k1
  have b1 := (T1.br.set 0 (.bool x)).set 1 (.bool y)
  have g1 := C.grown_setCell' (w.setCell ⟨P.h, 22, none⟩ (.int .u64 z)) r 0 (.bool x)
  have g2 := C.grown_setCell' ((w.setCell ⟨P.h, 22, none⟩ (.int .u64 z)).setCell ⟨r, 0, none⟩ (.bool x)) r 1 (.bool y)
  have g := g1.trans g2
  refine ⟨b1, un G, ⟨G, P, T1.c.of_eq g.size (fun a ha => g.block a (by obtain ⟨j, hj⟩ := ha; exact T1.c.lt j a hj) (C.some_ne (fun q => T1.nr (q ▸ ha)))), rfl, rfl⟩, ?_⟩
  exact ⟨g.os.trans T1.k.os, g.tape.trans T1.k.tape, g.output.trans T1.k.output, Nat.le_trans T1.k.size g.size, fun a ha hn => (g.block a (Nat.lt_of_lt_of_le ha T1.k.size) (C.some_ne (by have := T1.hr; omega))).trans (T1.k.block a ha hn), T1.k.new⟩
end Go.Proofs.YtokaohlgncmoaaaGreat.E
namespace Go.Proofs.YtokaohlgncmoaaaGreat.E
open Go.ChangeShapes Go.WideShapes Go.ChangeAt Go.RowKit
set_option linter.unusedVariables false
set_option maxRecDepth 8192

set_option maxHeartbeats 1000000 in
theorem one_ok {L : Nat → Value} {w : World} {X : Nat → Prop} {p : Nat} {h : Hw} {s : Sc} (K : Cr (rK L) w X p h s) (pa : Nat) (hp : pa < h.n * 256) :
    Calls Tryz.prog 81 #[.pointer (some ⟨p, 0, none⟩), .int .u64 pa] w fun e w' => e = .returned (.agg #[.bool (hA h s pa), .bool (hB h s pa)]) ∧ Gv (rK L) w X p h (tou h s pa) w' := by
  obtain ⟨G, P, K, rfl, rfl⟩ := K
  have ok := K.ok
  have n2 := ok.n2
  have hpa : pa < 1048576 := by omega
  have HT : Hid (Ut L (un G) w _ G P h s w.heap.size (w.heap.size + 1) false false) := ut_new K
  have hs1 := ok.s1
  have hs2 := ok.s2
  have hlt := K.st.lt
  have HO : Hid h.Ok := ok
  have hl4 : pa / 16 < 65536 := by omega
  clear K ok hp
  obtain ⟨t, ht⟩ : ∃ t, pa / 16 = t := ⟨_, rfl⟩
  rw [ht] at hl4
  have hq16 : (pa : Int) / 16 = (t : Int) := by omega
  go_enter Tryz.func81, Tryz.ntmps81
  go_wp2_with fail
  generalize hW : ((w.alloc (.cells #[.bool false, .bool false] 59)).alloc (.cells #[.bool false, .bool false] 59)) = W at *
  clear hW
  have HD : Hid (Ut L (un G) w W.drew G P h s w.heap.size (w.heap.size + 1) false false) := HT.out.drew
  have hsn : ¬ (h.s : Int) = 0 := by omega
  have hsn' : ¬ h.s = 0 := by omega
  have hi : t % h.s < h.s := Nat.mod_lt _ hs1
  obtain ⟨r, hr⟩ : ∃ r, t % h.s = r := ⟨_, rfl⟩
  rw [hr] at hi
  have hm1 : (t : Int) % (h.s : Int) = (r : Int) := by rw [← hr, Int.natCast_emod]
  have hm2 : (t : Int).tmod (h.s : Int) = (r : Int) := by rw [Int.tmod_eq_emod_of_nonneg (by omega)]; exact hm1
  have hw1 : IntKind.u64.wrap (h.s : Int) = (h.s : Int) := by simp only [IntKind.wrap, IntKind.signed, IntKind.bits]; simp; omega
  have hw2 : IntKind.i64.wrap (r : Int) = (r : Int) := by simp only [IntKind.wrap, IntKind.signed, IntKind.bits]; simp; omega
  obtain ⟨b, hb⟩ : ∃ b, hA h s pa = b := ⟨_, rfl⟩
  have hb' : decide ((t : Int) ∈ s.a r) = b := by rw [← hb]; unfold hA tg i1; rw [ht, hr]
  obtain ⟨s1, hs'⟩ : ∃ s1 : Sc, { s with a := C.put s.a r (C.tch h.v (t : Int) (s.a r)) } = s1 := ⟨_, rfl⟩
  have HB : Hid (hA h s pa = b) := hb
  have HB' : Hid (decide ((t : Int) ∈ s.a r) = b) := hb'
  have HS1 : Hid ({ s with a := C.put s.a r (C.tch h.v (t : Int) (s.a r)) } = s1) := hs'
  have HT' : Hid (pa / 16 = t) := ht
  have HR' : Hid (t % h.s = r) := hr
  clear hb hb' hs' ht hr
  go_region_held3 (fun V => V.cell? ⟨P.h, 20, none⟩ = some (.pointer (some ⟨P.a, 0, none⟩)) ∧ V.cell? ⟨P.h, 3, none⟩ = some (.int .i64 h.s))
    (first | exact ⟨X1.out.c.d20, X1.out.c.d3⟩ | exact ⟨HD.out.c.d20, HD.out.c.d3⟩)
    (first | (go_at_call 119; refine (C.rTouch_ok HD.out.c.l1 r hi (t : Int) (by omega) (by omega)).mono ?_; rw [HB'.out]; rintro e w1 ⟨rfl, F1, ca1, kp1⟩; obtain ⟨G1, cw1, kg1⟩ := HD.out.c.t4 ca1 kp1; rw [HS1.out] at cw1; have X1 : Hid (Ut L (un G) w w1 G1 P h s1 w.heap.size (w.heap.size + 1) false false) := HD.out.turn cw1 kg1; clear ca1 kp1 cw1 kg1))
  clear HD HT
  have HF : Hid (Ut L (un G) w w1 G1 P h s1 w.heap.size (w.heap.size + 1) false false) := X1.out
  clear X1
  cases b
  case' true =>
    have m0 : w1.cell? ⟨w.heap.size + 1, 0, none⟩ = some (.bool false) := HF.out.bm.cell 0
    have f0 := HF.out.bm.frozen 0
    have HR : Hid (∃ G', Ut L (un G) w (w1.setCell ⟨w.heap.size + 1, 0, none⟩ (.bool true)) G' P h { tou h s pa with z := s.z } w.heap.size (w.heap.size + 1) (hA h s pa) (hB h s pa)) := by
      refine ⟨G1, ?_⟩
      have e1 : hB h s pa = false := by unfold hB; rw [HB.out]; rfl
      have e2 : { tou h s pa with z := s.z } = s1 := by
        rw [← HS1.out]
        unfold tou i1 tg
        rw [HB.out, HT'.out, HR'.out]
        rfl
      rw [e1, e2, HB.out]
      exact HF.out.met 0 true true false rfl
    go_wp2_with fail
    clear HF m0 f0
    generalize hw4 : (w1.setCell ⟨w.heap.size + 1, 0, none⟩ (.bool true)) = w4 at *
    clear hw4
  case' false =>
    have hc := HO.out.c1
    have hc' := HO.out.c2
    have d1 := HF.out.c.d1
    have d21 := HF.out.c.d21
    have hi2 := i2_lt HO.out pa
    obtain ⟨fr, hfr⟩ : ∃ fr, pa / 256 = fr := ⟨_, rfl⟩
    obtain ⟨o, ho⟩ : ∃ o, fr % h.c = o := ⟨_, rfl⟩
    obtain ⟨m, hm⟩ : ∃ m, t % 16 = m := ⟨_, rfl⟩
    have ho2 : o < 16 := by rw [← ho]; exact Nat.lt_of_lt_of_le (Nat.mod_lt _ hc) hc'
    have hm16 : m < 16 := by omega
    obtain ⟨j, hj⟩ : ∃ j, o * 16 + m = j := ⟨_, rfl⟩
    have hij : i2 h pa = j := by
      unfold i2
      rw [hfr, ho, ← hj, ← hm, ← HT'.out]
      omega
    have HJ : Hid (i2 h pa = j) := hij
    rw [hij] at hi2
    have k1 : (pa : Int) / 256 = (fr : Int) := by omega
    have k2 : (fr : Int).tmod (h.c : Int) = (o : Int) := by rw [Int.tmod_eq_emod_of_nonneg (by omega), ← ho, Int.natCast_emod]
    have k2' : (fr : Int) % (h.c : Int) = (o : Int) := by rw [← ho, Int.natCast_emod]
    have k3 : (t : Int) % 16 = (m : Int) := by omega
    have k3' : (t : Int).tmod 16 = (m : Int) := by rw [Int.tmod_eq_emod_of_nonneg (by omega)]; exact k3
    have k4 : (o : Int) * 16 + (m : Int) = (j : Int) := by omega
    have k5 : ¬ (h.c : Int) = 0 := by omega
    have k5' : ¬ h.c = 0 := by omega
    have hfr2 : fr < 4096 := by omega
    clear hij hfr ho hm
    obtain ⟨d, hd⟩ : ∃ d, decide ((t : Int) ∈ s.b j) = d := ⟨_, rfl⟩
    have HDd : Hid (decide ((t : Int) ∈ s.b j) = d) := hd
    clear hd
    have hsb : s1.b = s.b := by rw [← HS1.out]
    have HD2 : Hid (decide ((t : Int) ∈ s1.b j) = d) := by unfold Hid; rw [hsb]; exact HDd.out
    have hj256 : j < 256 := by omega
    clear hj
    go_wp2_with (first | (go_at_call 119; refine (C.rTouch_ok HF.out.c.ll j hi2 (t : Int) (by omega) (by omega)).mono ?_; rw [HD2.out]; rintro e w3 ⟨rfl, F3, ca3, kp3⟩; obtain ⟨G3, cw3, kg3⟩ := HF.out.c.t5 ca3 kp3; have X3 : Hid (Ut L (un G) _ w3 G3 P h { s1 with b := C.put s1.b j (C.tch h.k t (s1.b j)) } _ _ false false) := HF.out.turn cw3 kg3; have m1 := X3.out.bm.cell 1; have f1 := X3.out.bm.frozen 1; clear ca3 kp3 cw3 kg3))
    have HR : Hid (∃ G', Ut L (un G) w (w3.setCell ⟨w.heap.size + 1, 1, none⟩ (.bool d)) G' P h { tou h s pa with z := s.z } w.heap.size (w.heap.size + 1) (hA h s pa) (hB h s pa)) := by
      refine ⟨G3, ?_⟩
      have e1 : hB h s pa = d := by unfold hB tg; rw [HB.out, HT'.out, HJ.out, HDd.out]; rfl
      have e2 : { tou h s pa with z := s.z } = { s1 with b := C.put s1.b j (C.tch h.k t (s1.b j)) } := by
        rw [← HS1.out]
        unfold tou i1 tg
        rw [HB.out, HT'.out, HJ.out, HR'.out]
        rfl
      rw [e1, e2, HB.out]
      exact X3.out.met 1 d false d rfl
    clear X3 HF m1 f1 HDd HJ hsb hj256 hi2 hc hc' d1 d21 HD2
    generalize hw4 : (w3.setCell ⟨w.heap.size + 1, 1, none⟩ (.bool d)) = w4 at *
    clear hw4
  all_goals
    obtain ⟨G', HZ0⟩ := HR.out
    have HE0 : { ({ tou h s pa with z := s.z } : Sc) with z := IntKind.u64.wrap (s.z + tc h.co (hA h s pa) (hB h s pa)) } = tou h s pa := rfl
    obtain ⟨s2, hs2e⟩ : ∃ s2 : Sc, { tou h s pa with z := s.z } = s2 := ⟨_, rfl⟩
    have hz2 : s2.z = s.z := by rw [← hs2e]
    rw [hs2e] at HZ0 HE0
    clear hs2e HR HS1 HB HB' HT' HR'
    obtain ⟨x, hx⟩ : ∃ x, hA h s pa = x := ⟨_, rfl⟩
    obtain ⟨y, hy⟩ : ∃ y, hB h s pa = y := ⟨_, rfl⟩
    rw [hx, hy] at HZ0 HE0
    have HX : Hid (hA h s pa = x) := hx
    have HY : Hid (hB h s pa = y) := hy
    clear hx hy
    obtain ⟨v, hv⟩ : ∃ v, tc h.co x y = v := ⟨_, rfl⟩
    have CT : Hid (∀ w : World, Calls Tryz.prog 120 #[.agg #[.int .u64 h.co.l1, .int .u64 h.co.llc, .int .u64 h.co.mi, .int .u64 h.co.fa, .int .u64 h.co.st, .int .u64 h.co.di], .agg #[.bool x, .bool y]] w (Two v 0 w)) := fun w => by rw [← hv]; exact rCTouch_ok h.co HO.out.co x y w
    rw [hv] at HE0
    have HE : Hid ({ s2 with z := IntKind.u64.wrap (s.z + v) } = tou h s pa) := HE0
    have HD : Hid (Ut L (un G) w _ G' P h s2 w.heap.size (w.heap.size + 1) x y) := HZ0.drew
    clear hv HE0 HZ0
    go_region_held3 (fun V => (V.cell? ⟨P.h, 6, none⟩ = some (.int .u64 h.co.l1) ∧ V.cell? ⟨P.h, 7, none⟩ = some (.int .u64 h.co.llc) ∧ V.cell? ⟨P.h, 8, none⟩ = some (.int .u64 h.co.mi) ∧ V.cell? ⟨P.h, 9, none⟩ = some (.int .u64 h.co.fa) ∧ V.cell? ⟨P.h, 10, none⟩ = some (.int .u64 h.co.st) ∧ V.cell? ⟨P.h, 11, none⟩ = some (.int .u64 h.co.di)) ∧ V.cell? ⟨w.heap.size + 1, 0, none⟩ = some (.bool x) ∧ V.cell? ⟨w.heap.size + 1, 1, none⟩ = some (.bool y))
      (first | exact ⟨X1.out.c.dc, X1.out.bm.cell 0, X1.out.bm.cell 1⟩ | exact ⟨HD.out.c.dc, HD.out.bm.cell 0, HD.out.bm.cell 1⟩)
      (first | (go_at_call 120; refine (CT.out _).mono ?_; rintro e w5 ⟨rfl, k5⟩; have X1 : Hid (Ut L (un G) w w5 G' P h s2 w.heap.size (w.heap.size + 1) x y) := HD.out.below k5; clear k5))
    all_goals
      clear HD CT
      have cz := X1.out.c.d22
      rw [hz2] at cz
      have fz := X1.out.c.st.frozen 22
      have m0 : w5.cell? ⟨w.heap.size + 1, 0, none⟩ = some (.bool x) := X1.out.bm.cell 0
      have m1 : w5.cell? ⟨w.heap.size + 1, 1, none⟩ = some (.bool y) := X1.out.bm.cell 1
      have r0 : w5.cell? ⟨w.heap.size, 0, none⟩ = some (.bool false) := X1.out.br.cell 0
      have r1 : w5.cell? ⟨w.heap.size, 1, none⟩ = some (.bool false) := X1.out.br.cell 1
      have q0 := X1.out.br.frozen 0
      have q1 := X1.out.br.frozen 1
      have hne : P.h ≠ w.heap.size := by omega
      have hne' : P.h ≠ w.heap.size + 1 := by omega
      go_wp2
      obtain ⟨hB9, hG9⟩ := X1.out.fin (IntKind.u64.wrap (s.z + v)) (wrap_u64 _).1 (wrap_u64 _).2 rfl
      rw [HE.out] at hG9
      exact bodyPost_ret (v := .agg #[.bool x, .bool y]) (results_cell_row Tryz.results81 _ _ w.heap.size 59 _ (0, 0) _ rfl hB9 Tryz.underlying59 rfl Tryz.infoH) rfl ⟨by rw [HX.out, HY.out], hG9⟩
structure Uk (L : Nat → Value) (X0 : Nat → Prop) (w0 w : World) (p : Nat) (h : Hw) (s : Sc) (r m : Nat) (x y : Bool) : Prop where
  c : ∃ X, Cr (rK L) w X p h s ∧ C.Kp X0 X w0 w ∧ ¬ X r ∧ ¬ X m
  br : C.Blk w r 59 [.bool false, .bool false]
  bm : C.Blk w m 59 [.bool x, .bool y]
  rm : r ≠ m
  hr : w0.heap.size ≤ r
  hm : w0.heap.size ≤ m
theorem Uk.au {L : Nat → Value} {X0 : Nat → Prop} {w0 w : World} {p : Nat} {h : Hw} {s : Sc} {r m : Nat} {x y : Bool} (K : Uk L X0 w0 w p h s r m x y) {ao : Option Addr} {l : Nat} {f : Nat → Nat} (ha : AU w0 ao l f) (hX : ∀ b off, ao = some ⟨b, off, none⟩ → ¬ X0 b) : AU w ao l f := by
  obtain ⟨X, _, k, _⟩ := K.c
  exact ha.kp k hX
theorem Uk.one {L : Nat → Value} {X0 : Nat → Prop} {w0 w : World} {p : Nat} {h : Hw} {s : Sc} {r m : Nat} {x y : Bool} (K : Uk L X0 w0 w p h s r m x y) (pa : Nat) (hp : pa < h.n * 256) :
    Calls Tryz.prog 81 #[.pointer (some ⟨p, 0, none⟩), .int .u64 pa] w fun e w' => e = .returned (.agg #[.bool (hA h s pa), .bool (hB h s pa)]) ∧ Uk L X0 w0 w' p h (tou h s pa) r m x y := by
  obtain ⟨X, c, k, nr, nm⟩ := K.c
  refine (one_ok c pa hp).mono ?_
  rintro e w' ⟨rfl, X', c', k'⟩
  have out : ∀ a, a < w.heap.size → ¬ X a → ¬ X' a := by
    intro a ha hn q
    rcases k'.new a q with q | q
    · exact hn q
    · omega
  exact ⟨rfl, ⟨X', c', k.trans k', out r K.br.lt nr, out m K.bm.lt nm⟩, K.br.of_eq (k'.block r K.br.lt nr), K.bm.of_eq (k'.block m K.bm.lt nm), K.rm, K.hr, K.hm⟩
theorem Uk.met {L : Nat → Value} {X0 : Nat → Prop} {w0 w : World} {p : Nat} {h : Hw} {s : Sc} {r m : Nat} {x y : Bool} (K : Uk L X0 w0 w p h s r m x y) (i : Nat) (v : Bool) (x' y' : Bool) (e : [Value.bool x, .bool y].set i (.bool v) = [.bool x', .bool y']) :
    Uk L X0 w0 (w.setCell ⟨m, i, none⟩ (.bool v)) p h s r m x' y' := by
  obtain ⟨X, c, k, nr, nm⟩ := K.c
  have g := C.grown_setCell' w m i (.bool v)
  have hb := K.bm.set i (.bool v)
  rw [e] at hb
  have hm := K.hm
  refine ⟨⟨X, c.of_eq g.size (fun a ha => g.block a (c.lt a ha) (C.some_ne (fun q => nm (q ▸ ha)))), ⟨g.os.trans k.os, g.tape.trans k.tape, g.output.trans k.output, Nat.le_trans k.size g.size, fun a ha hn => (g.block a (Nat.lt_of_lt_of_le ha k.size) (C.some_ne (by omega))).trans (k.block a ha hn), k.new⟩, nr, nm⟩,
    K.br.kept g (C.some_ne K.rm), hb, K.rm, K.hr, K.hm⟩
theorem Uk.fin {L : Nat → Value} {X0 : Nat → Prop} {w0 w : World} {p : Nat} {h : Hw} {s : Sc} {r m : Nat} {x y : Bool} (K : Uk L X0 w0 w p h s r m x y) {w9 : World} (u v : Bool) (e : w9 = (w.setCell ⟨r, 0, none⟩ (.bool u)).setCell ⟨r, 1, none⟩ (.bool v)) :
    C.Blk w9 r 59 [.bool u, .bool v] ∧ Gv (rK L) w0 X0 p h s w9 := by
  subst e
  obtain ⟨X, c, k, nr, nm⟩ := K.c
  have b1 := (K.br.set 0 (.bool u)).set 1 (.bool v)
  have g := (C.grown_setCell' w r 0 (.bool u)).trans (C.grown_setCell' (w.setCell ⟨r, 0, none⟩ (.bool u)) r 1 (.bool v))
  have hr := K.hr
  exact ⟨b1, X, c.of_eq g.size (fun a ha => g.block a (c.lt a ha) (C.some_ne (fun q => nr (q ▸ ha)))), ⟨g.os.trans k.os, g.tape.trans k.tape, g.output.trans k.output, Nat.le_trans k.size g.size, fun a ha hn => (g.block a (Nat.lt_of_lt_of_le ha k.size) (C.some_ne (by omega))).trans (k.block a ha hn), k.new⟩⟩
end Go.Proofs.YtokaohlgncmoaaaGreat.E
