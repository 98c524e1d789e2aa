/- A core's state in plain numbers, and what touches make of it; no condition. -/
import Derived.Test.YtkbpnkjjmipjfaaGreatVHc
import Derived.Test.YtkbpnkjjmipjfaaGreatVHf
import Derived.Test.YtkbpnkjjmipjfaaGreatVFa
import Derived.Test.YtkbpnkjjmipjfaaGreatVHa
import Derived.Test.YtkbpnkjjmipjfaaGreatVHi
import Derived.Test.YtkbpnkjjmipjfaaGreatVPc
import Derived.Deep.RegionHeld3
namespace Go.Proofs.YtkbpnkjjmipjfaaGreat.E
open Go.ChangeShapes Go.WideShapes Go.ChangeAt Go.RowKit
set_option linter.unusedVariables false

structure Hw where
  n : Nat
  t : Nat
  d : Nat
  s : Nat
  v : Nat
  c : Nat
  k : Nat
  co : Co
structure Hw.Ok (h : Hw) : Prop where
  n1 : 1 ≤ h.n
  n2 : h.n ≤ 4096
  t1 : 1 ≤ h.t
  t2 : h.t ≤ 64
  d2 : h.d ≤ 1024
  s1 : 1 ≤ h.s
  s2 : h.s ≤ 4096
  v1 : 1 ≤ h.v
  v2 : h.v ≤ 16
  c1 : 1 ≤ h.c
  c2 : h.c ≤ 16
  k1 : 1 ≤ h.k
  k2 : h.k ≤ 16
  co : okC h.co = true
structure Sc where
  m : Nat → Int
  l : List T.Tr
  p : Nat → Option (Nat → Int)
  a : Nat → List Int
  b : Nat → List Int
  z : Int
def tg (pa : Nat) : Int := ((pa / 16 : Nat) : Int)
def i1 (h : Hw) (pa : Nat) : Nat := pa / 16 % h.s
def i2 (h : Hw) (pa : Nat) : Nat := pa / 256 % h.c * 16 + pa % 256 / 16
def hA (h : Hw) (s : Sc) (pa : Nat) : Bool := decide (tg pa ∈ s.a (i1 h pa))
def hB (h : Hw) (s : Sc) (pa : Nat) : Bool := !hA h s pa && decide (tg pa ∈ s.b (i2 h pa))
def tou (h : Hw) (s : Sc) (pa : Nat) : Sc :=
  { s with
    a := C.put s.a (i1 h pa) (C.tch h.v (tg pa) (s.a (i1 h pa)))
    b := bif hA h s pa then s.b else C.put s.b (i2 h pa) (C.tch h.k (tg pa) (s.b (i2 h pa)))
    z := IntKind.u64.wrap (s.z + tc h.co (hA h s pa) (hB h s pa)) }
def tw (h : Hw) (s : Sc) (f : Nat → Nat) : Nat → Sc
  | 0 => s
  | k + 1 => tou h (tw h s f k) (f k)
def lh (h : Hw) (s : Sc) (f : Nat → Nat) : Nat → Bool × Bool
  | 0 => (false, false)
  | k + 1 => (hA h (tw h s f k) (f k), hB h (tw h s f k) (f k))
theorem i2_lt {h : Hw} (o : h.Ok) (pa : Nat) : i2 h pa < h.c * 16 := by
  unfold i2
  have h1 : pa / 256 % h.c < h.c := Nat.mod_lt _ o.c1
  have h2 : pa % 256 / 16 < 16 := by omega
  omega
theorem wrap_u64 (x : Int) : 0 ≤ IntKind.u64.wrap x ∧ IntKind.u64.wrap x < 18446744073709551616 := by
  simp only [IntKind.wrap, IntKind.signed, IntKind.bits]
  constructor
  · simp; omega
  · simp; omega
end Go.Proofs.YtkbpnkjjmipjfaaGreat.E
namespace Go.Proofs.YtkbpnkjjmipjfaaGreat.E
open Go.ChangeShapes Go.WideShapes Go.ChangeAt Go.RowKit
set_option linter.unusedVariables false

theorem _root_.Go.Proofs.YtkbpnkjjmipjfaaGreat.F.Mem.of_eq {w w' : World} {p g n : Nat} {f : Nat → Int} (h : F.Mem w p g n f) (hs : w.heap.size ≤ w'.heap.size) (ep : w'.heap[p]? = w.heap[p]?) (eg : w'.heap[g]? = w.heap[g]?) : F.Mem w' p g n f :=
  ⟨Nat.lt_of_lt_of_le h.lt hs, (World.cell?_of_block (w := w) (a := ⟨p, 0, none⟩) ep).trans h.cell,
   ⟨Nat.lt_of_lt_of_le h.by'.1 hs, fun i hi => ⟨(World.cell?_of_block (w := w) (a := ⟨g, i, none⟩) eg).trans (h.by'.2 i hi).1, (World.frozen?_of_block (w := w) (a := ⟨g, i, none⟩) eg).trans (h.by'.2 i hi).2⟩⟩, h.ne, h.ok⟩
theorem _root_.Go.Proofs.YtkbpnkjjmipjfaaGreat.D.Dk.of_eq {w w' : World} {p b N : Nat} {m : Nat → Option (Nat → Int)} (h : D.Dk w p b N m) (ep : w'.heap[p]? = w.heap[p]?) (eb : w'.heap[b]? = w.heap[b]?) : D.Dk w' p b N m := by
  obtain ⟨D, ⟨es, clock, hb, F, hs, hD⟩, hv⟩ := h.mp
  exact ⟨h.st.of_eq ep, ⟨D, ⟨es, clock, eb.trans hb, F, hs, hD⟩, hv⟩, h.ne, h.n⟩
theorem kpT {X X' : Nat → Prop} {w w' : World} (h : T.Kp X X' w w') : C.Kp X X' w w' := ⟨h.os, h.tape, h.output, h.size, h.block, h.new⟩
theorem kp_of_below (X : Nat → Prop) {w w' : World} (h : Below w.heap.size w w') : C.Kp X X w w' :=
  ⟨h.os, h.tape, h.output, h.size, fun k hk _ => h.block k hk, fun _ q => Or.inl q⟩
structure Pl where
  h : Nat
  m : Nat
  g : Nat
  t : Nat
  d : Nat
  e : Nat
  a : Nat
  b : Nat
structure Kd where
  ty : TypeId
  L : Pl → Hw → Int → List Value
  ix : Nat
  D : World → (Nat → Prop) → Pl → Hw → (Nat → Option (Nat → Int)) → Prop
  set : ∀ P h z z', (L P h z).set ix (.int .u64 z') = L P h z'
  stay : ∀ w w' X P h m, D w X P h m → w.heap.size ≤ w'.heap.size → (∀ k, X k → w'.heap[k]? = w.heap[k]?) → D w' X P h m
def un (G : Nat → Nat → Prop) : Nat → Prop := fun k => ∃ i, G i k
structure Cw (q : Kd) (w : World) (G : Nat → Nat → Prop) (P : Pl) (h : Hw) (s : Sc) : Prop where
  lt : ∀ i k, G i k → k < w.heap.size
  dis : ∀ i j k, i ≠ j → G i k → ¬ G j k
  ok : h.Ok
  st : C.Blk w P.h q.ty (q.L P h s.z)
  g0 : G 0 P.h
  mm : F.Mem w P.m P.g h.n s.m
  gm : G 1 P.m
  gg : G 1 P.g
  tl : T.Ca w (G 2) P.t h.t s.l
  dk : q.D w (G 3) P h s.p
  l1 : C.Ca w (G 4) P.a h.s h.v s.a
  ll : C.Ca w (G 5) P.b (h.c * 16) h.k s.b
  z0 : 0 ≤ s.z
  z1 : s.z < 18446744073709551616
theorem part_turn {w w' : World} {G : Nat → Nat → Prop} {X : Nat → Prop} (i : Nat) (lt : ∀ i k, G i k → k < w.heap.size) (dis : ∀ i j k, i ≠ j → G i k → ¬ G j k) (k : C.Kp (G i) X w w') (hX : ∀ k, X k → k < w'.heap.size) :
    (∀ j k, C.put G i X j k → k < w'.heap.size) ∧ (∀ j j' k, j ≠ j' → C.put G i X j k → ¬ C.put G i X j' k) ∧ (∀ j k, j ≠ i → G j k → w'.heap[k]? = w.heap[k]?) ∧ C.Kp (un G) (un (C.put G i X)) w w' := by
  have out : ∀ j k, j ≠ i → G j k → ¬ X k := by
    intro j x hj hg hx
    rcases k.new x hx with q | q
    · exact dis j i x hj hg q
    · have := lt j x hg; omega
  have cs : ∀ j x, C.put G i X j x → (j = i ∧ X x) ∨ (j ≠ i ∧ G j x) := by
    intro j x hx
    by_cases e : j = i
    · subst e; rw [C.put_same] at hx; exact Or.inl ⟨rfl, hx⟩
    · rw [C.put_other _ _ _ _ e] at hx; exact Or.inr ⟨e, hx⟩
  refine ⟨?_, ?_, fun j x hj hg => k.block x (lt j x hg) (fun q => dis j i x hj hg q), ⟨k.os, k.tape, k.output, k.size, fun x hx hn => k.block x hx (fun q => hn ⟨i, q⟩), ?_⟩⟩
  · intro j x hx
    rcases cs j x hx with ⟨_, q⟩ | ⟨_, q⟩
    · exact hX x q
    · exact Nat.lt_of_lt_of_le (lt j x q) k.size
  · intro j j' x hne hx hx'
    rcases cs j x hx with ⟨e, q⟩ | ⟨e, q⟩
    · rcases cs j' x hx' with ⟨e', q'⟩ | ⟨e', q'⟩
      · exact hne (e.trans e'.symm)
      · exact out j' x e' q' q
    · rcases cs j' x hx' with ⟨e', q'⟩ | ⟨e', q'⟩
      · exact out j x e q q'
      · exact dis j j' x hne q q'
  · rintro x ⟨j, hx⟩
    rcases cs j x hx with ⟨_, q⟩ | ⟨_, q⟩
    · rcases k.new x q with q | q
      · exact Or.inl ⟨i, q⟩
      · exact Or.inr q
    · exact Or.inl ⟨j, q⟩
theorem put0 {G : Nat → Nat → Prop} {X : Nat → Prop} {i j : Nat} (h : j ≠ i) : C.put G i X j = G j := C.put_other _ _ _ _ h
theorem Cw.t0 {q : Kd} {w : World} {G : Nat → Nat → Prop} {P : Pl} {h : Hw} {s : Sc} (K : Cw q w G P h s) (z : Int) (z0 : 0 ≤ z) (z1 : z < 18446744073709551616) :
    Cw q (w.setCell ⟨P.h, q.ix, none⟩ (.int .u64 z)) G P h { s with z := z } ∧ C.Kp (un G) (un G) w (w.setCell ⟨P.h, q.ix, none⟩ (.int .u64 z)) := by
  have hs : (w.setCell ⟨P.h, q.ix, none⟩ (.int .u64 z)).heap.size = w.heap.size := by simp [World.setCell]
  have g := C.grown_setCell' w P.h q.ix (.int .u64 z)
  have k : C.Kp (G 0) (G 0) w (w.setCell ⟨P.h, q.ix, none⟩ (.int .u64 z)) := C.Kp.of_grown g (fun x hx => by cases hx; exact K.g0) (fun _ q => Or.inl q)
  have o : ∀ j x, j ≠ 0 → G j x → (w.setCell ⟨P.h, q.ix, none⟩ (.int .u64 z)).heap[x]? = w.heap[x]? := fun j x hj hg => k.block x (K.lt j x hg) (fun q => K.dis j 0 x hj hg q)
  have hst := K.st.set q.ix (.int .u64 z)
  rw [q.set] at hst
  exact ⟨⟨fun i x hx => by rw [hs]; exact K.lt i x hx, K.dis, K.ok, hst, K.g0, K.mm.of_eq g.size (o 1 _ (by decide) K.gm) (o 1 _ (by decide) K.gg), K.gm, K.gg, K.tl.of_eq g.size (fun x hx => o 2 x (by decide) hx), q.stay _ _ _ _ _ _ K.dk g.size (fun x hx => o 3 x (by decide) hx), K.l1.of_eq g.size (fun x hx => o 4 x (by decide) hx), K.ll.of_eq g.size (fun x hx => o 5 x (by decide) hx), z0, z1⟩, ⟨k.os, k.tape, k.output, k.size, fun x hx hn => k.block x hx (fun q => hn ⟨0, q⟩), fun _ q => Or.inl q⟩⟩
theorem Cw.t4 {q : Kd} {w w' : World} {G : Nat → Nat → Prop} {P : Pl} {h : Hw} {s : Sc} (K : Cw q w G P h s) {a : Nat → List Int} {X : Nat → Prop} (c : C.Ca w' X P.a h.s h.v a) (k : C.Kp (G 4) X w w') :
    ∃ G', Cw q w' G' P h { s with a := a } ∧ C.Kp (un G) (un G') w w' := by
  obtain ⟨a1, a2, o, a4⟩ := part_turn 4 K.lt K.dis k c.1
  exact ⟨C.put G 4 X, ⟨a1, a2, K.ok, K.st.of_eq (o 0 _ (by decide) K.g0), by rw [put0 (by decide)]; exact K.g0, K.mm.of_eq k.size (o 1 _ (by decide) K.gm) (o 1 _ (by decide) K.gg), by rw [put0 (by decide)]; exact K.gm, by rw [put0 (by decide)]; exact K.gg, by rw [put0 (by decide)]; exact K.tl.of_eq k.size (fun x hx => o 2 x (by decide) hx), by rw [put0 (by decide)]; exact q.stay _ _ _ _ _ _ K.dk k.size (fun x hx => o 3 x (by decide) hx), by rw [C.put_same]; exact c, by rw [put0 (by decide)]; exact K.ll.of_eq k.size (fun x hx => o 5 x (by decide) hx), K.z0, K.z1⟩, a4⟩
theorem Cw.t5 {q : Kd} {w w' : World} {G : Nat → Nat → Prop} {P : Pl} {h : Hw} {s : Sc} (K : Cw q w G P h s) {b : Nat → List Int} {X : Nat → Prop} (c : C.Ca w' X P.b (h.c * 16) h.k b) (k : C.Kp (G 5) X w w') :
    ∃ G', Cw q w' G' P h { s with b := b } ∧ C.Kp (un G) (un G') w w' := by
  obtain ⟨a1, a2, o, a4⟩ := part_turn 5 K.lt K.dis k c.1
  exact ⟨C.put G 5 X, ⟨a1, a2, K.ok, K.st.of_eq (o 0 _ (by decide) K.g0), by rw [put0 (by decide)]; exact K.g0, K.mm.of_eq k.size (o 1 _ (by decide) K.gm) (o 1 _ (by decide) K.gg), by rw [put0 (by decide)]; exact K.gm, by rw [put0 (by decide)]; exact K.gg, by rw [put0 (by decide)]; exact K.tl.of_eq k.size (fun x hx => o 2 x (by decide) hx), by rw [put0 (by decide)]; exact q.stay _ _ _ _ _ _ K.dk k.size (fun x hx => o 3 x (by decide) hx), by rw [put0 (by decide)]; exact K.l1.of_eq k.size (fun x hx => o 4 x (by decide) hx), by rw [C.put_same]; exact c, K.z0, K.z1⟩, a4⟩
theorem Cw.of_eq {q : Kd} {w w' : World} {G : Nat → Nat → Prop} {P : Pl} {h : Hw} {s : Sc} (K : Cw q w G P h s) (hs : w.heap.size ≤ w'.heap.size) (e : ∀ k, un G k → w'.heap[k]? = w.heap[k]?) : Cw q w' G P h s := by
  have o : ∀ j x, G j x → w'.heap[x]? = w.heap[x]? := fun j x hg => e x ⟨j, hg⟩
  exact ⟨fun i x hx => Nat.lt_of_lt_of_le (K.lt i x hx) hs, K.dis, K.ok, K.st.of_eq (o 0 _ K.g0), K.g0, K.mm.of_eq hs (o 1 _ K.gm) (o 1 _ K.gg), K.gm, K.gg, K.tl.of_eq hs (fun x hx => o 2 x hx), q.stay _ _ _ _ _ _ K.dk hs (fun x hx => o 3 x hx),
    K.l1.of_eq hs (fun x hx => o 4 x hx), K.ll.of_eq hs (fun x hx => o 5 x hx), K.z0, K.z1⟩
def Cr (q : Kd) (w : World) (X : Nat → Prop) (p : Nat) (h : Hw) (s : Sc) : Prop := ∃ G P, Cw q w G P h s ∧ P.h = p ∧ X = un G
theorem Cr.lt {q : Kd} {w : World} {X : Nat → Prop} {p : Nat} {h : Hw} {s : Sc} (K : Cr q w X p h s) : ∀ k, X k → k < w.heap.size := by
  obtain ⟨G, P, c, rfl, rfl⟩ := K
  rintro k ⟨i, q⟩
  exact c.lt i k q
theorem Cr.of_eq {q : Kd} {w w' : World} {X : Nat → Prop} {p : Nat} {h : Hw} {s : Sc} (K : Cr q w X p h s) (hs : w.heap.size ≤ w'.heap.size) (e : ∀ k, X k → w'.heap[k]? = w.heap[k]?) : Cr q w' X p h s := by
  obtain ⟨G, P, c, rfl, rfl⟩ := K
  exact ⟨G, P, c.of_eq hs e, rfl, rfl⟩
theorem Cr.below {q : Kd} {w w' : World} {X : Nat → Prop} {p : Nat} {h : Hw} {s : Sc} (K : Cr q w X p h s) (k : Below w.heap.size w w') : Cr q w' X p h s := K.of_eq k.size (fun i hi => k.block i (K.lt i hi))
theorem Cr.ok {q : Kd} {w : World} {X : Nat → Prop} {p : Nat} {h : Hw} {s : Sc} (K : Cr q w X p h s) : h.Ok := by
  obtain ⟨G, P, c, rfl, rfl⟩ := K
  exact c.ok
def Gv (q : Kd) (w : World) (X : Nat → Prop) (p : Nat) (h : Hw) (s' : Sc) (w' : World) : Prop := ∃ X', Cr q w' X' p h s' ∧ C.Kp X X' w w'
theorem Gv.below {q : Kd} {w w1 w2 : World} {X : Nat → Prop} {p : Nat} {h : Hw} {s : Sc} (g : Gv q w X p h s w1) (b : Below w1.heap.size w1 w2) : Gv q w X p h s w2 := by
  obtain ⟨X1, c, k⟩ := g
  exact ⟨X1, c.below b, k.trans (kp_of_below _ b)⟩
def cL (P : Pl) (h : Hw) (z : Int) : List Value :=
  [.pointer (some ⟨P.m, 0, none⟩), .pointer (some ⟨P.t, 0, none⟩), .pointer (some ⟨P.d, 0, none⟩), .pointer (some ⟨P.a, 0, none⟩), .pointer (some ⟨P.b, 0, none⟩), .int .i64 h.s, .int .i64 h.c,
   .int .u64 h.co.l1, .int .u64 h.co.llc, .int .u64 h.co.mi, .int .u64 h.co.fa, .int .u64 h.co.st, .int .u64 h.co.di, .int .u64 z]
def pK : Kd where
  ty := 93
  L := cL
  ix := 13
  D := fun w X P h m => D.Dk w P.d P.e h.d m ∧ X P.d ∧ X P.e
  set := fun P h z z' => rfl
  stay := fun w w' X P h m k hs e => ⟨k.1.of_eq (e _ k.2.1) (e _ k.2.2), k.2.1, k.2.2⟩
end Go.Proofs.YtkbpnkjjmipjfaaGreat.E
namespace Go.Proofs.YtkbpnkjjmipjfaaGreat
open Go.ChangeShapes Go.WideShapes Go.ChangeAt Go.RowKit
set_option linter.unusedVariables false
set_option maxRecDepth 8192

theorem CTouch_no (c : Co) (h : okC c = false) (a b : Bool) (w : World) : Calls Tryz.prog 179 #[.agg #[.int .u64 c.l1, .int .u64 c.llc, .int .u64 c.mi, .int .u64 c.fa, .int .u64 c.st, .int .u64 c.di], .agg #[.bool a, .bool b]] w (Two 0 100 w) := by
  have hb := below_two w (.cells #[.int .u64 c.l1, .int .u64 c.llc, .int .u64 c.mi, .int .u64 c.fa, .int .u64 c.st, .int .u64 c.di] 24) (.cells #[.bool a, .bool b] 196)
  have C := Check_any c ((w.alloc (.cells #[.int .u64 c.l1, .int .u64 c.llc, .int .u64 c.mi, .int .u64 c.fa, .int .u64 c.st, .int .u64 c.di] 24)).alloc (.cells #[.bool a, .bool b] 196))
  rw [er_f h] at C
  clear h
  go_enter Tryz.func179, Tryz.ntmps179
  go_wp2_with fail
  refine C.mono ?_
  rintro e w1 ⟨rfl, k⟩
  clear C
  go_wp2
  go_ret2
  exact ⟨rfl, hb.trans (k.mono (by simp; omega))⟩
theorem CTouch_ok (c : Co) (h : okC c = true) (a b : Bool) (w : World) : Calls Tryz.prog 179 #[.agg #[.int .u64 c.l1, .int .u64 c.llc, .int .u64 c.mi, .int .u64 c.fa, .int .u64 c.st, .int .u64 c.di], .agg #[.bool a, .bool b]] w (Two (tc c a b) 0 w) := by
  have hb := below_two w (.cells #[.int .u64 c.l1, .int .u64 c.llc, .int .u64 c.mi, .int .u64 c.fa, .int .u64 c.st, .int .u64 c.di] 24) (.cells #[.bool a, .bool b] 196)
  have S := (six_new w c).below (below_new _ (.cells #[.bool a, .bool b] 196))
  have C := Check_any c ((w.alloc (.cells #[.int .u64 c.l1, .int .u64 c.llc, .int .u64 c.mi, .int .u64 c.fa, .int .u64 c.st, .int .u64 c.di] 24)).alloc (.cells #[.bool a, .bool b] 196))
  rw [er_t h] at C
  clear h
  go_enter Tryz.func179, Tryz.ntmps179
  go_wp2_with fail
  refine C.mono ?_
  rintro e w1 ⟨rfl, k⟩
  have FIN : Hid (Below w.heap.size w w1) := hb.trans (k.mono (by simp; omega))
  obtain ⟨_, c0, c1, c2, c3, c4, c5⟩ := S.below k
  have d0 : w1.cell? ⟨w.heap.size + 1, 0, none⟩ = some (.bool a) := (k.cell (by simp)).trans (by simp)
  have d1 : w1.cell? ⟨w.heap.size + 1, 1, none⟩ = some (.bool b) := (k.cell (by simp)).trans (by simp)
  clear C k S hb
  cases a <;> cases b
  all_goals (go_wp2; go_ret2; exact ⟨rfl, FIN.out⟩)
theorem Line_ok (a : Nat) (h1 : a < 1048576) (w : World) :
    Calls Tryz.prog 176 #[.int .u64 a] w fun e w' => e = .returned (.tuple #[.int .i64 ((a / 16 : Nat) : Int), .int .i64 0]) ∧ w' = w := by
  have hz : ((a : Int) / 1048576 != 0) = false := by simp; omega
  go_enter Tryz.func176, Tryz.ntmps176
  go_wp2
  go_ret2
  exact ⟨rfl, rfl⟩
end Go.Proofs.YtkbpnkjjmipjfaaGreat
namespace Go.Proofs.YtkbpnkjjmipjfaaGreat.E
open Go.ChangeShapes Go.WideShapes Go.ChangeAt Go.RowKit
set_option linter.unusedVariables false
set_option maxRecDepth 8192

theorem made_ok {w : World} {p : Nat} {a : Addr} (hc : w.cell? ⟨p, 3, none⟩ = some (.pointer (some a))) : Calls Tryz.prog 69 #[.pointer (some ⟨p, 0, none⟩)] w fun e w' => e = .returned (.bool true) ∧ w' = w := by
  go_enter Tryz.func69, Tryz.ntmps69
  go_wp2
  go_ret
  exact ⟨rfl, rfl⟩
theorem Cw.c0 {w : World} {G : Nat → Nat → Prop} {P : Pl} {h : Hw} {s : Sc} (K : Cw pK w G P h s) : w.cell? ⟨P.h, 0, none⟩ = some (.pointer (some ⟨P.m, 0, none⟩)) := K.st.cell 0
theorem Cw.c3 {w : World} {G : Nat → Nat → Prop} {P : Pl} {h : Hw} {s : Sc} (K : Cw pK w G P h s) : w.cell? ⟨P.h, 3, none⟩ = some (.pointer (some ⟨P.a, 0, none⟩)) := K.st.cell 3
theorem Cw.c4 {w : World} {G : Nat → Nat → Prop} {P : Pl} {h : Hw} {s : Sc} (K : Cw pK w G P h s) : w.cell? ⟨P.h, 4, none⟩ = some (.pointer (some ⟨P.b, 0, none⟩)) := K.st.cell 4
theorem Cw.c5 {w : World} {G : Nat → Nat → Prop} {P : Pl} {h : Hw} {s : Sc} (K : Cw pK w G P h s) : w.cell? ⟨P.h, 5, none⟩ = some (.int .i64 h.s) := K.st.cell 5
theorem Cw.c6 {w : World} {G : Nat → Nat → Prop} {P : Pl} {h : Hw} {s : Sc} (K : Cw pK w G P h s) : w.cell? ⟨P.h, 6, none⟩ = some (.int .i64 h.c) := K.st.cell 6
theorem Cw.cz {w : World} {G : Nat → Nat → Prop} {P : Pl} {h : Hw} {s : Sc} (K : Cw pK w G P h s) : w.cell? ⟨P.h, 13, none⟩ = some (.int .u64 s.z) := K.st.cell 13
def Sxc (w : World) (g : Nat) (c : Co) : Prop := w.cell? ⟨g, 7, none⟩ = some (.int .u64 c.l1) ∧ w.cell? ⟨g, 8, none⟩ = some (.int .u64 c.llc) ∧ w.cell? ⟨g, 9, none⟩ = some (.int .u64 c.mi) ∧ w.cell? ⟨g, 10, none⟩ = some (.int .u64 c.fa) ∧ w.cell? ⟨g, 11, none⟩ = some (.int .u64 c.st) ∧ w.cell? ⟨g, 12, none⟩ = some (.int .u64 c.di)
theorem Cw.cc {w : World} {G : Nat → Nat → Prop} {P : Pl} {h : Hw} {s : Sc} (K : Cw pK w G P h s) : Sxc w P.h h.co := ⟨K.st.cell 7, K.st.cell 8, K.st.cell 9, K.st.cell 10, K.st.cell 11, K.st.cell 12⟩
structure Tt (X0 : Nat → Prop) (w0 w : World) (G : Nat → Nat → Prop) (P : Pl) (h : Hw) (s : Sc) (r m : Nat) (x y : Bool) : Prop where
  c : Cw pK w G P h s
  k : C.Kp X0 (un G) w0 w
  br : C.Blk w r 196 [.bool false, .bool false]
  bm : C.Blk w m 196 [.bool x, .bool y]
  nr : ¬ un G r
  nm : ¬ un G m
  rm : r ≠ m
  hr : w0.heap.size ≤ r
  hm : w0.heap.size ≤ m
theorem Tt.drew {X0 : Nat → Prop} {w0 w : World} {G : Nat → Nat → Prop} {P : Pl} {h : Hw} {s : Sc} {r m : Nat} {x y : Bool} (K : Tt X0 w0 w G P h s r m x y) : Tt X0 w0 w.drew G P h s r m x y :=
  ⟨K.c.of_eq (Nat.le_refl _) (fun _ _ => rfl), K.k.trans (kp_of_below _ ((Below.refl _ _).drew)), K.br, K.bm, K.nr, K.nm, K.rm, K.hr, K.hm⟩
theorem Tt.below {X0 : Nat → Prop} {w0 w w' : World} {G : Nat → Nat → Prop} {P : Pl} {h : Hw} {s : Sc} {r m : Nat} {x y : Bool} (K : Tt X0 w0 w G P h s r m x y) (b : Below w.heap.size w w') : Tt X0 w0 w' G P h s r m x y :=
  ⟨K.c.of_eq b.size (fun i ⟨j, hj⟩ => b.block i (K.c.lt j i hj)), K.k.trans (kp_of_below _ b), K.br.of_eq (b.block r K.br.lt), K.bm.of_eq (b.block m K.bm.lt), K.nr, K.nm, K.rm, K.hr, K.hm⟩
theorem Tt.turn {X0 : Nat → Prop} {w0 w w' : World} {G G' : Nat → Nat → Prop} {P : Pl} {h : Hw} {s s' : Sc} {r m : Nat} {x y : Bool} (K : Tt X0 w0 w G P h s r m x y) (c : Cw pK w' G' P h s') (k : C.Kp (un G) (un G') w w') : Tt X0 w0 w' G' P h s' r m x y := by
  have out : ∀ a, a < w.heap.size → ¬ un G a → ¬ un G' a := by
    intro a ha hn q
    rcases k.new a q with q | q
    · exact hn q
    · omega
  exact ⟨c, K.k.trans k, K.br.of_eq (k.block r K.br.lt K.nr), K.bm.of_eq (k.block m K.bm.lt K.nm), out r K.br.lt K.nr, out m K.bm.lt K.nm, K.rm, K.hr, K.hm⟩
theorem Tt.met {X0 : Nat → Prop} {w0 w : World} {G : Nat → Nat → Prop} {P : Pl} {h : Hw} {s : Sc} {r m : Nat} {x y : Bool} (K : Tt X0 w0 w G P h s r m x y) (i : Nat) (v : Bool) (x' y' : Bool) (e : [Value.bool x, .bool y].set i (.bool v) = [.bool x', .bool y']) :
    Tt X0 w0 (w.setCell ⟨m, i, none⟩ (.bool v)) G P h s r m x' y' := by
  have g := C.grown_setCell' w m i (.bool v)
  have hb := K.bm.set i (.bool v)
  rw [e] at hb
  refine ⟨K.c.of_eq g.size (fun a ha => g.block a (by obtain ⟨j, hj⟩ := ha; exact K.c.lt j a hj) (C.some_ne (fun q => K.nm (q ▸ ha)))), ⟨g.os.trans K.k.os, g.tape.trans K.k.tape, g.output.trans K.k.output, Nat.le_trans K.k.size g.size, fun a ha hn => (g.block a (Nat.lt_of_lt_of_le ha K.k.size) (C.some_ne (by have := K.hm; omega))).trans (K.k.block a ha hn), K.k.new⟩,
    K.br.kept g (C.some_ne K.rm), hb, K.nr, K.nm, K.rm, K.hr, K.hm⟩
theorem tt_new {w : World} {G : Nat → Nat → Prop} {P : Pl} {h : Hw} {s : Sc} (K : Cw pK w G P h s) : Tt (un G) w ((w.alloc (.cells #[.bool false, .bool false] 196)).alloc (.cells #[.bool false, .bool false] 196)) G P h s w.heap.size (w.heap.size + 1) false false := by
  have b : Below w.heap.size w ((w.alloc (.cells #[.bool false, .bool false] 196)).alloc (.cells #[.bool false, .bool false] 196)) := ((Below.refl _ _).alloc (Nat.le_refl _) _).alloc (by simp) _
  have lt : ∀ a, un G a → a < w.heap.size := fun a ⟨j, hj⟩ => K.lt j a hj
  refine ⟨K.of_eq b.size (fun i hi => b.block i (lt i hi)), kp_of_below _ b, ?_, ?_, fun q => by have := lt _ q; omega, fun q => by have := lt _ q; omega, by omega, by omega, by omega⟩
  · exact (C.blk_new w [.bool false, .bool false] 196).kept (World.grownBy_alloc _ _ none) (by simp)
  · have := C.blk_new (w.alloc (.cells #[.bool false, .bool false] 196)) [.bool false, .bool false] 196
    simpa using this
theorem Tryz.infoH : (Tryz.prog.info? 196).map (·.size) = some 2 := by kernel_rfl
theorem Tt.fin {X0 : Nat → Prop} {w0 w : World} {G : Nat → Nat → Prop} {P : Pl} {h : Hw} {s : Sc} {r m : Nat} {x y : Bool} (K : Tt X0 w0 w G P h s r m x y) (z : Int) (z0 : 0 ≤ z) (z1 : z < 18446744073709551616) {w9 : World} (e : w9 = ((w.setCell ⟨P.h, 13, none⟩ (.int .u64 z)).setCell ⟨r, 0, none⟩ (.bool x)).setCell ⟨r, 1, none⟩ (.bool y)) :
    C.Blk w9 r 196 [.bool x, .bool y] ∧ Gv pK w0 X0 P.h h { s with z := z } w9 := by
  subst e
  obtain ⟨c1, k1⟩ := K.c.t0 z z0 z1
  have T1 := K.turn c1 k1
  have b1 := (T1.br.set 0 (.bool x)).set 1 (.bool y)
  have g1 := C.grown_setCell' (w.setCell ⟨P.h, 13, none⟩ (.int .u64 z)) r 0 (.bool x)
  have g2 := C.grown_setCell' ((w.setCell ⟨P.h, 13, none⟩ (.int .u64 z)).setCell ⟨r, 0, none⟩ (.bool x)) r 1 (.bool y)
  have g := g1.trans g2
  refine ⟨b1, un G, ⟨G, P, T1.c.of_eq g.size (fun a ha => g.block a (by obtain ⟨j, hj⟩ := ha; exact T1.c.lt j a hj) (C.some_ne (fun q => T1.nr (q ▸ ha)))), rfl, rfl⟩, ?_⟩
  exact ⟨g.os.trans T1.k.os, g.tape.trans T1.k.tape, g.output.trans T1.k.output, Nat.le_trans T1.k.size g.size, fun a ha hn => (g.block a (Nat.lt_of_lt_of_le ha T1.k.size) (C.some_ne (by have := T1.hr; omega))).trans (T1.k.block a ha hn), T1.k.new⟩
set_option maxHeartbeats 1000000 in
theorem touch_ok {w : World} {X : Nat → Prop} {p : Nat} {h : Hw} {s : Sc} (K : Cr pK w X p h s) (pa : Nat) (hp : pa < h.n * 256) :
    Calls Tryz.prog 135 #[.pointer (some ⟨p, 0, none⟩), .int .u64 pa] w fun e w' => e = .returned (.agg #[.bool (hA h s pa), .bool (hB h s pa)]) ∧ Gv pK w X p h (tou h s pa) w' := by
  obtain ⟨G, P, K, rfl, rfl⟩ := K
  have ok := K.ok
  have n2 := ok.n2
  have hpa : pa < 1048576 := by omega
  have HT : Hid (Tt (un G) w _ G P h s w.heap.size (w.heap.size + 1) false false) := tt_new K
  have hs1 := ok.s1
  have hs2 := ok.s2
  have hlt := K.st.lt
  have HO : Hid h.Ok := ok
  have hl4 : pa / 16 < 65536 := by omega
  clear K ok hp
  obtain ⟨t, ht⟩ : ∃ t, pa / 16 = t := ⟨_, rfl⟩
  have CL : Hid (∀ w : World, Calls Tryz.prog 176 #[.int .u64 pa] w fun e w' => e = .returned (.tuple #[.int .i64 t, .int .i64 0]) ∧ w' = w) := fun w => by rw [← ht]; exact Line_ok pa hpa w
  rw [ht] at hl4
  go_enter Tryz.func135, Tryz.ntmps135
  go_wp2_with (go_at_call 176; refine (CL.out _).mono ?_; rintro e w' ⟨rfl, rfl⟩)
  generalize hW : ((w.alloc (.cells #[.bool false, .bool false] 196)).alloc (.cells #[.bool false, .bool false] 196)) = W at *
  clear hW
  have HD : Hid (Tt (un G) w W.drew G P h s w.heap.size (w.heap.size + 1) false false) := HT.out.drew
  have hsn : ¬ (h.s : Int) = 0 := by omega
  have hsn' : ¬ h.s = 0 := by omega
  have hmd : (t : Int).tmod (h.s : Int) = ((t % h.s : Nat) : Int) := by rw [Int.tmod_eq_emod_of_nonneg (by omega)]; omega
  have hi : t % h.s < h.s := Nat.mod_lt _ hs1
  obtain ⟨b, hb⟩ : ∃ b, hA h s pa = b := ⟨_, rfl⟩
  have hb' : decide ((t : Int) ∈ s.a (t % h.s)) = b := by rw [← hb]; unfold hA tg i1; rw [ht]
  obtain ⟨s1, hs'⟩ : ∃ s1 : Sc, { s with a := C.put s.a (t % h.s) (C.tch h.v (t : Int) (s.a (t % h.s))) } = s1 := ⟨_, rfl⟩
  have HB : Hid (hA h s pa = b) := hb
  have HB' : Hid (decide ((t : Int) ∈ s.a (t % h.s)) = b) := hb'
  have HS1 : Hid ({ s with a := C.put s.a (t % h.s) (C.tch h.v (t : Int) (s.a (t % h.s))) } = s1) := hs'
  have HT' : Hid (pa / 16 = t) := ht
  clear hb hb' hs' ht CL
  go_region_held3 (fun V => V.cell? ⟨P.h, 3, none⟩ = some (.pointer (some ⟨P.a, 0, none⟩)) ∧ V.cell? ⟨P.h, 5, none⟩ = some (.int .i64 h.s))
    (first | exact ⟨X2.out.c.c3, X2.out.c.c5⟩ | exact ⟨X1.out.c.c3, X1.out.c.c5⟩ | exact ⟨HD.out.c.c3, HD.out.c.c5⟩)
    (first | (go_at_call 177; rw [show (t : Int) % (h.s : Int) = ((t % h.s : Nat) : Int) from (Int.natCast_emod t h.s).symm]; refine (C.Touch_ok HD.out.c.l1 (t % h.s) hi (t : Int) (by omega) (by omega)).mono ?_; rw [HB'.out]; rintro e w1 ⟨rfl, F1, ca1, kp1⟩; obtain ⟨G1, cw1, kg1⟩ := HD.out.c.t4 ca1 kp1; rw [HS1.out] at cw1; have X1 : Hid (Tt (un G) w w1 G1 P h s1 w.heap.size (w.heap.size + 1) false false) := HD.out.turn cw1 kg1; have X2 : Hid (Tt (un G) w (w1.setCell ⟨w.heap.size + 1, 0, none⟩ (.bool b)) G1 P h s1 w.heap.size (w.heap.size + 1) b false) := X1.out.met 0 b b false rfl; have m0 := X1.out.bm.cell 0; have f0 := X1.out.bm.frozen 0; clear ca1 kp1 cw1 kg1))
  clear X1 HD HT m0 f0
  generalize hw2 : (w1.setCell ⟨w.heap.size + 1, 0, none⟩ (.bool b)) = w2 at *
  clear hw2
  have HF : Hid (Tt (un G) w w2 G1 P h s1 w.heap.size (w.heap.size + 1) b false) := X2.out
  clear X2
  have m0 := HF.out.bm.cell 0
  simp only [List.getElem?_cons_zero] at m0
  cases b
  case' true =>
    have HR : Hid (∃ G', Tt (un G) w w2 G' P h { tou h s pa with z := s.z } w.heap.size (w.heap.size + 1) (hA h s pa) (hB h s pa)) := by
      refine ⟨G1, ?_⟩
      have e1 : hB h s pa = false := by unfold hB; rw [HB.out]; rfl
      have e2 : { tou h s pa with z := s.z } = s1 := by
        rw [← HS1.out]
        unfold tou i1 tg
        rw [HB.out, HT'.out]
        rfl
      rw [e1, e2, HB.out]
      exact HF.out
    clear HF
    go_wp2_with fail
  case' false =>
    have hc := HO.out.c1
    have hc' := HO.out.c2
    have c6 := HF.out.c.c6
    have c4 := HF.out.c.c4
    have CS : Hid (∀ w : World, Calls Tryz.prog 178 #[.int .u64 pa, .int .i64 h.c] w fun e w' => e = .returned (.tuple #[.int .i64 ((i2 h pa : Nat) : Int), .int .i64 0]) ∧ w' = w) := fun w => by
      have := K.Set_ok (pa : Int) (h.c : Int) (by omega) (by omega) (by omega) (by omega) w
      have e : K.st (pa : Int) (h.c : Int) = ((i2 h pa : Nat) : Int) := by unfold K.st i2; push_cast; rfl
      rw [e] at this
      exact this
    have hi2 := i2_lt HO.out pa
    obtain ⟨j, hj⟩ : ∃ j, i2 h pa = j := ⟨_, rfl⟩
    have HJ : Hid (i2 h pa = j) := hj
    rw [hj] at CS hi2
    clear hj
    obtain ⟨d, hd⟩ : ∃ d, decide ((t : Int) ∈ s.b j) = d := ⟨_, rfl⟩
    have HDd : Hid (decide ((t : Int) ∈ s.b j) = d) := hd
    clear hd
    have hsb : s1.b = s.b := by rw [← HS1.out]
    have hj256 : j < 256 := by omega
    have HD2 : Hid (decide ((t : Int) ∈ s1.b j) = d) := by unfold Hid; rw [hsb]; exact HDd.out
    go_wp2_with (first | (go_at_call 178; refine (CS.out _).mono ?_; rintro e w' ⟨rfl, rfl⟩) | (go_at_call 177; refine (C.Touch_ok HF.out.c.ll j hi2 (t : Int) (by omega) (by omega)).mono ?_; rw [HD2.out]; rintro e w3 ⟨rfl, F3, ca3, kp3⟩; obtain ⟨G3, cw3, kg3⟩ := HF.out.c.t5 ca3 kp3; have X3 : Hid (Tt (un G) _ w3 G3 P h { s1 with b := C.put s1.b j (C.tch h.k t (s1.b j)) } _ _ false false) := HF.out.turn cw3 kg3; have m1 := X3.out.bm.cell 1; have f1 := X3.out.bm.frozen 1; clear ca3 kp3 cw3 kg3))
    have HR : Hid (∃ G', Tt (un G) w (w3.setCell ⟨w.heap.size + 1, 1, none⟩ (.bool d)) G' P h { tou h s pa with z := s.z } w.heap.size (w.heap.size + 1) (hA h s pa) (hB h s pa)) := by
      refine ⟨G3, ?_⟩
      have e1 : hB h s pa = d := by unfold hB tg; rw [HB.out, HT'.out, HJ.out, HDd.out]; rfl
      have e2 : { tou h s pa with z := s.z } = { s1 with b := C.put s1.b j (C.tch h.k t (s1.b j)) } := by
        rw [← HS1.out]
        unfold tou i1 tg
        rw [HB.out, HT'.out, HJ.out]
        rfl
      rw [e1, e2, HB.out]
      exact X3.out.met 1 d false d rfl
    clear X3 HF m1 f1 m0 CS HDd HJ hsb hj256 hi2 hc hc' c6 c4
    generalize hw4 : (w3.setCell ⟨w.heap.size + 1, 1, none⟩ (.bool d)) = w4 at *
    clear hw4
  all_goals
    obtain ⟨G', HZ0⟩ := HR.out
    have HE0 : { ({ tou h s pa with z := s.z } : Sc) with z := IntKind.u64.wrap (s.z + tc h.co (hA h s pa) (hB h s pa)) } = tou h s pa := rfl
    obtain ⟨s2, hs2e⟩ : ∃ s2 : Sc, { tou h s pa with z := s.z } = s2 := ⟨_, rfl⟩
    have hz2 : s2.z = s.z := by rw [← hs2e]
    rw [hs2e] at HZ0 HE0
    clear hs2e HR HS1 HB HB' HT'
    obtain ⟨x, hx⟩ : ∃ x, hA h s pa = x := ⟨_, rfl⟩
    obtain ⟨y, hy⟩ : ∃ y, hB h s pa = y := ⟨_, rfl⟩
    rw [hx, hy] at HZ0 HE0
    have HX : Hid (hA h s pa = x) := hx
    have HY : Hid (hB h s pa = y) := hy
    clear hx hy
    obtain ⟨v, hv⟩ : ∃ v, tc h.co x y = v := ⟨_, rfl⟩
    have CT : Hid (∀ w : World, Calls Tryz.prog 179 #[.agg #[.int .u64 h.co.l1, .int .u64 h.co.llc, .int .u64 h.co.mi, .int .u64 h.co.fa, .int .u64 h.co.st, .int .u64 h.co.di], .agg #[.bool x, .bool y]] w (Two v 0 w)) := fun w => by rw [← hv]; exact CTouch_ok h.co HO.out.co x y w
    rw [hv] at HE0
    have HE : Hid ({ s2 with z := IntKind.u64.wrap (s.z + v) } = tou h s pa) := HE0
    have HD : Hid (Tt (un G) w _ G' P h s2 w.heap.size (w.heap.size + 1) x y) := HZ0.drew
    clear hv HE0 HZ0
    go_region_held3 (fun V => (V.cell? ⟨P.h, 7, none⟩ = some (.int .u64 h.co.l1) ∧ V.cell? ⟨P.h, 8, none⟩ = some (.int .u64 h.co.llc) ∧ V.cell? ⟨P.h, 9, none⟩ = some (.int .u64 h.co.mi) ∧ V.cell? ⟨P.h, 10, none⟩ = some (.int .u64 h.co.fa) ∧ V.cell? ⟨P.h, 11, none⟩ = some (.int .u64 h.co.st) ∧ V.cell? ⟨P.h, 12, none⟩ = some (.int .u64 h.co.di)) ∧ V.cell? ⟨w.heap.size + 1, 0, none⟩ = some (.bool x) ∧ V.cell? ⟨w.heap.size + 1, 1, none⟩ = some (.bool y))
      (first | exact ⟨X1.out.c.cc, X1.out.bm.cell 0, X1.out.bm.cell 1⟩ | exact ⟨HD.out.c.cc, HD.out.bm.cell 0, HD.out.bm.cell 1⟩)
      (first | (go_at_call 179; refine (CT.out _).mono ?_; rintro e w5 ⟨rfl, k5⟩; have X1 : Hid (Tt (un G) w w5 G' P h s2 w.heap.size (w.heap.size + 1) x y) := HD.out.below k5; clear k5))
    all_goals
      clear HD CT
      have cz := X1.out.c.cz
      rw [hz2] at cz
      have fz := X1.out.c.st.frozen 13
      have m0 : w5.cell? ⟨w.heap.size + 1, 0, none⟩ = some (.bool x) := X1.out.bm.cell 0
      have m1 : w5.cell? ⟨w.heap.size + 1, 1, none⟩ = some (.bool y) := X1.out.bm.cell 1
      have r0 : w5.cell? ⟨w.heap.size, 0, none⟩ = some (.bool false) := X1.out.br.cell 0
      have r1 : w5.cell? ⟨w.heap.size, 1, none⟩ = some (.bool false) := X1.out.br.cell 1
      have q0 := X1.out.br.frozen 0
      have q1 := X1.out.br.frozen 1
      have hne : P.h ≠ w.heap.size := by omega
      have hne' : P.h ≠ w.heap.size + 1 := by omega
      go_wp2
      obtain ⟨hB9, hG9⟩ := X1.out.fin (IntKind.u64.wrap (s.z + v)) (wrap_u64 _).1 (wrap_u64 _).2 rfl
      rw [HE.out] at hG9
      exact bodyPost_ret (v := .agg #[.bool x, .bool y]) (results_cell_row Tryz.results135 _ _ w.heap.size 196 _ (0, 0) _ rfl hB9 Tryz.underlying196 rfl Tryz.infoH) rfl ⟨by rw [HX.out, HY.out], hG9⟩
end Go.Proofs.YtkbpnkjjmipjfaaGreat.E
