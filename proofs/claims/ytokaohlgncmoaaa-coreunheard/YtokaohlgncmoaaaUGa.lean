/- A core's state in plain numbers, and what touches make of it; no condition. -/
import Derived.Test.YtokaohlgncmoaaaUHh
import Derived.Test.YtokaohlgncmoaaaUHd
import Derived.Test.YtokaohlgncmoaaaUFa
import Derived.Test.YtokaohlgncmoaaaUHa
import Derived.Test.YtokaohlgncmoaaaUHe
namespace Go.Proofs.Ytokaohlgncmoaaa.E
open Go.ChangeShapes Go.WideShapes Go.ChangeAt Go.RowKit
set_option linter.unusedVariables false

structure Hw where
  n : Nat
  t : Nat
  d : Nat
  s : Nat
  v : Nat
  c : Nat
  k : Nat
  co : Co
structure Hw.Ok (h : Hw) : Prop where
  n1 : 1 ≤ h.n
  n2 : h.n ≤ 4096
  t1 : 1 ≤ h.t
  t2 : h.t ≤ 64
  d2 : h.d ≤ 1024
  s1 : 1 ≤ h.s
  s2 : h.s ≤ 4096
  v1 : 1 ≤ h.v
  v2 : h.v ≤ 16
  c1 : 1 ≤ h.c
  c2 : h.c ≤ 16
  k1 : 1 ≤ h.k
  k2 : h.k ≤ 16
  co : okC h.co = true
structure Sc where
  m : Nat → Int
  l : List T.Tr
  p : Nat → Option (Nat → Int)
  a : Nat → List Int
  b : Nat → List Int
  z : Int
def tg (pa : Nat) : Int := ((pa / 16 : Nat) : Int)
def i1 (h : Hw) (pa : Nat) : Nat := pa / 16 % h.s
def i2 (h : Hw) (pa : Nat) : Nat := pa / 256 % h.c * 16 + pa % 256 / 16
def hA (h : Hw) (s : Sc) (pa : Nat) : Bool := decide (tg pa ∈ s.a (i1 h pa))
def hB (h : Hw) (s : Sc) (pa : Nat) : Bool := !hA h s pa && decide (tg pa ∈ s.b (i2 h pa))
def tou (h : Hw) (s : Sc) (pa : Nat) : Sc :=
  { s with
    a := C.put s.a (i1 h pa) (C.tch h.v (tg pa) (s.a (i1 h pa)))
    b := bif hA h s pa then s.b else C.put s.b (i2 h pa) (C.tch h.k (tg pa) (s.b (i2 h pa)))
    z := IntKind.u64.wrap (s.z + tc h.co (hA h s pa) (hB h s pa)) }
def tw (h : Hw) (s : Sc) (f : Nat → Nat) : Nat → Sc
  | 0 => s
  | k + 1 => tou h (tw h s f k) (f k)
def lh (h : Hw) (s : Sc) (f : Nat → Nat) : Nat → Bool × Bool
  | 0 => (false, false)
  | k + 1 => (hA h (tw h s f k) (f k), hB h (tw h s f k) (f k))
theorem i2_lt {h : Hw} (o : h.Ok) (pa : Nat) : i2 h pa < h.c * 16 := by
  unfold i2
  have h1 : pa / 256 % h.c < h.c := Nat.mod_lt _ o.c1
  have h2 : pa % 256 / 16 < 16 := by omega
  omega
theorem wrap_u64 (x : Int) : 0 ≤ IntKind.u64.wrap x ∧ IntKind.u64.wrap x < 18446744073709551616 := by
  simp only [IntKind.wrap, IntKind.signed, IntKind.bits]
  constructor
  · simp; omega
  · simp; omega
end Go.Proofs.Ytokaohlgncmoaaa.E
namespace Go.Proofs.Ytokaohlgncmoaaa.E
open Go.ChangeShapes Go.WideShapes Go.ChangeAt Go.RowKit
set_option linter.unusedVariables false

theorem _root_.Go.Proofs.Ytokaohlgncmoaaa.F.Mem.of_eq {w w' : World} {p g n : Nat} {f : Nat → Int} (h : F.Mem w p g n f) (hs : w.heap.size ≤ w'.heap.size) (ep : w'.heap[p]? = w.heap[p]?) (eg : w'.heap[g]? = w.heap[g]?) : F.Mem w' p g n f :=
  ⟨Nat.lt_of_lt_of_le h.lt hs, (World.cell?_of_block (w := w) (a := ⟨p, 0, none⟩) ep).trans h.cell,
   ⟨Nat.lt_of_lt_of_le h.by'.1 hs, fun i hi => ⟨(World.cell?_of_block (w := w) (a := ⟨g, i, none⟩) eg).trans (h.by'.2 i hi).1, (World.frozen?_of_block (w := w) (a := ⟨g, i, none⟩) eg).trans (h.by'.2 i hi).2⟩⟩, h.ne, h.ok⟩
theorem _root_.Go.Proofs.Ytokaohlgncmoaaa.D.Dk.of_eq {w w' : World} {p b N : Nat} {m : Nat → Option (Nat → Int)} (h : D.Dk w p b N m) (ep : w'.heap[p]? = w.heap[p]?) (eb : w'.heap[b]? = w.heap[b]?) : D.Dk w' p b N m := by
  obtain ⟨D, ⟨es, clock, hb, F, hs, hD⟩, hv⟩ := h.mp
  exact ⟨h.st.of_eq ep, ⟨D, ⟨es, clock, eb.trans hb, F, hs, hD⟩, hv⟩, h.ne, h.n⟩
theorem kpT {X X' : Nat → Prop} {w w' : World} (h : T.Kp X X' w w') : C.Kp X X' w w' := ⟨h.os, h.tape, h.output, h.size, h.block, h.new⟩
theorem kp_of_below (X : Nat → Prop) {w w' : World} (h : Below w.heap.size w w') : C.Kp X X w w' :=
  ⟨h.os, h.tape, h.output, h.size, fun k hk _ => h.block k hk, fun _ q => Or.inl q⟩
structure Pl where
  h : Nat
  m : Nat
  g : Nat
  t : Nat
  d : Nat
  e : Nat
  a : Nat
  b : Nat
structure Kd where
  ty : TypeId
  L : Pl → Hw → Int → List Value
  ix : Nat
  D : World → (Nat → Prop) → Pl → Hw → (Nat → Option (Nat → Int)) → Prop
  set : ∀ P h z z', (L P h z).set ix (.int .u64 z') = L P h z'
  stay : ∀ w w' X P h m, D w X P h m → w.heap.size ≤ w'.heap.size → (∀ k, X k → w'.heap[k]? = w.heap[k]?) → D w' X P h m
def un (G : Nat → Nat → Prop) : Nat → Prop := fun k => ∃ i, G i k
structure Cw (q : Kd) (w : World) (G : Nat → Nat → Prop) (P : Pl) (h : Hw) (s : Sc) : Prop where
  lt : ∀ i k, G i k → k < w.heap.size
  dis : ∀ i j k, i ≠ j → G i k → ¬ G j k
  ok : h.Ok
  st : C.Blk w P.h q.ty (q.L P h s.z)
  g0 : G 0 P.h
  mm : F.Mem w P.m P.g h.n s.m
  gm : G 1 P.m
  gg : G 1 P.g
  tl : T.Ca w (G 2) P.t h.t s.l
  dk : q.D w (G 3) P h s.p
  l1 : C.Ca w (G 4) P.a h.s h.v s.a
  ll : C.Ca w (G 5) P.b (h.c * 16) h.k s.b
  z0 : 0 ≤ s.z
  z1 : s.z < 18446744073709551616
theorem part_turn {w w' : World} {G : Nat → Nat → Prop} {X : Nat → Prop} (i : Nat) (lt : ∀ i k, G i k → k < w.heap.size) (dis : ∀ i j k, i ≠ j → G i k → ¬ G j k) (k : C.Kp (G i) X w w') (hX : ∀ k, X k → k < w'.heap.size) :
    (∀ j k, C.put G i X j k → k < w'.heap.size) ∧ (∀ j j' k, j ≠ j' → C.put G i X j k → ¬ C.put G i X j' k) ∧ (∀ j k, j ≠ i → G j k → w'.heap[k]? = w.heap[k]?) ∧ C.Kp (un G) (un (C.put G i X)) w w' := by
  have out : ∀ j k, j ≠ i → G j k → ¬ X k := by
    intro j x hj hg hx
    rcases k.new x hx with q | q
    · exact dis j i x hj hg q
    · have := lt j x hg; omega
  have cs : ∀ j x, C.put G i X j x → (j = i ∧ X x) ∨ (j ≠ i ∧ G j x) := by
    intro j x hx
    by_cases e : j = i
    · subst e; rw [C.put_same] at hx; exact Or.inl ⟨rfl, hx⟩
    · rw [C.put_other _ _ _ _ e] at hx; exact Or.inr ⟨e, hx⟩
  refine ⟨?_, ?_, fun j x hj hg => k.block x (lt j x hg) (fun q => dis j i x hj hg q), ⟨k.os, k.tape, k.output, k.size, fun x hx hn => k.block x hx (fun q => hn ⟨i, q⟩), ?_⟩⟩
  · intro j x hx
    rcases cs j x hx with ⟨_, q⟩ | ⟨_, q⟩
    · exact hX x q
    · exact Nat.lt_of_lt_of_le (lt j x q) k.size
  · intro j j' x hne hx hx'
    rcases cs j x hx with ⟨e, q⟩ | ⟨e, q⟩
    · rcases cs j' x hx' with ⟨e', q'⟩ | ⟨e', q'⟩
      · exact hne (e.trans e'.symm)
      · exact out j' x e' q' q
    · rcases cs j' x hx' with ⟨e', q'⟩ | ⟨e', q'⟩
      · exact out j x e q q'
      · exact dis j j' x hne q q'
  · rintro x ⟨j, hx⟩
    rcases cs j x hx with ⟨_, q⟩ | ⟨_, q⟩
    · rcases k.new x q with q | q
      · exact Or.inl ⟨i, q⟩
      · exact Or.inr q
    · exact Or.inl ⟨j, q⟩
theorem put0 {G : Nat → Nat → Prop} {X : Nat → Prop} {i j : Nat} (h : j ≠ i) : C.put G i X j = G j := C.put_other _ _ _ _ h
theorem Cw.t0 {q : Kd} {w : World} {G : Nat → Nat → Prop} {P : Pl} {h : Hw} {s : Sc} (K : Cw q w G P h s) (z : Int) (z0 : 0 ≤ z) (z1 : z < 18446744073709551616) :
    Cw q (w.setCell ⟨P.h, q.ix, none⟩ (.int .u64 z)) G P h { s with z := z } ∧ C.Kp (un G) (un G) w (w.setCell ⟨P.h, q.ix, none⟩ (.int .u64 z)) := by
  have hs : (w.setCell ⟨P.h, q.ix, none⟩ (.int .u64 z)).heap.size = w.heap.size := by simp [World.setCell]
  have g := C.grown_setCell' w P.h q.ix (.int .u64 z)
  have k : C.Kp (G 0) (G 0) w (w.setCell ⟨P.h, q.ix, none⟩ (.int .u64 z)) := C.Kp.of_grown g (fun x hx => by cases hx; exact K.g0) (fun _ q => Or.inl q)
  have o : ∀ j x, j ≠ 0 → G j x → (w.setCell ⟨P.h, q.ix, none⟩ (.int .u64 z)).heap[x]? = w.heap[x]? := fun j x hj hg => k.block x (K.lt j x hg) (fun q => K.dis j 0 x hj hg q)
  have hst := K.st.set q.ix (.int .u64 z)
  rw [q.set] at hst
  exact ⟨⟨fun i x hx => by rw [hs]; exact K.lt i x hx, K.dis, K.ok, hst, K.g0, K.mm.of_eq g.size (o 1 _ (by decide) K.gm) (o 1 _ (by decide) K.gg), K.gm, K.gg, K.tl.of_eq g.size (fun x hx => o 2 x (by decide) hx), q.stay _ _ _ _ _ _ K.dk g.size (fun x hx => o 3 x (by decide) hx), K.l1.of_eq g.size (fun x hx => o 4 x (by decide) hx), K.ll.of_eq g.size (fun x hx => o 5 x (by decide) hx), z0, z1⟩, ⟨k.os, k.tape, k.output, k.size, fun x hx hn => k.block x hx (fun q => hn ⟨0, q⟩), fun _ q => Or.inl q⟩⟩
theorem Cw.t2 {q : Kd} {w w' : World} {G : Nat → Nat → Prop} {P : Pl} {h : Hw} {s : Sc} (K : Cw q w G P h s) {l : List T.Tr} (L : T.Lv w (G 2) P.t h.t l w') :
    ∃ G', Cw q w' G' P h { s with l := l } ∧ C.Kp (un G) (un G') w w' := by
  obtain ⟨X, c, k⟩ := L
  obtain ⟨a1, a2, o, a4⟩ := part_turn 2 K.lt K.dis (kpT k) c.lt
  exact ⟨C.put G 2 X, ⟨a1, a2, K.ok, K.st.of_eq (o 0 _ (by decide) K.g0), by rw [put0 (by decide)]; exact K.g0, K.mm.of_eq k.size (o 1 _ (by decide) K.gm) (o 1 _ (by decide) K.gg), by rw [put0 (by decide)]; exact K.gm, by rw [put0 (by decide)]; exact K.gg, by rw [C.put_same]; exact c, by rw [put0 (by decide)]; exact q.stay _ _ _ _ _ _ K.dk k.size (fun x hx => o 3 x (by decide) hx), by rw [put0 (by decide)]; exact K.l1.of_eq k.size (fun x hx => o 4 x (by decide) hx), by rw [put0 (by decide)]; exact K.ll.of_eq k.size (fun x hx => o 5 x (by decide) hx), K.z0, K.z1⟩, a4⟩
theorem Cw.t4 {q : Kd} {w w' : World} {G : Nat → Nat → Prop} {P : Pl} {h : Hw} {s : Sc} (K : Cw q w G P h s) {a : Nat → List Int} {X : Nat → Prop} (c : C.Ca w' X P.a h.s h.v a) (k : C.Kp (G 4) X w w') :
    ∃ G', Cw q w' G' P h { s with a := a } ∧ C.Kp (un G) (un G') w w' := by
  obtain ⟨a1, a2, o, a4⟩ := part_turn 4 K.lt K.dis k c.1
  exact ⟨C.put G 4 X, ⟨a1, a2, K.ok, K.st.of_eq (o 0 _ (by decide) K.g0), by rw [put0 (by decide)]; exact K.g0, K.mm.of_eq k.size (o 1 _ (by decide) K.gm) (o 1 _ (by decide) K.gg), by rw [put0 (by decide)]; exact K.gm, by rw [put0 (by decide)]; exact K.gg, by rw [put0 (by decide)]; exact K.tl.of_eq k.size (fun x hx => o 2 x (by decide) hx), by rw [put0 (by decide)]; exact q.stay _ _ _ _ _ _ K.dk k.size (fun x hx => o 3 x (by decide) hx), by rw [C.put_same]; exact c, by rw [put0 (by decide)]; exact K.ll.of_eq k.size (fun x hx => o 5 x (by decide) hx), K.z0, K.z1⟩, a4⟩
theorem Cw.t5 {q : Kd} {w w' : World} {G : Nat → Nat → Prop} {P : Pl} {h : Hw} {s : Sc} (K : Cw q w G P h s) {b : Nat → List Int} {X : Nat → Prop} (c : C.Ca w' X P.b (h.c * 16) h.k b) (k : C.Kp (G 5) X w w') :
    ∃ G', Cw q w' G' P h { s with b := b } ∧ C.Kp (un G) (un G') w w' := by
  obtain ⟨a1, a2, o, a4⟩ := part_turn 5 K.lt K.dis k c.1
  exact ⟨C.put G 5 X, ⟨a1, a2, K.ok, K.st.of_eq (o 0 _ (by decide) K.g0), by rw [put0 (by decide)]; exact K.g0, K.mm.of_eq k.size (o 1 _ (by decide) K.gm) (o 1 _ (by decide) K.gg), by rw [put0 (by decide)]; exact K.gm, by rw [put0 (by decide)]; exact K.gg, by rw [put0 (by decide)]; exact K.tl.of_eq k.size (fun x hx => o 2 x (by decide) hx), by rw [put0 (by decide)]; exact q.stay _ _ _ _ _ _ K.dk k.size (fun x hx => o 3 x (by decide) hx), by rw [put0 (by decide)]; exact K.l1.of_eq k.size (fun x hx => o 4 x (by decide) hx), by rw [C.put_same]; exact c, K.z0, K.z1⟩, a4⟩
theorem Cw.of_eq {q : Kd} {w w' : World} {G : Nat → Nat → Prop} {P : Pl} {h : Hw} {s : Sc} (K : Cw q w G P h s) (hs : w.heap.size ≤ w'.heap.size) (e : ∀ k, un G k → w'.heap[k]? = w.heap[k]?) : Cw q w' G P h s := by
  have o : ∀ j x, G j x → w'.heap[x]? = w.heap[x]? := fun j x hg => e x ⟨j, hg⟩
  exact ⟨fun i x hx => Nat.lt_of_lt_of_le (K.lt i x hx) hs, K.dis, K.ok, K.st.of_eq (o 0 _ K.g0), K.g0, K.mm.of_eq hs (o 1 _ K.gm) (o 1 _ K.gg), K.gm, K.gg, K.tl.of_eq hs (fun x hx => o 2 x hx), q.stay _ _ _ _ _ _ K.dk hs (fun x hx => o 3 x hx),
    K.l1.of_eq hs (fun x hx => o 4 x hx), K.ll.of_eq hs (fun x hx => o 5 x hx), K.z0, K.z1⟩
def Cr (q : Kd) (w : World) (X : Nat → Prop) (p : Nat) (h : Hw) (s : Sc) : Prop := ∃ G P, Cw q w G P h s ∧ P.h = p ∧ X = un G
theorem Cr.lt {q : Kd} {w : World} {X : Nat → Prop} {p : Nat} {h : Hw} {s : Sc} (K : Cr q w X p h s) : ∀ k, X k → k < w.heap.size := by
  obtain ⟨G, P, c, rfl, rfl⟩ := K
  rintro k ⟨i, q⟩
  exact c.lt i k q
theorem Cr.of_eq {q : Kd} {w w' : World} {X : Nat → Prop} {p : Nat} {h : Hw} {s : Sc} (K : Cr q w X p h s) (hs : w.heap.size ≤ w'.heap.size) (e : ∀ k, X k → w'.heap[k]? = w.heap[k]?) : Cr q w' X p h s := by
  obtain ⟨G, P, c, rfl, rfl⟩ := K
  exact ⟨G, P, c.of_eq hs e, rfl, rfl⟩
theorem Cr.below {q : Kd} {w w' : World} {X : Nat → Prop} {p : Nat} {h : Hw} {s : Sc} (K : Cr q w X p h s) (k : Below w.heap.size w w') : Cr q w' X p h s := K.of_eq k.size (fun i hi => k.block i (K.lt i hi))
theorem Cr.kept {q : Kd} {w w' : World} {X Y Y' : Nat → Prop} {p : Nat} {h : Hw} {s : Sc} (K : Cr q w X p h s) (k : C.Kp Y Y' w w') (hd : ∀ k, X k → ¬ Y k) : Cr q w' X p h s := K.of_eq k.size (fun i hi => k.block i (K.lt i hi) (hd i hi))
theorem Cr.ok {q : Kd} {w : World} {X : Nat → Prop} {p : Nat} {h : Hw} {s : Sc} (K : Cr q w X p h s) : h.Ok := by
  obtain ⟨G, P, c, rfl, rfl⟩ := K
  exact c.ok
def Gv (q : Kd) (w : World) (X : Nat → Prop) (p : Nat) (h : Hw) (s' : Sc) (w' : World) : Prop := ∃ X', Cr q w' X' p h s' ∧ C.Kp X X' w w'
theorem Cw.gv {q : Kd} {w w' : World} {G G' : Nat → Nat → Prop} {P : Pl} {h : Hw} {s : Sc} (K : Cw q w' G' P h s) (k : C.Kp (un G) (un G') w w') : Gv q w (un G) P.h h s w' := ⟨un G', ⟨G', P, K, rfl, rfl⟩, k⟩
theorem Gv.pre {q : Kd} {w w1 w2 : World} {X X1 : Nat → Prop} {p : Nat} {h : Hw} {s : Sc} (g : Gv q w1 X1 p h s w2) (k : C.Kp X X1 w w1) : Gv q w X p h s w2 := by
  obtain ⟨X2, c, k2⟩ := g
  exact ⟨X2, c, k.trans k2⟩
theorem Gv.below {q : Kd} {w w1 w2 : World} {X : Nat → Prop} {p : Nat} {h : Hw} {s : Sc} (g : Gv q w X p h s w1) (b : Below w1.heap.size w1 w2) : Gv q w X p h s w2 := by
  obtain ⟨X1, c, k⟩ := g
  exact ⟨X1, c.below b, k.trans (kp_of_below _ b)⟩
def cL (P : Pl) (h : Hw) (z : Int) : List Value :=
  [.pointer (some ⟨P.m, 0, none⟩), .pointer (some ⟨P.t, 0, none⟩), .pointer (some ⟨P.d, 0, none⟩), .pointer (some ⟨P.a, 0, none⟩), .pointer (some ⟨P.b, 0, none⟩), .int .i64 h.s, .int .i64 h.c,
   .int .u64 h.co.l1, .int .u64 h.co.llc, .int .u64 h.co.mi, .int .u64 h.co.fa, .int .u64 h.co.st, .int .u64 h.co.di, .int .u64 z]
def pK : Kd where
  ty := 51
  L := cL
  ix := 13
  D := fun w X P h m => D.Dk w P.d P.e h.d m ∧ X P.d ∧ X P.e
  set := fun P h z z' => rfl
  stay := fun w w' X P h m k hs e => ⟨k.1.of_eq (e _ k.2.1) (e _ k.2.2), k.2.1, k.2.2⟩
end Go.Proofs.Ytokaohlgncmoaaa.E
namespace Go.Proofs.Ytokaohlgncmoaaa
open Go.ChangeShapes Go.WideShapes Go.ChangeAt Go.RowKit
set_option linter.unusedVariables false
set_option maxRecDepth 8192

theorem CTouch_no (c : Co) (h : okC c = false) (a b : Bool) (w : World) : Calls Try.prog 49 #[.agg #[.int .u64 c.l1, .int .u64 c.llc, .int .u64 c.mi, .int .u64 c.fa, .int .u64 c.st, .int .u64 c.di], .agg #[.bool a, .bool b]] w (Two 0 100 w) := by
  have hb := below_two w (.cells #[.int .u64 c.l1, .int .u64 c.llc, .int .u64 c.mi, .int .u64 c.fa, .int .u64 c.st, .int .u64 c.di] 24) (.cells #[.bool a, .bool b] 39)
  have C := Check_any c ((w.alloc (.cells #[.int .u64 c.l1, .int .u64 c.llc, .int .u64 c.mi, .int .u64 c.fa, .int .u64 c.st, .int .u64 c.di] 24)).alloc (.cells #[.bool a, .bool b] 39))
  rw [er_f h] at C
  clear h
  go_enter Try.func49, Try.ntmps49
  go_wp2_with fail
  refine C.mono ?_
  rintro e w1 ⟨rfl, k⟩
  clear C
  go_wp2
  go_ret2
  exact ⟨rfl, hb.trans (k.mono (by simp; omega))⟩
theorem CTouch_ok (c : Co) (h : okC c = true) (a b : Bool) (w : World) : Calls Try.prog 49 #[.agg #[.int .u64 c.l1, .int .u64 c.llc, .int .u64 c.mi, .int .u64 c.fa, .int .u64 c.st, .int .u64 c.di], .agg #[.bool a, .bool b]] w (Two (tc c a b) 0 w) := by
  have hb := below_two w (.cells #[.int .u64 c.l1, .int .u64 c.llc, .int .u64 c.mi, .int .u64 c.fa, .int .u64 c.st, .int .u64 c.di] 24) (.cells #[.bool a, .bool b] 39)
  have S := (six_new w c).below (below_new _ (.cells #[.bool a, .bool b] 39))
  have C := Check_any c ((w.alloc (.cells #[.int .u64 c.l1, .int .u64 c.llc, .int .u64 c.mi, .int .u64 c.fa, .int .u64 c.st, .int .u64 c.di] 24)).alloc (.cells #[.bool a, .bool b] 39))
  rw [er_t h] at C
  clear h
  go_enter Try.func49, Try.ntmps49
  go_wp2_with fail
  refine C.mono ?_
  rintro e w1 ⟨rfl, k⟩
  have FIN : Hid (Below w.heap.size w w1) := hb.trans (k.mono (by simp; omega))
  obtain ⟨_, c0, c1, c2, c3, c4, c5⟩ := S.below k
  have d0 : w1.cell? ⟨w.heap.size + 1, 0, none⟩ = some (.bool a) := (k.cell (by simp)).trans (by simp)
  have d1 : w1.cell? ⟨w.heap.size + 1, 1, none⟩ = some (.bool b) := (k.cell (by simp)).trans (by simp)
  clear C k S hb
  cases a <;> cases b
  all_goals (go_wp2; go_ret2; exact ⟨rfl, FIN.out⟩)
theorem Line_ok (a : Nat) (h1 : a < 1048576) (w : World) :
    Calls Try.prog 46 #[.int .u64 a] w fun e w' => e = .returned (.tuple #[.int .i64 ((a / 16 : Nat) : Int), .int .i64 0]) ∧ w' = w := by
  have hz : ((a : Int) / 1048576 != 0) = false := by simp; omega
  go_enter Try.func46, Try.ntmps46
  go_wp2
  go_ret2
  exact ⟨rfl, rfl⟩
end Go.Proofs.Ytokaohlgncmoaaa
