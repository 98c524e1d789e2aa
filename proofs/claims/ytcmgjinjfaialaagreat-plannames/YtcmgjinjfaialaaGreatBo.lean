/- What the kinds' bounds of package cost are: the array of functions, and what each of them gives back. -/
import Derived.Test.YtcmgjinjfaialaaGreatTo
import Derived.Deep.RegionHeld3
namespace Go.Proofs.YtcmgjinjfaialaaGreat
open Go.ChangeShapes Go.WideShapes Go.ChangeAt Go.RowKit
set_option linter.unusedVariables false

def ent (c : Co) (s : Sh) : Int := s.im * c.mi
def fin (c : Co) (s : Sh) : Int := (2 * s.us + 1) * c.st + c.di
def pag (c : Co) : Int := c.st + 2 * c.mi
/-- What a call of a kind costs at most. -/
def bd (c : Co) (s : Sh) : Nat → Int
  | 1 => ent c s + 17 * c.mi
  | 2 => ent c s + s.li * pag c + c.mi
  | 3 => ent c s + c.mi + 16 * s.no * c.mi + s.li * pag c
  | 4 => ent c s + 113 * c.mi
  | 5 => ent c s + 64 * pag c
  | 6 => ent c s + 64 * (c.st + c.mi)
  | 7 => max (ent c s + 113 * c.mi) (ent c s + 64 * pag c)
  | 8 => ent c s + 26 * c.mi + c.fa + fin c s + c.di
  | 9 => ent c s + 64 * c.mi + 2 * c.fa + 2 * fin c s + c.di
  | _ => ent c s
/-- How great the parts can be. -/
structure Pt (c : Co) (s : Sh) : Prop where
  e0 : c.mi ≤ ent c s
  e1 : ent c s ≤ 524288
  f0 : 1 ≤ fin c s
  f1 : fin c s ≤ 537001984
  p0 : 1 ≤ pag c
  p1 : pag c ≤ 196608
  lp0 : 0 ≤ s.li * pag c
  lp1 : s.li * pag c ≤ 1006632960
  nm0 : 0 ≤ 16 * s.no * c.mi
  nm1 : 16 * s.no * c.mi ≤ 4294967296
  us0 : 0 ≤ (2 * s.us + 1) * c.st
  us1 : (2 * s.us + 1) * c.st ≤ 536936448
theorem pt_of {c : Co} {s : Sh} (h : c.Ok) (k : s.Ok) : Pt c s := by
  obtain ⟨_, _, _, _, _, _, _, _, _, _⟩ := h
  obtain ⟨_, _, _, _, _, _, _⟩ := k
  have he := prod_le s.im c.mi 8 65536 (by omega) (by omega) (by omega) (by omega)
  have hf := prod_le (2 * s.us + 1) c.st 8193 65536 (by omega) (by omega) (by omega) (by omega)
  have hl := prod_le s.li (pag c) 5120 196608 (by omega) (by omega) (by unfold pag; omega) (by unfold pag; omega)
  have hn := prod_le (16 * s.no) c.mi 65536 65536 (by omega) (by omega) (by omega) (by omega)
  have hm : c.mi ≤ s.im * c.mi := by
    have := Int.mul_le_mul_of_nonneg_right (show (1 : Int) ≤ s.im by omega) (show 0 ≤ c.mi by omega)
    omega
  refine ⟨hm, ?_, ?_, ?_, ?_, ?_, hl.1, ?_, hn.1, ?_, hf.1, ?_⟩
  · unfold ent; omega
  · unfold fin; omega
  · unfold fin; omega
  · unfold pag; omega
  · unfold pag; omega
  · omega
  · omega
  · omega
/-- A block of cells, as a list. -/
def Blk (w : World) (g : Nat) (ty : TypeId) (L : List Value) : Prop := w.heap[g]? = some (.cells L.toArray ty (0, 0))
theorem Blk.lt {w : World} {g : Nat} {ty : TypeId} {L : List Value} (h : Blk w g ty L) : g < w.heap.size := (Array.getElem?_eq_some_iff.1 h).1
theorem Blk.cell {w : World} {g : Nat} {ty : TypeId} {L : List Value} (h : Blk w g ty L) (i : Nat) : w.cell? ⟨g, i, none⟩ = L[i]? := by
  rw [cell_of_row w g i _ ty (0, 0) h]; simp
theorem Blk.of_eq {w w' : World} {g : Nat} {ty : TypeId} {L : List Value} (h : Blk w g ty L) (e : w'.heap[g]? = w.heap[g]?) : Blk w' g ty L := by unfold Blk at *; rw [e, h]
theorem Blk.below {w w' : World} {g : Nat} {ty : TypeId} {L : List Value} (h : Blk w g ty L) (k : Below w.heap.size w w') : Blk w' g ty L := h.of_eq (k.block g h.lt)
theorem blk_new (w : World) (L : List Value) (ty : TypeId) : Blk (w.alloc (.cells L.toArray ty)) w.heap.size ty L := heap_alloc_last w _
theorem Blk.row {w : World} {g : Nat} {ty : TypeId} {L M : List Value} (h : Blk w g ty L) : Blk (w.setRow g M.toArray) g ty M := setRow_heap w g _ _ ty _ h
theorem Blk.other {w : World} {g b : Nat} {ty : TypeId} {L : List Value} {M : Array Value} (h : Blk w g ty L) (hne : b ≠ g) : Blk (w.setRow b M) g ty L := by
  refine h.of_eq ?_
  simp only [World.setRow, Array.getElem?_modify, if_neg hne]
theorem Blk.six {w : World} {g : Nat} {c : Co} (h : Blk w g 25 [.int .u64 c.l1, .int .u64 c.llc, .int .u64 c.mi, .int .u64 c.fa, .int .u64 c.st, .int .u64 c.di]) : Six w g c :=
  ⟨h.lt, h.cell 0, h.cell 1, h.cell 2, h.cell 3, h.cell 4, h.cell 5⟩
theorem below_row {w0 w : World} {B g : Nat} {M : Array Value} (h : Below B w0 w) (hg : B ≤ g) : Below B w0 (w.setRow g M) :=
  ⟨h.os, h.tape, h.output, by rw [setRow_size]; exact h.size, fun i hi => by
    rw [← h.block i hi]
    simp only [World.setRow, Array.getElem?_modify, if_neg (show ¬ g = i by omega)]⟩
/-- What the kinds' bounds stand on: costs, the numbers that they hold, and themselves. -/
structure Bn (w : World) (gc gl gn ge gf gp go : Nat) (c : Co) (s : Sh) : Prop where
  cs : Six w gc c
  ll : gl < w.heap.size
  l : w.cell? ⟨gl, 0, none⟩ = some (.int .u64 s.li)
  nl : gn < w.heap.size
  n : w.cell? ⟨gn, 0, none⟩ = some (.int .u64 s.no)
  el : ge < w.heap.size
  e : w.cell? ⟨ge, 0, none⟩ = some (.int .u64 (ent c s))
  fl : gf < w.heap.size
  f : w.cell? ⟨gf, 0, none⟩ = some (.int .u64 (fin c s))
  pl : gp < w.heap.size
  p : w.cell? ⟨gp, 0, none⟩ = some (.int .u64 (pag c))
  ol : go < w.heap.size
  o4 : w.cell? ⟨go, 4, none⟩ = some (.func (.func 83) #[] #[.pointer (some ⟨ge, 0, none⟩), .pointer (some ⟨gc, 0, none⟩)])
  o5 : w.cell? ⟨go, 5, none⟩ = some (.func (.func 84) #[] #[.pointer (some ⟨ge, 0, none⟩), .pointer (some ⟨gp, 0, none⟩)])
theorem Bn.below {w w' : World} {gc gl gn ge gf gp go : Nat} {c : Co} {s : Sh} (h : Bn w gc gl gn ge gf gp go c s) (k : Below w.heap.size w w') : Bn w' gc gl gn ge gf gp go c s :=
  ⟨h.cs.below k, Nat.lt_of_lt_of_le h.ll k.size, (k.cell h.ll).trans h.l, Nat.lt_of_lt_of_le h.nl k.size, (k.cell h.nl).trans h.n, Nat.lt_of_lt_of_le h.el k.size, (k.cell h.el).trans h.e, Nat.lt_of_lt_of_le h.fl k.size, (k.cell h.fl).trans h.f,
    Nat.lt_of_lt_of_le h.pl k.size, (k.cell h.pl).trans h.p, Nat.lt_of_lt_of_le h.ol k.size, (k.cell h.ol).trans h.o4, (k.cell h.ol).trans h.o5⟩
/-- The world ahead of the array's making. -/
structure Tw (w0 w : World) (gl gn : Nat) (c : Co) (s : Sh) : Prop where
  be : Below w0.heap.size w0 w
  cs : Blk w w0.heap.size 25 [.int .u64 c.l1, .int .u64 c.llc, .int .u64 c.mi, .int .u64 c.fa, .int .u64 c.st, .int .u64 c.di]
  r : Blk w (w0.heap.size + 1 + 1) 84 [.nilFunc, .nilFunc, .nilFunc, .nilFunc, .nilFunc, .nilFunc, .nilFunc, .nilFunc, .nilFunc, .nilFunc, .nilFunc]
  l : Blk w gl 23 [.int .u64 s.li]
  n : Blk w gn 23 [.int .u64 s.no]
  e : Blk w (w0.heap.size + 1 + 1 + 1 + 1 + 1) 23 [.int .u64 (ent c s)]
  f : Blk w (w0.heap.size + 1 + 1 + 1 + 1 + 1 + 1) 23 [.int .u64 (fin c s)]
  p : Blk w (w0.heap.size + 1 + 1 + 1 + 1 + 1 + 1 + 1) 23 [.int .u64 (pag c)]
  o : Blk w (w0.heap.size + 1 + 1 + 1 + 1 + 1 + 1 + 1 + 1) 84 [.nilFunc, .nilFunc, .nilFunc, .nilFunc, .nilFunc, .nilFunc, .nilFunc, .nilFunc, .nilFunc, .nilFunc, .nilFunc]
theorem Blk.alloc {w : World} {g : Nat} {ty : TypeId} {L : List Value} (h : Blk w g ty L) (o : Obj) : Blk (w.alloc o) g ty L := h.below (below_new w o)
theorem Blk.drew {w : World} {g : Nat} {ty : TypeId} {L : List Value} (h : Blk w g ty L) : Blk w.drew g ty L := h
theorem blk_at {w : World} (L : List Value) (ty : TypeId) {g : Nat} (hg : g = w.heap.size) : Blk (w.alloc (.cells L.toArray ty)) g ty L := by subst hg; exact blk_new w L ty
theorem tow_a (w : World) (c : Co) (s : Sh) : Tw w ((((((((((w.alloc (.cells #[.int .u64 c.l1, .int .u64 c.llc, .int .u64 c.mi, .int .u64 c.fa, .int .u64 c.st, .int .u64 c.di] 25)).alloc (.cells #[.int .i64 s.im, .int .i64 s.us, .int .i64 s.li, .int .i64 s.no] 53)).alloc (.cells #[.nilFunc, .nilFunc, .nilFunc, .nilFunc, .nilFunc, .nilFunc, .nilFunc, .nilFunc, .nilFunc, .nilFunc, .nilFunc] 84)).alloc (.cells #[.int .u64 s.li] 23)).alloc (.cells #[.int .u64 s.no] 23)).alloc (.cells #[.int .u64 (s.im * c.mi)] 23)).alloc (.cells #[.int .u64 ((2 * s.us + 1) * c.st + c.di)] 23)).alloc (.cells #[.int .u64 (c.st + 2 * c.mi)] 23)).alloc (.cells #[.nilFunc, .nilFunc, .nilFunc, .nilFunc, .nilFunc, .nilFunc, .nilFunc, .nilFunc, .nilFunc, .nilFunc, .nilFunc] 84)).drew) (w.heap.size + 1 + 1 + 1) (w.heap.size + 1 + 1 + 1 + 1) c s where
  be := by refine Below.drew ?_; repeat' (first | exact Below.refl _ _ | refine Below.alloc ?_ (by simp [Nat.add_assoc]) _)
  cs := ((((((((blk_at _ 25 rfl).alloc _).alloc _).alloc _).alloc _).alloc _).alloc _).alloc _).alloc _
  r := ((((((blk_at _ 84 (by simp [Nat.add_assoc])).alloc _).alloc _).alloc _).alloc _).alloc _).alloc _
  l := (((((blk_at _ 23 (by simp [Nat.add_assoc])).alloc _).alloc _).alloc _).alloc _).alloc _
  n := ((((blk_at _ 23 (by simp [Nat.add_assoc])).alloc _).alloc _).alloc _).alloc _
  e := (((blk_at _ 23 (by simp [Nat.add_assoc])).alloc _).alloc _).alloc _
  f := ((blk_at _ 23 (by simp [Nat.add_assoc])).alloc _).alloc _
  p := (blk_at _ 23 (by simp [Nat.add_assoc])).alloc _
  o := blk_at _ 84 (by simp [Nat.add_assoc])
theorem tow_b (w : World) (c : Co) (s : Sh) : Tw w ((((((((((w.alloc (.cells #[.int .u64 c.l1, .int .u64 c.llc, .int .u64 c.mi, .int .u64 c.fa, .int .u64 c.st, .int .u64 c.di] 25)).alloc (.cells #[.int .i64 s.im, .int .i64 s.us, .int .i64 s.li, .int .i64 s.no] 53)).alloc (.cells #[.nilFunc, .nilFunc, .nilFunc, .nilFunc, .nilFunc, .nilFunc, .nilFunc, .nilFunc, .nilFunc, .nilFunc, .nilFunc] 84)).alloc (.cells #[.int .u64 s.no] 23)).alloc (.cells #[.int .u64 s.li] 23)).alloc (.cells #[.int .u64 (s.im * c.mi)] 23)).alloc (.cells #[.int .u64 ((2 * s.us + 1) * c.st + c.di)] 23)).alloc (.cells #[.int .u64 (c.st + 2 * c.mi)] 23)).alloc (.cells #[.nilFunc, .nilFunc, .nilFunc, .nilFunc, .nilFunc, .nilFunc, .nilFunc, .nilFunc, .nilFunc, .nilFunc, .nilFunc] 84)).drew) (w.heap.size + 1 + 1 + 1 + 1) (w.heap.size + 1 + 1 + 1) c s where
  be := by refine Below.drew ?_; repeat' (first | exact Below.refl _ _ | refine Below.alloc ?_ (by simp [Nat.add_assoc]) _)
  cs := ((((((((blk_at _ 25 rfl).alloc _).alloc _).alloc _).alloc _).alloc _).alloc _).alloc _).alloc _
  r := ((((((blk_at _ 84 (by simp [Nat.add_assoc])).alloc _).alloc _).alloc _).alloc _).alloc _).alloc _
  l := ((((blk_at _ 23 (by simp [Nat.add_assoc])).alloc _).alloc _).alloc _).alloc _
  n := (((((blk_at _ 23 (by simp [Nat.add_assoc])).alloc _).alloc _).alloc _).alloc _).alloc _
  e := (((blk_at _ 23 (by simp [Nat.add_assoc])).alloc _).alloc _).alloc _
  f := ((blk_at _ 23 (by simp [Nat.add_assoc])).alloc _).alloc _
  p := (blk_at _ 23 (by simp [Nat.add_assoc])).alloc _
  o := blk_at _ 84 (by simp [Nat.add_assoc])
end Go.Proofs.YtcmgjinjfaialaaGreat
