/- What a TLB holds, as a list of translations, and what each call makes of it; what it is for a world to hold rows of translations; no condition. -/
import Derived.Test.YtkgmdalekakgpaaRows
import Derived.WalkKit
import Derived.ProofKit
import Derived.OpenShut
import Derived.WalkSpells
import Derived.WalkLawsBesides
import Derived.Laws.IdiomCopy
import Derived.Lib.SliceRun
import Derived.Deep.AppendLies
import Derived.Deep.WholeRow
namespace Go.Proofs.Ytkgmdalekakgpaa
open Go.ChangeShapes Go.WideShapes Go.ChangeAt Go.RowKit
set_option linter.unusedVariables false

theorem own : ownKnob Try.prog.godebug = none := by kernel_rfl
theorem ret_int {k : IntKind} {a b : Int} (h : a = b) : Ending.returned (.int k a) = .returned (.int k b) := by rw [h]
theorem ret_bool {a b : Bool} (h : a = b) : Ending.returned (.bool a) = .returned (.bool b) := by rw [h]
theorem some_ne {a b : Nat} (h : a ≠ b) : some a ≠ some b := fun e => h (by injection e)

/-! ### Translations -/
structure Tr where
  a : Int
  p : Int
  f : Int
  r : Bool
  w : Bool
  d : Bool
def tc (x : Tr) : List Value := [.int .i64 x.a, .int .i64 x.p, .int .i64 x.f, .bool x.r, .bool x.w, .bool x.d]
def tv (l : List Tr) : List Value := l.flatMap tc
/-- Is it of that page? -/
def hk (a p : Int) (x : Tr) : Bool := x.a == a && x.p == p
/-- The others. -/
def rm (a p : Int) (l : List Tr) : List Tr := l.filter (fun x => !hk a p x)
def look (a p : Int) (l : List Tr) : Option Tr := l.find? (hk a p)
def Uq (l : List Tr) : Prop := l.Pairwise (fun x y => hk x.a x.p y = false)
def fil (n : Nat) (x : Tr) (l : List Tr) : List Tr := (x :: rm x.a x.p l).take n
def mrk (a p : Int) (l : List Tr) : List Tr := l.map (fun x => if hk a p x then { x with d := true } else x)
def outOf (a : Int) (l : List Tr) : List Tr := l.filter (fun x => !(x.a == a))
theorem tv_len : ∀ l : List Tr, (tv l).length = l.length * 6
  | [] => rfl
  | x :: l => by
    have := tv_len l
    simp only [tv, List.flatMap_cons, List.length_append, List.length_cons, List.length_nil, tc] at this ⊢
    omega
theorem tv_app (a b : List Tr) : tv (a ++ b) = tv a ++ tv b := by simp [tv]
theorem tv_cons (x : Tr) (l : List Tr) : tv (x :: l) = tc x ++ tv l := by simp [tv]
theorem tv_one (l : List Tr) : ∀ v ∈ tv l, v.oneCell' = true := by
  intro v hv
  simp only [tv, List.mem_flatMap] at hv
  obtain ⟨x, _, h⟩ := hv
  simp only [tc, List.mem_cons, List.not_mem_nil, or_false] at h
  rcases h with rfl | rfl | rfl | rfl | rfl | rfl <;> rfl
theorem tc_one (x : Tr) : ∀ v ∈ tc x, v.oneCell' = true := by
  have := tv_one [x]
  simpa [tv] using this
theorem tv_take : ∀ (l : List Tr) (k : Nat), (tv l).take (k * 6) = tv (l.take k)
  | [], k => by simp [tv]
  | x :: l, 0 => by simp [tv]
  | x :: l, k + 1 => by
    rw [tv_cons, show (k + 1) * 6 = (tc x).length + k * 6 by simp [tc]; omega, List.take_length_add_append, tv_take l k, List.take_succ_cons, tv_cons]
theorem tv_drop : ∀ (l : List Tr) (k : Nat), (tv l).drop (k * 6) = tv (l.drop k)
  | [], k => by simp [tv]
  | x :: l, 0 => by simp [tv]
  | x :: l, k + 1 => by
    rw [tv_cons, show (k + 1) * 6 = (tc x).length + k * 6 by simp [tc]; omega, List.drop_length_add_append, tv_drop l k, List.drop_succ_cons]
theorem tv_at : ∀ {l : List Tr} {k : Nat} {x : Tr}, l[k]? = some x → ∀ j v, (tc x)[j]? = some v → (tv l)[k * 6 + j]? = some v
  | [], k, x, h => by simp at h
  | y :: l, 0, x, h => by
    simp at h
    subst h
    intro j v hv
    have hj := (List.getElem?_eq_some_iff.1 hv).1
    rw [tv_cons, Nat.zero_mul, Nat.zero_add, List.getElem?_append_left hj]
    exact hv
  | y :: l, k + 1, x, h => by
    intro j v hv
    simp at h
    rw [tv_cons, show (k + 1) * 6 + j = (k * 6 + j) + (tc y).length by simp [tc]; omega, List.getElem?_append_right (by omega), Nat.add_sub_cancel]
    exact tv_at h j v hv
theorem hk_eq {a p : Int} {x : Tr} (h : hk a p x = true) : x.a = a ∧ x.p = p := by simpa [hk] using h
theorem hk_self (x : Tr) : hk x.a x.p x = true := by simp [hk]
theorem rm_none {a p : Int} {l : List Tr} (h : ∀ x ∈ l, hk a p x = false) : rm a p l = l := by
  unfold rm
  rw [List.filter_eq_self]
  intro x hx
  simp [h x hx]
theorem rm_len (a p : Int) (l : List Tr) : (rm a p l).length ≤ l.length := List.length_filter_le _ _
theorem rm_at : ∀ {l : List Tr} {k : Nat} {x : Tr} {a p : Int}, Uq l → l[k]? = some x → hk a p x = true → rm a p l = l.take k ++ l.drop (k + 1)
  | [], k, x, a, p, _, h, _ => by simp at h
  | y :: l, 0, x, a, p, hu, h, hx => by
    simp at h
    subst h
    have h1 := (List.pairwise_cons.1 hu).1
    obtain ⟨rfl, rfl⟩ := hk_eq hx
    have e : rm y.a y.p (y :: l) = rm y.a y.p l := by unfold rm; rw [List.filter_cons_of_neg (by simp [hk_self])]
    rw [e, rm_none h1]
    simp
  | y :: l, k + 1, x, a, p, hu, h, hx => by
    simp at h
    have h1 := (List.pairwise_cons.1 hu).1 x (List.mem_of_getElem? h)
    have ih := rm_at (List.pairwise_cons.1 hu).2 h hx
    have hy : hk a p y = false := by
      cases e : hk a p y with
      | false => rfl
      | true =>
        obtain ⟨rfl, rfl⟩ := hk_eq e
        rw [h1] at hx
        cases hx
    unfold rm at ih ⊢
    rw [List.filter_cons_of_pos (by simp [hy]), ih]
    simp
theorem rm_len_at {l : List Tr} {k : Nat} {x : Tr} {a p : Int} (hu : Uq l) (h : l[k]? = some x) (hx : hk a p x = true) : (rm a p l).length + 1 = l.length := by
  have hk := (List.getElem?_eq_some_iff.1 h).1
  rw [rm_at hu h hx]
  simp
  omega
theorem Uq.sub {l l' : List Tr} (h : Uq l) (s : l'.Sublist l) : Uq l' := List.Pairwise.sublist s h
theorem Uq.front {l : List Tr} (h : Uq l) (x : Tr) : Uq (x :: rm x.a x.p l) := by
  unfold Uq
  rw [List.pairwise_cons]
  refine ⟨fun y hy => ?_, h.sub List.filter_sublist⟩
  have := (List.mem_filter.1 hy).2
  simpa using this
theorem fil_uq (n : Nat) (x : Tr) {l : List Tr} (h : Uq l) : Uq (fil n x l) := (h.front x).sub (List.take_sublist _ _)
theorem fil_len (n : Nat) (x : Tr) (l : List Tr) : (fil n x l).length ≤ n := by unfold fil; simp; omega
theorem rm_uq (a p : Int) {l : List Tr} (h : Uq l) : Uq (rm a p l) := h.sub List.filter_sublist
theorem out_uq (a : Int) {l : List Tr} (h : Uq l) : Uq (outOf a l) := h.sub List.filter_sublist
theorem mrk_uq (a p : Int) {l : List Tr} (h : Uq l) : Uq (mrk a p l) := by
  unfold Uq mrk
  rw [List.pairwise_map]
  refine List.Pairwise.imp ?_ h
  intro x y hxy
  split <;> split <;> simpa [hk] using hxy
theorem mrk_len (a p : Int) (l : List Tr) : (mrk a p l).length = l.length := by simp [mrk]
/-- Where it stands: the first, if there is one. -/
structure Ix (a p : Int) (l : List Tr) (k : Nat) (x : Tr) : Prop where
  at' : l[k]? = some x
  is : hk a p x = true
  ahead : ∀ j y, j < k → l[j]? = some y → hk a p y = false
theorem ix_or (a p : Int) (l : List Tr) : (∃ k x, Ix a p l k x ∧ look a p l = some x) ∨ ((∀ x ∈ l, hk a p x = false) ∧ look a p l = none) := by
  unfold look
  cases h : l.find? (hk a p) with
  | none =>
    right
    refine ⟨fun x hx => ?_, rfl⟩
    have := List.find?_eq_none.1 h x hx
    simpa using this
  | some x =>
    left
    obtain ⟨hx, l1, l2, e, hb⟩ := List.find?_eq_some_iff_append.1 h
    refine ⟨l1.length, x, ⟨by rw [e]; simp, hx, fun j y hj hy => ?_⟩, rfl⟩
    rw [e, List.getElem?_append_left hj] at hy
    have := hb y (List.mem_of_getElem? hy)
    simpa using this
/-! ### Worlds -/
theorem grown_setCell' (w : World) (g k : Nat) (v : Value) : w.grownBy (w.setCell ⟨g, k, none⟩ v) (some g) :=
  ⟨rfl, rfl, rfl, by simp [World.setCell], fun i hi hne => Below.heap_setCell _ _ _ _ (by intro h; exact hne (by rw [h]))⟩
theorem grown_setCells (b : Nat) : ∀ (vs : List Value) (o : Nat) (w : World), w.grownBy (w.setCells b o vs) (some b)
  | [], _, w => ⟨rfl, rfl, rfl, Nat.le_refl _, fun _ _ _ => rfl⟩
  | v :: r, o, w => by
    have h := grown_setCell' w b o v
    have k := grown_setCells b r (o + 1) (w.setCell ⟨b, o, none⟩ v)
    exact ⟨k.os.trans h.os, k.tape.trans h.tape, k.output.trans h.output, Nat.le_trans h.size k.size, fun i hi hne => (k.block i (Nat.lt_of_lt_of_le hi h.size) hne).trans (h.block i hi hne)⟩
theorem below_of {w w' : World} {row : Option Nat} (h : w.grownBy w' row) (B : Nat) (hB : B ≤ w.heap.size) (hr : ∀ k, row = some k → B ≤ k) : Below B w w' := (Below.refl B w).grown h hB hr
theorem below_new (w : World) (o : Obj) : Below w.heap.size w (w.alloc o) := (Below.refl _ _).alloc (Nat.le_refl _) _
theorem below_drew (w : World) (B : Nat) : Below B w w.drew := (Below.refl B w).drew
theorem below_drewN (w : World) (B n : Nat) : Below B w (w.drewN n) := ⟨rfl, rfl, rfl, Nat.le_refl _, fun _ _ => rfl⟩
/-- A block of cells that may be written. -/
def Blk (w : World) (g : Nat) (ty : TypeId) (L : List Value) : Prop := w.heap[g]? = some (.cells L.toArray ty (0, 0))
theorem Blk.lt {w : World} {g : Nat} {ty : TypeId} {L : List Value} (h : Blk w g ty L) : g < w.heap.size := (Array.getElem?_eq_some_iff.1 h).1
theorem Blk.cell {w : World} {g : Nat} {ty : TypeId} {L : List Value} (h : Blk w g ty L) (i : Nat) : w.cell? ⟨g, i, none⟩ = L[i]? := by
  rw [cell_of_row w g i _ ty (0, 0) h]; simp
theorem Blk.frozen {w : World} {g : Nat} {ty : TypeId} {L : List Value} (h : Blk w g ty L) (i : Nat) : w.frozen? ⟨g, i, none⟩ = false := by
  unfold Blk at h
  simp [World.frozen?, h]
theorem Blk.of_eq {w w' : World} {g : Nat} {ty : TypeId} {L : List Value} (h : Blk w g ty L) (e : w'.heap[g]? = w.heap[g]?) : Blk w' g ty L := by unfold Blk at *; rw [e, h]
theorem Blk.kept {w w' : World} {g : Nat} {ty : TypeId} {L : List Value} {row : Option Nat} (h : Blk w g ty L) (k : w.grownBy w' row) (hne : some g ≠ row) : Blk w' g ty L := h.of_eq (k.block g h.lt hne)
theorem Blk.below {w w' : World} {g : Nat} {ty : TypeId} {L : List Value} (h : Blk w g ty L) (k : Below w.heap.size w w') : Blk w' g ty L := h.of_eq (k.block g h.lt)
theorem Blk.set {w : World} {g : Nat} {ty : TypeId} {L : List Value} (h : Blk w g ty L) (i : Nat) (v : Value) : Blk (w.setCell ⟨g, i, none⟩ v) g ty (L.set i v) := by
  unfold Blk at *
  simp only [World.setCell, Array.getElem?_modify, if_true, h]
  simp
theorem over_cons (L : List Value) (a : Nat) (v : Value) (vs : List Value) (h : a + 1 + vs.length ≤ L.length) : (L.set a v).take (a + 1) ++ vs ++ (L.set a v).drop (a + 1 + vs.length) = L.take a ++ (v :: vs) ++ L.drop (a + (vs.length + 1)) := by
  rw [List.drop_set_of_lt (by omega), List.take_set, List.take_add_one, List.getElem?_eq_getElem (by omega : a < L.length)]
  simp only [Option.toList_some]
  rw [List.set_append_right _ _ (by simp; omega)]
  simp
  rw [Nat.min_eq_left (by omega), Nat.sub_self]
  simp
  congr 1
  omega
theorem Blk.sets {g : Nat} {ty : TypeId} : ∀ (vs : List Value) (a : Nat) (w : World) (L : List Value), Blk w g ty L → a + vs.length ≤ L.length → Blk (w.setCells g a vs) g ty (L.take a ++ vs ++ L.drop (a + vs.length))
  | [], a, w, L, h, _ => by simpa [World.setCells] using h
  | v :: vs, a, w, L, h, hl => by
    simp only [List.length_cons] at hl
    have := Blk.sets vs (a + 1) _ _ (h.set a v) (by simp; omega)
    rw [over_cons L a v vs (by omega)] at this
    rw [World.setCells]
    simpa using this
theorem blk_new (w : World) (L : List Value) (ty : TypeId) : Blk (w.alloc (.cells L.toArray ty)) w.heap.size ty L := heap_alloc_last w _
end Go.Proofs.Ytkgmdalekakgpaa
