/- What a cache holds, as a list of tags for each set; what a touch makes of such a list; and what it is for a world to hold such a cache; no condition. -/
import Derived.Test.YtpedgpaebdoafaaRows
import Derived.WalkKit
import Derived.ProofKit
import Derived.OpenShut
import Derived.WalkSpells
import Derived.WalkLawsBesides
import Derived.Laws.BitsAllLaws
import Derived.Laws.IdiomCopy
import Derived.Lib.SliceRun
import Derived.Deep.AppendLies
import Derived.Deep.WholeRow
namespace Go.Proofs.Ytpedgpaebdoafaa
open Go.ChangeShapes Go.WideShapes Go.ChangeAt Go.RowKit
set_option linter.unusedVariables false

theorem own : ownKnob Try.prog.godebug = none := by kernel_rfl
theorem ret_int {k : IntKind} {a b : Int} (h : a = b) : Ending.returned (.int k a) = .returned (.int k b) := by rw [h]
theorem ret_bool {a b : Bool} (h : a = b) : Ending.returned (.bool a) = .returned (.bool b) := by rw [h]
theorem some_ne {a b : Nat} (h : a ≠ b) : some a ≠ some b := fun e => h (by injection e)

/-! ### Lists -/
/-- What a touch makes of a set. -/
def tch (ways : Nat) (t : Int) (l : List Int) : List Int := (t :: l.filter (fun x => x != t)).take ways
def tv (l : List Int) : List Value := l.map (.int .u64 ·)
theorem tv_len (l : List Int) : (tv l).length = l.length := by simp [tv]
theorem tv_get (l : List Int) (i : Nat) : (tv l)[i]? = l[i]?.map (.int .u64 ·) := by simp [tv]
def okT (l : List Int) : Prop := ∀ t ∈ l, 0 ≤ t ∧ t < 18446744073709551616
def put {α : Type} (f : Nat → α) (i : Nat) (l : α) : Nat → α := fun j => if j = i then l else f j
theorem put_same {α : Type} (f : Nat → α) (i : Nat) (l : α) : put f i l i = l := by simp [put]
theorem put_other {α : Type} (f : Nat → α) (i j : Nat) (l : α) (h : j ≠ i) : put f i l j = f j := by simp [put, h]

theorem filter_none {l : List Int} {t : Int} (h : t ∉ l) : l.filter (fun x => x != t) = l := by
  rw [List.filter_eq_self]
  intro a ha
  simp only [bne_iff_ne]
  intro e
  exact h (e ▸ ha)
theorem filter_at : ∀ (l : List Int) (k : Nat) (t : Int), l.Nodup → l[k]? = some t → l.filter (fun x => x != t) = l.take k ++ l.drop (k + 1)
  | [], k, t, _, h => by simp at h
  | a :: l, 0, t, hn, h => by
    simp at h
    subst h
    have := (List.nodup_cons.1 hn).1
    simp [filter_none this]
  | a :: l, k + 1, t, hn, h => by
    have hn' := List.nodup_cons.1 hn
    simp at h
    have ih := filter_at l k t hn'.2 h
    have hne : a ≠ t := by
      intro e
      subst e
      exact hn'.1 (List.mem_of_getElem? h)
    rw [List.filter_cons_of_pos (by simpa using hne), ih]
    simp
theorem filter_len (l : List Int) (t : Int) : (l.filter (fun x => x != t)).length ≤ l.length := List.length_filter_le _ _
theorem tch_found {ways k : Nat} {t : Int} {l : List Int} (hn : l.Nodup) (hk : l[k]? = some t) (hl : l.length ≤ ways) : tch ways t l = t :: (l.take k ++ l.drop (k + 1)) := by
  unfold tch
  rw [filter_at l k t hn hk, List.take_of_length_le]
  have : k < l.length := (List.getElem?_eq_some_iff.1 hk).1
  simp
  omega
theorem tch_new {ways : Nat} {t : Int} {l : List Int} (ht : t ∉ l) (hl : l.length < ways) : tch ways t l = t :: l := by
  unfold tch
  rw [filter_none ht, List.take_of_length_le]
  simp
  omega
theorem tch_full {ways : Nat} {t : Int} {l : List Int} (ht : t ∉ l) (h1 : 1 ≤ ways) : tch ways t l = t :: l.take (ways - 1) := by
  unfold tch
  rw [filter_none ht]
  obtain ⟨m, rfl⟩ : ∃ m, ways = m + 1 := ⟨ways - 1, by omega⟩
  simp
theorem tch_len (ways : Nat) (t : Int) (l : List Int) : (tch ways t l).length ≤ ways := by
  unfold tch
  simp
  omega
theorem tch_nodup (ways : Nat) (t : Int) {l : List Int} (h : l.Nodup) : (tch ways t l).Nodup := by
  unfold tch
  refine List.Nodup.sublist (List.take_sublist _ _) ?_
  rw [List.nodup_cons]
  refine ⟨by simp, h.sublist List.filter_sublist⟩
theorem tch_ok (ways : Nat) {t : Int} {l : List Int} (h : okT l) (h0 : 0 ≤ t) (h1 : t < 18446744073709551616) : okT (tch ways t l) := by
  intro x hx
  have := List.mem_of_mem_take hx
  rcases List.mem_cons.1 this with rfl | h2
  · exact ⟨h0, h1⟩
  · exact h x (List.mem_filter.1 h2).1

/-! ### Worlds -/
theorem grown_setCell' (w : World) (g k : Nat) (v : Value) : w.grownBy (w.setCell ⟨g, k, none⟩ v) (some g) :=
  ⟨rfl, rfl, rfl, by simp [World.setCell], fun i hi hne => Below.heap_setCell _ _ _ _ (by intro h; exact hne (by rw [h]))⟩
theorem grown_setCells (b : Nat) : ∀ (vs : List Value) (o : Nat) (w : World), w.grownBy (w.setCells b o vs) (some b)
  | [], _, w => ⟨rfl, rfl, rfl, Nat.le_refl _, fun _ _ _ => rfl⟩
  | v :: r, o, w => by
    have h := grown_setCell' w b o v
    have k := grown_setCells b r (o + 1) (w.setCell ⟨b, o, none⟩ v)
    exact ⟨k.os.trans h.os, k.tape.trans h.tape, k.output.trans h.output, Nat.le_trans h.size k.size, fun i hi hne => (k.block i (Nat.lt_of_lt_of_le hi h.size) hne).trans (h.block i hi hne)⟩
theorem below_of {w w' : World} {row : Option Nat} (h : w.grownBy w' row) (B : Nat) (hB : B ≤ w.heap.size) (hr : ∀ k, row = some k → B ≤ k) : Below B w w' := (Below.refl B w).grown h hB hr
/-- A block of cells that may be written. -/
def Blk (w : World) (g : Nat) (ty : TypeId) (L : List Value) : Prop := w.heap[g]? = some (.cells L.toArray ty (0, 0))
theorem Blk.lt {w : World} {g : Nat} {ty : TypeId} {L : List Value} (h : Blk w g ty L) : g < w.heap.size := (Array.getElem?_eq_some_iff.1 h).1
theorem Blk.cell {w : World} {g : Nat} {ty : TypeId} {L : List Value} (h : Blk w g ty L) (i : Nat) : w.cell? ⟨g, i, none⟩ = L[i]? := by
  rw [cell_of_row w g i _ ty (0, 0) h]; simp
theorem Blk.frozen {w : World} {g : Nat} {ty : TypeId} {L : List Value} (h : Blk w g ty L) (i : Nat) : w.frozen? ⟨g, i, none⟩ = false := by
  unfold Blk at h
  simp [World.frozen?, h]
theorem Blk.of_eq {w w' : World} {g : Nat} {ty : TypeId} {L : List Value} (h : Blk w g ty L) (e : w'.heap[g]? = w.heap[g]?) : Blk w' g ty L := by unfold Blk at *; rw [e, h]
theorem Blk.kept {w w' : World} {g : Nat} {ty : TypeId} {L : List Value} {row : Option Nat} (h : Blk w g ty L) (k : w.grownBy w' row) (hne : some g ≠ row) : Blk w' g ty L := h.of_eq (k.block g h.lt hne)
theorem Blk.set {w : World} {g : Nat} {ty : TypeId} {L : List Value} (h : Blk w g ty L) (i : Nat) (v : Value) : Blk (w.setCell ⟨g, i, none⟩ v) g ty (L.set i v) := by
  unfold Blk at *
  simp only [World.setCell, Array.getElem?_modify, if_true, h]
  simp
theorem over_cons (L : List Value) (a : Nat) (v : Value) (vs : List Value) (h : a + 1 + vs.length ≤ L.length) : (L.set a v).take (a + 1) ++ vs ++ (L.set a v).drop (a + 1 + vs.length) = L.take a ++ (v :: vs) ++ L.drop (a + (vs.length + 1)) := by
  rw [List.drop_set_of_lt (by omega), List.take_set, List.take_add_one, List.getElem?_eq_getElem (by omega : a < L.length)]
  simp only [Option.toList_some]
  rw [List.set_append_right _ _ (by simp; omega)]
  simp
  rw [Nat.min_eq_left (by omega), Nat.sub_self]
  simp
  congr 1
  omega
theorem Blk.sets {g : Nat} {ty : TypeId} : ∀ (vs : List Value) (a : Nat) (w : World) (L : List Value), Blk w g ty L → a + vs.length ≤ L.length → Blk (w.setCells g a vs) g ty (L.take a ++ vs ++ L.drop (a + vs.length))
  | [], a, w, L, h, _ => by simpa [World.setCells] using h
  | v :: vs, a, w, L, h, hl => by
    simp only [List.length_cons] at hl
    have := Blk.sets vs (a + 1) _ _ (h.set a v) (by simp; omega)
    rw [over_cons L a v vs (by omega)] at this
    rw [World.setCells]
    simpa using this
theorem blk_new (w : World) (L : List Value) (ty : TypeId) : Blk (w.alloc (.cells L.toArray ty)) w.heap.size ty L := heap_alloc_last w _
end Go.Proofs.Ytpedgpaebdoafaa
