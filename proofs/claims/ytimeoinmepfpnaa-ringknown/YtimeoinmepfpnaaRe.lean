/- What lies in memory: blocks, rows of numbers of their own; what a call leaves as it was; no condition. -/
import Derived.Test.YtimeoinmepfpnaaRd
import Derived.Test.YtimeoinmepfpnaaLy
import Derived.WalkKit
import Derived.ProofKit
import Derived.OpenShut
import Derived.WalkSpells
import Derived.WalkLawsBesides
import Derived.Recover
import Derived.Laws.IdiomCopy
import Derived.Lib.SliceRun
import Derived.Lib.OwnBridge
import Derived.Deep.AppendLies
import Derived.Deep.WholeRow
import Derived.Deep.QuietTactic
import Derived.Deep.RegionHeld3
import Derived.Deep.RegionHeldLaw
import Derived.Deep.MidRow
import Derived.Deep.Upon
import Derived.BigQuiet
import Derived.Laws.AppendOwnNone
import Derived.Test.YtimeoinmepfpnaaChecked
namespace Go.Proofs.Ytimeoinmepfpnaa.Ri
open Go.ChangeShapes Go.WideShapes Go.ChangeAt Go.RowKit
set_option linter.unusedVariables false
set_option maxRecDepth 8192

theorem own : ownKnob Try.prog.godebug = none := by kernel_rfl
theorem ret_int {k : IntKind} {a b : Int} (h : a = b) : Ending.returned (.int k a) = .returned (.int k b) := by rw [h]
theorem ret_bool {a b : Bool} (h : a = b) : Ending.returned (.bool a) = .returned (.bool b) := by rw [h]
theorem some_ne {a b : Nat} (h : a ≠ b) : some a ≠ some b := fun e => h (by injection e)
theorem info_parts {t : TypeId} {z : Option Value} {s b : Nat} (h : (Try.prog.info? t).map (fun i => (i.zero, i.size, i.bytes)) = some (z, s, b)) : ∃ i, Try.prog.info? t = some i ∧ i.zero = z ∧ i.size = s ∧ i.bytes = b := by
  cases hi : Try.prog.info? t with
  | none => rw [hi] at h; exact absurd h nofun
  | some i =>
    rw [hi] at h
    obtain ⟨h1, h2, h3⟩ := Prod.mk.inj (Option.some.inj h) |>.imp id (fun q => Prod.mk.inj q)
    exact ⟨i, rfl, h1, h2, h3⟩
/-- A fact that the walk's own rules should not see. -/
def Hid (p : Prop) : Prop := p
theorem Hid.out {p : Prop} (h : Hid p) : p := h
/-! ### Blocks -/
def Blk (w : World) (g : Nat) (ty : TypeId) (L : List Value) : Prop := w.heap[g]? = some (.cells L.toArray ty (0, 0))
theorem Blk.lt {w : World} {g : Nat} {ty : TypeId} {L : List Value} (h : Blk w g ty L) : g < w.heap.size := (Array.getElem?_eq_some_iff.1 h).1
theorem Blk.cell {w : World} {g : Nat} {ty : TypeId} {L : List Value} (h : Blk w g ty L) (i : Nat) : w.cell? ⟨g, i, none⟩ = L[i]? := by
  rw [cell_of_row w g i _ ty (0, 0) h, List.getElem?_toArray]
theorem Blk.frozen {w : World} {g : Nat} {ty : TypeId} {L : List Value} (h : Blk w g ty L) (i : Nat) : w.frozen? ⟨g, i, none⟩ = false := by
  unfold Blk at h
  simp [World.frozen?, h]
theorem Blk.of_eq {w w' : World} {g : Nat} {ty : TypeId} {L : List Value} (h : Blk w g ty L) (e : w'.heap[g]? = w.heap[g]?) : Blk w' g ty L := by unfold Blk at *; rw [e, h]
theorem Blk.below {w w' : World} {g : Nat} {ty : TypeId} {L : List Value} (h : Blk w g ty L) (k : Below w.heap.size w w') : Blk w' g ty L := h.of_eq (k.block g h.lt)
theorem Blk.kept {w w' : World} {g : Nat} {ty : TypeId} {L : List Value} {row : Option Nat} (h : Blk w g ty L) (k : w.grownBy w' row) (hne : some g ≠ row) : Blk w' g ty L := h.of_eq (k.block g h.lt hne)
theorem Blk.set {w : World} {g : Nat} {ty : TypeId} {L : List Value} (h : Blk w g ty L) (i : Nat) (v : Value) : Blk (w.setCell ⟨g, i, none⟩ v) g ty (L.set i v) := by
  unfold Blk at *
  simp only [World.setCell, Array.getElem?_modify, if_true, h]
  simp
theorem blk_new (w : World) (L : List Value) (ty : TypeId) : Blk (w.alloc (.cells L.toArray ty)) w.heap.size ty L := heap_alloc_last w _
theorem grown_setCell' (w : World) (g k : Nat) (v : Value) : w.grownBy (w.setCell ⟨g, k, none⟩ v) (some g) :=
  ⟨rfl, rfl, rfl, by simp [World.setCell], fun i hi hne => Below.heap_setCell _ _ _ _ (by intro h; exact hne (by rw [h]))⟩
theorem grown_setCells (b : Nat) : ∀ (vs : List Value) (o : Nat) (w : World), w.grownBy (w.setCells b o vs) (some b)
  | [], _, w => ⟨rfl, rfl, rfl, Nat.le_refl _, fun _ _ _ => rfl⟩
  | v :: r, o, w => by
    have h := grown_setCell' w b o v
    have k := grown_setCells b r (o + 1) (w.setCell ⟨b, o, none⟩ v)
    exact ⟨k.os.trans h.os, k.tape.trans h.tape, k.output.trans h.output, Nat.le_trans h.size k.size, fun i hi hne => (k.block i (Nat.lt_of_lt_of_le hi h.size) hne).trans (h.block i hi hne)⟩
theorem grown_drewN (w : World) (n : Nat) (row : Option Nat) : w.grownBy (w.drewN n) row := ⟨rfl, rfl, rfl, Nat.le_refl _, fun _ _ _ => rfl⟩
theorem grown_drew (w : World) (row : Option Nat) : w.grownBy w.drew row := ⟨rfl, rfl, rfl, Nat.le_refl _, fun _ _ _ => rfl⟩
theorem below_grow {w w' : World} {row : Option Nat} (h : Below w.heap.size w w') : w.grownBy w' row := ⟨h.os, h.tape, h.output, h.size, fun i hi _ => h.block i hi⟩
theorem below_of {w w' : World} {row : Option Nat} (h : w.grownBy w' row) (B : Nat) (hB : B ≤ w.heap.size) (hr : ∀ k, row = some k → B ≤ k) : Below B w w' := (Below.refl B w).grown h hB hr
theorem over_cons (L : List Value) (a : Nat) (v : Value) (vs : List Value) (h : a + 1 + vs.length ≤ L.length) : (L.set a v).take (a + 1) ++ vs ++ (L.set a v).drop (a + 1 + vs.length) = L.take a ++ (v :: vs) ++ L.drop (a + (vs.length + 1)) := by
  rw [List.drop_set_of_lt (by omega), List.take_set, List.take_add_one, List.getElem?_eq_getElem (by omega : a < L.length)]
  simp only [Option.toList_some]
  rw [List.set_append_right _ _ (by simp; omega)]
  simp
  rw [Nat.min_eq_left (by omega), Nat.sub_self]
  simp
  congr 1
  omega
theorem Blk.sets {g : Nat} {ty : TypeId} : ∀ (vs : List Value) (a : Nat) (w : World) (L : List Value), Blk w g ty L → a + vs.length ≤ L.length → Blk (w.setCells g a vs) g ty (L.take a ++ vs ++ L.drop (a + vs.length))
  | [], a, w, L, h, _ => by simpa [World.setCells] using h
  | v :: vs, a, w, L, h, hl => by
    simp only [List.length_cons] at hl
    have := Blk.sets vs (a + 1) _ _ (h.set a v) (by simp; omega)
    rw [over_cons L a v vs (by omega)] at this
    rw [World.setCells]
    simpa using this
theorem bs {w w1 w2 : World} (a : Below w.heap.size w w1) (b : Below w1.heap.size w1 w2) : Below w.heap.size w w2 := a.trans (b.mono a.size)
theorem below1 (w : World) (o : Obj) : Below w.heap.size w (w.alloc o) := (Below.refl _ _).alloc (Nat.le_refl _) _
theorem below_drewN (w : World) (n : Nat) : Below w.heap.size w (w.drewN n) := (Below.refl _ _).grown (grown_drewN w n none) (Nat.le_refl _) (fun k hk => by cases hk)
theorem below_drew (w : World) : Below w.heap.size w w.drew := below_drewN w 1
/-! ### What turned -/
/-- What turned of the old blocks lies in F. -/
structure Ch (F : Nat → Prop) (w w' : World) : Prop where
  os : w'.os = w.os
  tape : w'.tape = w.tape
  output : w'.output = w.output
  size : w.heap.size ≤ w'.heap.size
  block : ∀ k, k < w.heap.size → ¬ F k → w'.heap[k]? = w.heap[k]?
theorem Ch.refl (F : Nat → Prop) (w : World) : Ch F w w := ⟨rfl, rfl, rfl, Nat.le_refl _, fun _ _ _ => rfl⟩
theorem Ch.grown {F : Nat → Prop} {w w' : World} {row : Option Nat} (h : w.grownBy w' row) (hr : ∀ g, row = some g → F g) : Ch F w w' :=
  ⟨h.os, h.tape, h.output, h.size, fun k hk hF => h.block k hk (by intro e; exact hF (hr k e.symm))⟩
theorem Ch.below {F : Nat → Prop} {w w' : World} (h : Below w.heap.size w w') : Ch F w w' := ⟨h.os, h.tape, h.output, h.size, fun i hi _ => h.block i hi⟩
theorem Ch.none {w w' : World} (h : Ch (fun _ => False) w w') : Below w.heap.size w w' := ⟨h.os, h.tape, h.output, h.size, fun i hi => h.block i hi (fun q => q)⟩
theorem Ch.to {F : Nat → Prop} {B : Nat} {w w' : World} (h : Ch F w w') (hB : B ≤ w.heap.size) (hF : ∀ k, F k → B ≤ k) : Below B w w' :=
  ⟨h.os, h.tape, h.output, h.size, fun k hk => h.block k (by omega) (fun e => by have := hF k e; omega)⟩
theorem Ch.trans {F F' F'' : Nat → Prop} {a b c : World} (h : Ch F a b) (k : Ch F' b c) (h1 : ∀ i, F i → F'' i) (h2 : ∀ i, F' i → F'' i ∨ a.heap.size ≤ i) : Ch F'' a c :=
  ⟨k.os.trans h.os, k.tape.trans h.tape, k.output.trans h.output, Nat.le_trans h.size k.size,
   fun i hi hF => (k.block i (Nat.lt_of_lt_of_le hi h.size) (fun e => by rcases h2 i e with q | q; exact hF q; omega)).trans (h.block i hi (fun e => hF (h1 i e)))⟩
theorem Ch.also {F F' : Nat → Prop} {a b : World} (h : Ch F a b) (h1 : ∀ i, F i → F' i ∨ a.heap.size ≤ i) : Ch F' a b :=
  ⟨h.os, h.tape, h.output, h.size, fun i hi hF => h.block i hi (fun e => by rcases h1 i e with q | q; exact hF q; omega)⟩
theorem Ch.same {F : Nat → Prop} {a b c : World} (h : Ch F a b) (k : Ch F b c) : Ch F a c := h.trans k (fun _ q => q) (fun _ q => Or.inl q)
theorem Blk.ch {F : Nat → Prop} {w w' : World} {g : Nat} {ty : TypeId} {L : List Value} (h : Blk w g ty L) (k : Ch F w w') (hne : ¬ F g) : Blk w' g ty L := h.of_eq (k.block g h.lt hne)
/-! ### Rows of numbers -/
def tv (l : List Int) : List Value := l.map (Value.int .i64)
theorem tv_len (l : List Int) : (tv l).length = l.length := List.length_map _
theorem tv_get (l : List Int) (i : Nat) : (tv l)[i]? = l[i]?.map (Value.int .i64) := by simp [tv]
theorem tv_snoc (l : List Int) (x : Int) : tv (l ++ [x]) = tv l ++ [.int .i64 x] := by simp [tv]
theorem tv_app (l m : List Int) : tv (l ++ m) = tv l ++ tv m := by simp [tv]
theorem tv_one (l : List Int) : ∀ v ∈ tv l, v.oneCell' = true := by
  intro v hv
  simp only [tv, List.mem_map] at hv
  obtain ⟨i, _, rfl⟩ := hv
  rfl
/-- Numbers, as a slice of its own. -/
def Own (w : World) (v : Value) (l : List Int) : Prop := w.ownsRow 0 3 1 v l.length (tv l)
theorem Own.nil (w : World) : Own w (.slice none 0 0) [] := World.ownsRow_nil w 0 3 1
theorem Own.shape {w : World} {v : Value} {l : List Int} (h : Own w v l) : (v = .slice none 0 0 ∧ l = []) ∨ ∃ g cap L, v = .slice (some ⟨g, 0, none⟩) l.length cap ∧ Blk w g 3 L ∧ l.length ≤ cap ∧ cap ≤ maxLen ∧ L.length = cap ∧ L.take l.length = tv l := by
  rcases h.2 with ⟨h1, h2⟩ | ⟨g, cap, cur, h1, h2, h3, h4, h5, h6, h7⟩
  · exact Or.inl ⟨h1, List.eq_nil_of_length_eq_zero h2⟩
  · refine Or.inr ⟨g, cap, cur.toList, h1, ?_, h4, h5, by simpa using h6, by simpa using h7⟩
    unfold Blk
    simpa using h3
theorem Own.of_blk {w : World} {g cap : Nat} {L : List Value} {l : List Int} (h : Blk w g 3 L) (h1 : l.length ≤ cap) (h2 : cap ≤ maxLen) (h3 : L.length = cap) (h4 : L.take l.length = tv l) : Own w (.slice (some ⟨g, 0, none⟩) l.length cap) l :=
  ⟨by simp [tv], Or.inr ⟨g, cap, L.toArray, rfl, Nat.zero_le _, h, h1, h2, by simpa using h3, by simpa using h4⟩⟩
theorem Own.of_eq {w w' : World} {v : Value} {l : List Int} (h : Own w v l) (e : ∀ g, v.ownBlock = some g → w'.heap[g]? = w.heap[g]?) : Own w' v l := by
  refine ⟨h.1, ?_⟩
  rcases h.2 with h1 | ⟨g, cap, cur, h1, h2, h3, h4⟩
  · exact Or.inl h1
  · subst h1
    exact Or.inr ⟨g, cap, cur, rfl, h2, (e g rfl).trans h3, h4⟩
theorem Own.lt {w : World} {v : Value} {l : List Int} (h : Own w v l) : ∀ g, v.ownBlock = some g → g < w.heap.size := by
  intro g hg
  rcases h.shape with ⟨rfl, _⟩ | ⟨g', cap, L, rfl, hb, _⟩
  · cases hg
  · cases hg
    exact hb.lt
theorem Own.ch {F : Nat → Prop} {w w' : World} {v : Value} {l : List Int} (h : Own w v l) (k : Ch F w w') (hne : ∀ g, v.ownBlock = some g → ¬ F g) : Own w' v l := h.of_eq (fun g hg => k.block g (h.lt g hg) (hne g hg))
theorem Own.below {w w' : World} {v : Value} {l : List Int} (h : Own w v l) (k : Below w.heap.size w w') : Own w' v l := h.of_eq (fun g hg => k.block g (h.lt g hg))
theorem Own.cells {w : World} {g cap : Nat} {l : List Int} (h : Own w (.slice (some ⟨g, 0, none⟩) l.length cap) l) {k : Nat} {t : Int} (hk : l[k]? = some t) : w.cell? ⟨g, k, none⟩ = some (.int .i64 t) := by
  obtain ⟨hlt, _⟩ := List.getElem?_eq_some_iff.1 hk
  rcases h.shape with ⟨e, _⟩ | ⟨g', cap', L, h1, h2, h3, h4, h5, h6⟩
  · cases e
  · cases h1
    rw [h2.cell k, ← List.getElem?_take_of_lt hlt, h6, tv_get, hk]
    rfl
theorem Own.cap {w : World} {g cap : Nat} {l : List Int} (h : Own w (.slice (some ⟨g, 0, none⟩) l.length cap) l) : l.length ≤ cap ∧ cap ≤ maxLen := by
  rcases h.shape with ⟨e, _⟩ | ⟨g', cap', L, h1, h2, h3, h4, h5, h6⟩
  · cases e
  · cases h1
    exact ⟨h3, h4⟩
/-- A list of numbers that is read: nothing is said of whose it is. -/
def Lst (w : World) (v : Value) (l : List Int) : Prop := ∃ q cap, v = .slice q l.length cap ∧ (l = [] ∨ ∃ g o, q = some ⟨g, o, none⟩ ∧ ∀ i t, l[i]? = some t → w.cell? ⟨g, o + i, none⟩ = some (.int .i64 t))
theorem Own.lst {w : World} {v : Value} {l : List Int} (h : Own w v l) : Lst w v l := by
  rcases h.shape with ⟨rfl, rfl⟩ | ⟨g, cap, L, rfl, _⟩
  · exact ⟨none, 0, rfl, Or.inl rfl⟩
  · exact ⟨_, _, rfl, Or.inr ⟨g, 0, rfl, fun i t ht => by rw [Nat.zero_add]; exact h.cells ht⟩⟩
end Go.Proofs.Ytimeoinmepfpnaa.Ri
