/- What lies in memory: blocks, rows of numbers of their own, a map of places to orders, a row of rows; what keeps them and what turns one row; no condition. -/
import Derived.Test.YtdlkmeopiilmdaaSg
import Derived.Test.YtdlkmeopiilmdaaLy
import Derived.WalkKit
import Derived.ProofKit
import Derived.OpenShut
import Derived.WalkSpells
import Derived.WalkLawsBesides
import Derived.Laws.BitsAllLaws
import Derived.Laws.IdiomCopy
import Derived.Lib.SliceRun
import Derived.Lib.OwnBridge
import Derived.Lib.SlKeysI
import Derived.Deep.AppendLies
import Derived.Deep.WholeRow
import Derived.Deep.QuietTactic
import Derived.Deep.RegionHeld3
import Derived.Deep.RegionHeldLaw
import Derived.BigQuiet
import Derived.Maps.OwnSet
namespace Go.Proofs.Ytdlkmeopiilmdaa
open Go.ChangeShapes Go.WideShapes Go.ChangeAt Go.RowKit
set_option linter.unusedVariables false

theorem own : ownKnob Try.prog.godebug = none := by kernel_rfl
theorem ret_int {k : IntKind} {a b : Int} (h : a = b) : Ending.returned (.int k a) = .returned (.int k b) := by rw [h]
theorem ret_bool {a b : Bool} (h : a = b) : Ending.returned (.bool a) = .returned (.bool b) := by rw [h]
theorem some_ne {a b : Nat} (h : a ≠ b) : some a ≠ some b := fun e => h (by injection e)
/-- The number of a value. -/
def iv : Value → Int
  | .int _ a => a
  | _ => 0
/-! ### Blocks -/
def Blk (w : World) (g : Nat) (ty : TypeId) (L : List Value) : Prop := w.heap[g]? = some (.cells L.toArray ty (0, 0))
theorem Blk.lt {w : World} {g : Nat} {ty : TypeId} {L : List Value} (h : Blk w g ty L) : g < w.heap.size := (Array.getElem?_eq_some_iff.1 h).1
theorem Blk.cell {w : World} {g : Nat} {ty : TypeId} {L : List Value} (h : Blk w g ty L) (i : Nat) : w.cell? ⟨g, i, none⟩ = L[i]? := by
  rw [cell_of_row w g i _ ty (0, 0) h]; simp
theorem Blk.frozen {w : World} {g : Nat} {ty : TypeId} {L : List Value} (h : Blk w g ty L) (i : Nat) : w.frozen? ⟨g, i, none⟩ = false := by
  unfold Blk at h
  simp [World.frozen?, h]
theorem Blk.of_eq {w w' : World} {g : Nat} {ty : TypeId} {L : List Value} (h : Blk w g ty L) (e : w'.heap[g]? = w.heap[g]?) : Blk w' g ty L := by unfold Blk at *; rw [e, h]
theorem Blk.kept {w w' : World} {g : Nat} {ty : TypeId} {L : List Value} {row : Option Nat} (h : Blk w g ty L) (k : w.grownBy w' row) (hne : some g ≠ row) : Blk w' g ty L := h.of_eq (k.block g h.lt hne)
theorem Blk.set {w : World} {g : Nat} {ty : TypeId} {L : List Value} (h : Blk w g ty L) (i : Nat) (v : Value) : Blk (w.setCell ⟨g, i, none⟩ v) g ty (L.set i v) := by
  unfold Blk at *
  simp only [World.setCell, Array.getElem?_modify, if_true, h]
  simp
theorem blk_new (w : World) (L : List Value) (ty : TypeId) : Blk (w.alloc (.cells L.toArray ty)) w.heap.size ty L := heap_alloc_last w _
theorem grown_setCell' (w : World) (g k : Nat) (v : Value) : w.grownBy (w.setCell ⟨g, k, none⟩ v) (some g) :=
  ⟨rfl, rfl, rfl, by simp [World.setCell], fun i hi hne => Below.heap_setCell _ _ _ _ (by intro h; exact hne (by rw [h]))⟩
theorem grown_setCells (b : Nat) : ∀ (vs : List Value) (o : Nat) (w : World), w.grownBy (w.setCells b o vs) (some b)
  | [], _, w => ⟨rfl, rfl, rfl, Nat.le_refl _, fun _ _ _ => rfl⟩
  | v :: r, o, w => by
    have h := grown_setCell' w b o v
    have k := grown_setCells b r (o + 1) (w.setCell ⟨b, o, none⟩ v)
    exact ⟨k.os.trans h.os, k.tape.trans h.tape, k.output.trans h.output, Nat.le_trans h.size k.size, fun i hi hne => (k.block i (Nat.lt_of_lt_of_le hi h.size) hne).trans (h.block i hi hne)⟩
theorem grown_drewN (w : World) (n : Nat) (row : Option Nat) : w.grownBy (w.drewN n) row := ⟨rfl, rfl, rfl, Nat.le_refl _, fun _ _ _ => rfl⟩
theorem grown_drew (w : World) (row : Option Nat) : w.grownBy w.drew row := ⟨rfl, rfl, rfl, Nat.le_refl _, fun _ _ _ => rfl⟩
theorem below_grow {w w' : World} {row : Option Nat} (h : Below w.heap.size w w') : w.grownBy w' row := ⟨h.os, h.tape, h.output, h.size, fun i hi _ => h.block i hi⟩
theorem below_of {w w' : World} {row : Option Nat} (h : w.grownBy w' row) (B : Nat) (hB : B ≤ w.heap.size) (hr : ∀ k, row = some k → B ≤ k) : Below B w w' := (Below.refl B w).grown h hB hr
theorem over_cons (L : List Value) (a : Nat) (v : Value) (vs : List Value) (h : a + 1 + vs.length ≤ L.length) : (L.set a v).take (a + 1) ++ vs ++ (L.set a v).drop (a + 1 + vs.length) = L.take a ++ (v :: vs) ++ L.drop (a + (vs.length + 1)) := by
  rw [List.drop_set_of_lt (by omega), List.take_set, List.take_add_one, List.getElem?_eq_getElem (by omega : a < L.length)]
  simp only [Option.toList_some]
  rw [List.set_append_right _ _ (by simp; omega)]
  simp
  rw [Nat.min_eq_left (by omega), Nat.sub_self]
  simp
  congr 1
  omega
theorem Blk.sets {g : Nat} {ty : TypeId} : ∀ (vs : List Value) (a : Nat) (w : World) (L : List Value), Blk w g ty L → a + vs.length ≤ L.length → Blk (w.setCells g a vs) g ty (L.take a ++ vs ++ L.drop (a + vs.length))
  | [], a, w, L, h, _ => by simpa [World.setCells] using h
  | v :: vs, a, w, L, h, hl => by
    simp only [List.length_cons] at hl
    have := Blk.sets vs (a + 1) _ _ (h.set a v) (by simp; omega)
    rw [over_cons L a v vs (by omega)] at this
    rw [World.setCells]
    simpa using this
/-! ### What turned -/
/-- What turned lies in F, or is new; what is then one's own lies in F', which is of F or new. -/
structure Kp (F F' : Nat → Prop) (w w' : World) : Prop where
  os : w'.os = w.os
  tape : w'.tape = w.tape
  output : w'.output = w.output
  size : w.heap.size ≤ w'.heap.size
  block : ∀ k, k < w.heap.size → ¬ F k → w'.heap[k]? = w.heap[k]?
  new : ∀ k, F' k → F k ∨ w.heap.size ≤ k
theorem Kp.below {F F' : Nat → Prop} {w w' : World} (h : Kp F F' w w') (B : Nat) (hB : B ≤ w.heap.size) (hF : ∀ k, F k → B ≤ k) : Below B w w' :=
  ⟨h.os, h.tape, h.output, h.size, fun k hk => h.block k (by omega) (fun e => by have := hF k e; omega)⟩
theorem Kp.refl (F : Nat → Prop) (w : World) : Kp F F w w := ⟨rfl, rfl, rfl, Nat.le_refl _, fun _ _ _ => rfl, fun _ h => Or.inl h⟩
theorem Kp.of_grown {F F' : Nat → Prop} {w w' : World} {row : Option Nat} (h : w.grownBy w' row) (hr : ∀ g, row = some g → F g) (hn : ∀ k, F' k → F k ∨ w.heap.size ≤ k) : Kp F F' w w' :=
  ⟨h.os, h.tape, h.output, h.size, fun k hk hF => h.block k hk (by intro e; exact hF (hr k e.symm)), hn⟩
theorem Kp.of_none {F : Nat → Prop} {w w' : World} (h : w.grownBy w' none) : Kp F F w w' := Kp.of_grown h (by simp) (fun _ h => Or.inl h)
theorem Kp.trans {F F' F'' : Nat → Prop} {a b c : World} (h : Kp F F' a b) (k : Kp F' F'' b c) : Kp F F'' a c :=
  ⟨k.os.trans h.os, k.tape.trans h.tape, k.output.trans h.output, Nat.le_trans h.size k.size,
   fun i hi hF => (k.block i (Nat.lt_of_lt_of_le hi h.size) (fun e => by rcases h.new i e with q | q; exact hF q; omega)).trans (h.block i hi hF),
   fun i hi => by
    rcases k.new i hi with q | q
    · exact h.new i q
    · exact Or.inr (Nat.le_trans h.size q)⟩
def put {α : Type} (f : Nat → α) (i : Nat) (l : α) : Nat → α := fun j => if j = i then l else f j
theorem put_same {α : Type} (f : Nat → α) (i : Nat) (l : α) : put f i l i = l := by simp [put]
theorem put_other {α : Type} (f : Nat → α) (i j : Nat) (l : α) (h : j ≠ i) : put f i l j = f j := by simp [put, h]
/-! ### Rows of numbers -/
def tv (l : List Int) : List Value := l.map (Value.int .i64)
theorem tv_len (l : List Int) : (tv l).length = l.length := by simp [tv]
theorem tv_get (l : List Int) (i : Nat) : (tv l)[i]? = l[i]?.map (Value.int .i64) := by simp [tv]
theorem tv_one (l : List Int) : ∀ v ∈ tv l, v.oneCell' = true := by
  intro v hv
  simp only [tv, List.mem_map] at hv
  obtain ⟨i, _, rfl⟩ := hv
  rfl
def ints (l : List Nat) : List Int := l.map (fun x : Nat => (x : Int))
theorem ints_len (l : List Nat) : (ints l).length = l.length := by simp [ints]
theorem ints_get (l : List Nat) (i : Nat) : (ints l)[i]? = l[i]?.map (fun x : Nat => (x : Int)) := by simp [ints]
/-- Numbers, as a slice of its own. -/
def Own (w : World) (v : Value) (l : List Int) : Prop := w.ownsRow 0 3 1 v l.length (tv l)
theorem Own.nil (w : World) : Own w (.slice none 0 0) [] := World.ownsRow_nil w 0 3 1
theorem Own.shape {w : World} {v : Value} {l : List Int} (h : Own w v l) : (v = .slice none 0 0 ∧ l = []) ∨ ∃ g cap L, v = .slice (some ⟨g, 0, none⟩) l.length cap ∧ Blk w g 3 L ∧ l.length ≤ cap ∧ cap ≤ maxLen ∧ L.length = cap ∧ L.take l.length = tv l := by
  rcases h.2 with ⟨h1, h2⟩ | ⟨g, cap, cur, h1, h2, h3, h4, h5, h6, h7⟩
  · exact Or.inl ⟨h1, List.eq_nil_of_length_eq_zero h2⟩
  · refine Or.inr ⟨g, cap, cur.toList, h1, ?_, h4, h5, by simpa using h6, by simpa using h7⟩
    unfold Blk
    simpa using h3
theorem Own.of_blk {w : World} {g cap : Nat} {L : List Value} {l : List Int} (h : Blk w g 3 L) (h1 : l.length ≤ cap) (h2 : cap ≤ maxLen) (h3 : L.length = cap) (h4 : L.take l.length = tv l) : Own w (.slice (some ⟨g, 0, none⟩) l.length cap) l :=
  ⟨by simp [tv], Or.inr ⟨g, cap, L.toArray, rfl, Nat.zero_le _, h, h1, h2, by simpa using h3, by simpa using h4⟩⟩
theorem Own.of_eq {w w' : World} {v : Value} {l : List Int} (h : Own w v l) (e : ∀ g, v.ownBlock = some g → w'.heap[g]? = w.heap[g]?) : Own w' v l := by
  refine ⟨h.1, ?_⟩
  rcases h.2 with h1 | ⟨g, cap, cur, h1, h2, h3, h4⟩
  · exact Or.inl h1
  · subst h1
    exact Or.inr ⟨g, cap, cur, rfl, h2, (e g rfl).trans h3, h4⟩
theorem Own.lt {w : World} {v : Value} {l : List Int} (h : Own w v l) : ∀ g, v.ownBlock = some g → g < w.heap.size := by
  intro g hg
  rcases h.shape with ⟨rfl, _⟩ | ⟨g', cap, L, rfl, hb, _⟩
  · cases hg
  · cases hg
    exact hb.lt
theorem Own.len {w : World} {v : Value} {l : List Int} (h : Own w v l) : ∃ a cap, v = .slice a l.length cap := by
  rcases h.shape with ⟨h1, rfl⟩ | ⟨g, cap, L, h1, _⟩
  · exact ⟨none, 0, h1⟩
  · exact ⟨_, _, h1⟩
theorem Own.cell {w : World} {v : Value} {l : List Int} (h : Own w v l) {k : Nat} {t : Int} (hk : l[k]? = some t) : ∃ g cap, v = .slice (some ⟨g, 0, none⟩) l.length cap ∧ w.cell? ⟨g, k, none⟩ = some (.int .i64 t) := by
  obtain ⟨hlt, _⟩ := List.getElem?_eq_some_iff.1 hk
  rcases h.shape with ⟨_, rfl⟩ | ⟨g, cap, L, h1, h2, h3, h4, h5, h6⟩
  · simp at hlt
  · refine ⟨g, cap, h1, ?_⟩
    rw [h2.cell k, ← List.getElem?_take_of_lt hlt, h6, tv_get, hk]
    rfl
/-- A row of k rows: its block g, the i-th slice V i, its numbers M i; all blocks in F. -/
structure Rws (w : World) (F : Nat → Prop) (g k : Nat) (M : Nat → List Int) (V : Nat → Value) : Prop where
  lt : ∀ b, F b → b < w.heap.size
  fg : F g
  fv : ∀ i b, i < k → (V i).ownBlock = some b → F b
  row : ∀ i, i < k → w.cell? ⟨g, i, none⟩ = some (V i)
  fz : ∀ i, i < k → w.frozen? ⟨g, i, none⟩ = false
  own : ∀ i, i < k → Own w (V i) (M i)
  vg : ∀ i, i < k → (V i).ownBlock ≠ some g
  inj : ∀ i j b, i < k → j < k → i ≠ j → (V i).ownBlock = some b → (V j).ownBlock ≠ some b
theorem Rws.of_eq {w w' : World} {F : Nat → Prop} {g k : Nat} {M : Nat → List Int} {V : Nat → Value} (h : Rws w F g k M V) (hs : w.heap.size ≤ w'.heap.size) (e : ∀ b, F b → w'.heap[b]? = w.heap[b]?) : Rws w' F g k M V :=
  ⟨fun b hb => Nat.lt_of_lt_of_le (h.lt b hb) hs, h.fg, h.fv, fun i hi => (World.cell?_of_block (w := w) (a := ⟨g, i, none⟩) (e g h.fg)).trans (h.row i hi), fun i hi => (World.frozen?_of_block (w := w) (a := ⟨g, i, none⟩) (e g h.fg)).trans (h.fz i hi),
   fun i hi => (h.own i hi).of_eq (fun b hb => e b (h.fv i b hi hb)), h.vg, h.inj⟩
theorem Rws.congr {w : World} {F : Nat → Prop} {g k : Nat} {M M' : Nat → List Int} {V : Nat → Value} (h : Rws w F g k M V) (e : ∀ i, i < k → M i = M' i) : Rws w F g k M' V :=
  ⟨h.lt, h.fg, h.fv, h.row, h.fz, fun i hi => by rw [← e i hi]; exact h.own i hi, h.vg, h.inj⟩
theorem Rws.sub {w : World} {F F' : Nat → Prop} {g k : Nat} {M : Nat → List Int} {V : Nat → Value} (h : Rws w F g k M V) (e : ∀ b, F b → F' b) (hl : ∀ b, F' b → b < w.heap.size) : Rws w F' g k M V :=
  ⟨hl, e _ h.fg, fun i b hi hb => e b (h.fv i b hi hb), h.row, h.fz, h.own, h.vg, h.inj⟩
theorem Rws.turn {w w1 : World} {F : Nat → Prop} {g k : Nat} {M : Nat → List Int} {V : Nat → Value} (h : Rws w F g k M V) (i : Nat) (hi : i < k) (v' : Value) (l' : List Int)
    (G1 : w.grownBy w1 (V i).ownBlock) (ho : Own w1 v' l') (hv : ∀ b, v'.ownBlock = some b → (V i).ownBlock = some b ∨ w.heap.size ≤ b) :
    Rws (w1.setCell ⟨g, i, none⟩ v') (fun b => F b ∨ (w.heap.size ≤ b ∧ b < w1.heap.size)) g k (put M i l') (put V i v') ∧
    Kp F (fun b => F b ∨ (w.heap.size ≤ b ∧ b < w1.heap.size)) w (w1.setCell ⟨g, i, none⟩ v') := by
  have G2 := grown_setCell' w1 g i v'
  have s1 := G1.size
  have s2 : (w1.setCell ⟨g, i, none⟩ v').heap.size = w1.heap.size := by simp [World.setCell]
  have hglt := h.lt g h.fg
  have hlt : ∀ j b, j < k → (V j).ownBlock = some b → b < w.heap.size := fun j b hj hb => (h.own j hj).lt b hb
  have eg : w1.heap[g]? = w.heap[g]? := G1.block g hglt (fun e => h.vg i hi e.symm)
  have e1 := fun j hj => (World.cell?_of_block (w := w) (a := ⟨g, j, none⟩) eg).trans (h.row j hj)
  have e2 := fun j hj => (World.frozen?_of_block (w := w) (a := ⟨g, j, none⟩) eg).trans (h.fz j hj)
  have bk : ∀ b, b < w.heap.size → b ≠ g → some b ≠ (V i).ownBlock → (w1.setCell ⟨g, i, none⟩ v').heap[b]? = w.heap[b]? := fun b hb h1 h2 => (G2.block b (by omega) (some_ne h1)).trans (G1.block b hb h2)
  have vne : ∀ b, v'.ownBlock = some b → b ≠ g := by
    intro b hb e
    subst e
    rcases hv b hb with q | q
    · exact h.vg i hi q
    · omega
  have pv : ∀ j, j < k → ∀ b, (put V i v' j).ownBlock = some b → (j = i ∧ w.heap.size ≤ b ∧ b < w1.heap.size) ∨ (V j).ownBlock = some b := by
    intro j hj b hb
    by_cases e : j = i
    · subst e
      rw [put_same] at hb
      rcases hv b hb with q | q
      · exact Or.inr q
      · exact Or.inl ⟨rfl, q, ho.lt b hb⟩
    · rw [put_other _ _ _ _ e] at hb
      exact Or.inr hb
  refine ⟨⟨?_, Or.inl h.fg, ?_, ?_, ?_, ?_, ?_, ?_⟩, ⟨G2.os.trans G1.os, G2.tape.trans G1.tape, G2.output.trans G1.output, by omega, ?_, fun b hb => hb.imp id (fun q => q.1)⟩⟩
  · intro b hb
    rcases hb with q | q
    · have := h.lt b q; omega
    · omega
  · intro j b hj hb
    rcases pv j hj b hb with q | q
    · exact Or.inr q.2
    · exact Or.inl (h.fv j b hj q)
  · intro j hj
    by_cases e : j = i
    · subst e
      rw [put_same, World.cell?_setCell_same _ _ _ (e1 j hj)]
    · rw [put_other _ _ _ _ e, World.cell?_setCell_other _ _ _ _ (by intro h; cases h; exact e rfl)]
      exact e1 j hj
  · intro j hj
    rw [World.frozen?_setCell]
    exact e2 j hj
  · intro j hj
    by_cases e : j = i
    · subst e
      rw [put_same, put_same]
      refine ho.of_eq (fun b hb => G2.block b (ho.lt b hb) (some_ne (vne b hb)))
    · rw [put_other _ _ _ _ e, put_other _ _ _ _ e]
      refine (h.own j hj).of_eq (fun b hb => bk b (hlt j b hj hb) (fun q => h.vg j hj (q ▸ hb)) (fun q => h.inj j i b hj hi e hb q.symm))
  · intro j hj q
    by_cases e : j = i
    · subst e
      rw [put_same] at q
      exact vne g q rfl
    · rw [put_other _ _ _ _ e] at q
      exact h.vg j hj q
  · intro j j' b hj hj' hne q q'
    rcases pv j hj b q with ⟨a1, a2, _⟩ | a
    · rcases pv j' hj' b q' with ⟨a3, _⟩ | a3
      · omega
      · have := hlt j' b hj' a3; omega
    · rcases pv j' hj' b q' with ⟨a3, a4, _⟩ | a3
      · have := hlt j b hj a; omega
      · exact h.inj j j' b hj hj' hne a a3
  · intro b hb hF
    exact bk b hb (fun e => hF (e ▸ h.fg)) (fun e => hF (h.fv i b hi e.symm))
/-! ### The map of places to orders -/
/-- How an order reads: as itself. -/
def Rv (v : Value) : Option (DataW Value × List MemPlace) := some (.held v, [])
/-- An order as a value. -/
def pv (h : Nat) : Value := .int .i64 h
/-- What a map's data say of the slots. -/
structure Vw (D : DataW Value) (N : Nat) (m : Nat → Option Nat) : Prop where
  has : ∀ k : Int, Maps.has D (.int .i64 k) = true ↔ ∃ (j : Nat) (h : Nat), k = j ∧ m j = some h
  at' : ∀ (j : Nat) h, m j = some h → ∀ z, D.atKey (.int .i64 j) z = .held (pv h)
  lt : ∀ j h, m j = some h → j < N ∧ h ≤ 6
/-- Block b is the map of N slots whose pages are m. -/
def Mp (w : World) (b N : Nat) (m : Nat → Option Nat) : Prop := ∃ D, w.ownsMap Try.prog 3 Rv b N D ∧ Vw D N m
theorem keyed : Maps.Keyed Try.prog 3 := Maps.int_keyed Try.underlying3
theorem key_at (j : Nat) (h : j ≤ 4096) : keyOf Try.prog 3 (.int .i64 j) = some (.int .i64 j) :=
  Maps.keyOf_int_mk Try.underlying3 (by simp [Lit.wf, IntKind.min, IntKind.max, IntKind.bits, IntKind.signed]; omega)
theorem key_in (j : Int) (h0 : 0 ≤ j) (h1 : j < 9223372036854775808) : keyOf Try.prog 3 (.int .i64 j) = some (.int .i64 j) :=
  Maps.keyOf_int_mk Try.underlying3 (by simp [Lit.wf, IntKind.min, IntKind.max, IntKind.bits, IntKind.signed]; omega)
theorem Mp.lt {w : World} {b N : Nat} {m : Nat → Option Nat} (h : Mp w b N m) : b < w.heap.size := by
  obtain ⟨D, ho, _⟩ := h
  exact ho.lt
theorem Mp.kept {w w' : World} {b N : Nat} {m : Nat → Option Nat} {row : Option Nat} (h : Mp w b N m) (g : w.grownBy w' row) (hne : some b ≠ row) : Mp w' b N m := by
  obtain ⟨D, ho, hv⟩ := h
  exact ⟨D, ho.kept g hne, hv⟩
theorem Mp.ok {w : World} {b N : Nat} {m : Nat → Option Nat} (h : Mp w b N m) {j : Nat} {u : Nat} (e : m j = some u) : j < N ∧ u ≤ 6 := by
  obtain ⟨D, ho, hv⟩ := h
  exact hv.lt j u e
theorem mp_new (w : World) (N : Nat) : Mp (w.alloc (.map #[] 0)) w.heap.size N (fun _ => none) :=
  ⟨_, (World.ownsMap_made w Try.prog 3 Rv).mono (Nat.zero_le _), ⟨fun k => by simp [Maps.has], fun j h e => by simp at e, fun j h e => by simp at e⟩⟩
/-- The slots that have a page, rising. -/
def us (N : Nat) (m : Nat → Option Nat) : List Nat := (List.range N).filter fun j => (m j).isSome
def usI (N : Nat) (m : Nat → Option Nat) : List Int := (us N m).map (fun j : Nat => (j : Int))
theorem mem_usI {D : DataW Value} {N : Nat} {m : Nat → Option Nat} (v : Vw D N m) (x : Int) : x ∈ usI N m ↔ Maps.has D (.int .i64 x) = true := by
  rw [v.has x]
  simp only [usI, us, List.mem_map, List.mem_filter, List.mem_range]
  constructor
  · rintro ⟨j, ⟨h1, h2⟩, rfl⟩
    obtain ⟨h, e⟩ := Option.isSome_iff_exists.1 h2
    exact ⟨j, h, rfl, e⟩
  · rintro ⟨j, h, rfl, e⟩
    exact ⟨j, ⟨(v.lt j h e).1, by rw [e]; rfl⟩, rfl⟩
theorem usI_lt (N : Nat) (m : Nat → Option Nat) : (usI N m).Pairwise (· < ·) := by
  unfold usI us
  rw [List.pairwise_map]
  refine List.Pairwise.imp ?_ (List.Pairwise.filter _ (List.pairwise_lt_range))
  intro a b h
  omega
theorem usI_nodup (N : Nat) (m : Nat → Option Nat) : (usI N m).Nodup := (usI_lt N m).imp (fun h => by omega)
theorem us_len (N : Nat) (m : Nat → Option Nat) : (usI N m).length ≤ N := by
  unfold usI us
  rw [List.length_map]
  exact Nat.le_trans (List.length_filter_le _ _) (by simp)
theorem keys_perm {w : World} {b n N : Nat} {D : DataW Value} {m : Nat → Option Nat} (ho : w.ownsMap Try.prog 3 Rv b n D) (v : Vw D N m) : (usI N m).Perm (intKeys D) := by
  obtain ⟨es, hD, hpw, _⟩ := ho.entries keyed
  obtain ⟨es', hD', hko⟩ := ho.keysOf
  obtain rfl : es = es' := by rw [hD] at hD'; simpa using hD'
  subst hD
  exact perm_intKeys hpw (fun p hp => by obtain ⟨k, hk⟩ := hko p hp; obtain ⟨x, _, hx, _⟩ := Maps.keyOf_i64 Try.underlying3 hk; exact ⟨x, hx⟩) (usI_nodup N m) (mem_usI v)
theorem keys_size {w : World} {b n : Nat} {D : DataW Value} (ho : w.ownsMap Try.prog 3 Rv b n D) : (intKeys D).length = Maps.size D := by
  obtain ⟨es, rfl⟩ := ho.isMap
  simp [intKeys, Maps.size]
/-- Behind a store or a delete the slots' number bounds the entries as before. -/
theorem Mp.mk' {w : World} {b n N : Nat} {D : DataW Value} {m : Nat → Option Nat} (ho : w.ownsMap Try.prog 3 Rv b n D) (v : Vw D N m) : Mp w b N m := by
  have h1 := keys_size ho
  have h2 := (keys_perm ho v).length_eq
  have h3 := us_len N m
  have h4 : Maps.size D ≤ N := by omega
  obtain ⟨es, clock, hb, F, hs, hD⟩ := ho
  refine ⟨D, ⟨es, clock, hb, F, ?_, hD⟩, v⟩
  have e : Maps.size D = es.size := by rw [hD]; simp [Maps.size, length_sorted]
  omega
theorem Vw.put {D : DataW Value} {N : Nat} {m : Nat → Option Nat} (v : Vw D N m) (hD : Maps.IsMap D) (j : Nat) (hj : j < N) (h : Nat) (hh : h ≤ 6) : Vw (D.put (.int .i64 j) (.held (pv h))) N (pt m j (some h)) := by
  have hk : WideAt.IsKeyLit (.int .i64 (j : Int)) := by simp [WideAt.IsKeyLit]
  refine ⟨fun k => ?_, fun i u e z => ?_, fun i u e => ?_⟩
  · by_cases hkj : k = j
    · subst hkj
      rw [Maps.has_put_same hD hk]
      simp only [true_iff]
      exact ⟨j, h, rfl, by simp [pt]⟩
    · rw [Maps.has_put_other (by intro e; injection e with _ e2; exact hkj e2), v.has k]
      constructor
      · rintro ⟨i, u, rfl, e⟩
        exact ⟨i, u, rfl, by unfold pt; rw [if_neg (by omega)]; exact e⟩
      · rintro ⟨i, u, rfl, e⟩
        unfold pt at e
        rw [if_neg (by omega)] at e
        exact ⟨i, u, rfl, e⟩
  · unfold pt at e
    by_cases hij : i = j
    · subst hij
      rw [if_pos rfl] at e
      cases e
      exact Maps.atKey_put_same hD hk _ _
    · rw [if_neg hij] at e
      rw [Maps.atKey_put_other (by intro e; injection e with _ e2; omega)]
      exact v.at' i u e z
  · unfold pt at e
    by_cases hij : i = j
    · subst hij
      rw [if_pos rfl] at e
      cases e
      exact ⟨hj, hh⟩
    · rw [if_neg hij] at e
      exact v.lt i u e
theorem Vw.del {D : DataW Value} {N : Nat} {m : Nat → Option Nat} (v : Vw D N m) (j : Nat) : Vw (D.del (.int .i64 j)) N (pt m j none) := by
  refine ⟨fun k => ?_, fun i u e z => ?_, fun i u e => ?_⟩
  · by_cases hkj : k = j
    · subst hkj
      rw [Maps.has_del_same]
      simp only [Bool.false_eq_true, false_iff]
      rintro ⟨i, u, e1, e2⟩
      obtain rfl : j = i := by omega
      simp [pt] at e2
    · rw [Maps.has_del_other (by intro e; injection e with _ e2; exact hkj e2), v.has k]
      constructor
      · rintro ⟨i, u, rfl, e⟩
        exact ⟨i, u, rfl, by unfold pt; rw [if_neg (by omega)]; exact e⟩
      · rintro ⟨i, u, rfl, e⟩
        unfold pt at e
        rw [if_neg (by omega)] at e
        exact ⟨i, u, rfl, e⟩
  · unfold pt at e
    by_cases hij : i = j
    · rw [if_pos hij] at e
      cases e
    · rw [if_neg hij] at e
      rw [Maps.atKey_del_other (by intro e; injection e with _ e2; omega)]
      exact v.at' i u e z
  · unfold pt at e
    by_cases hij : i = j
    · rw [if_pos hij] at e
      cases e
    · rw [if_neg hij] at e
      exact v.lt i u e
theorem Try.infoI : (Try.prog.info? 3).map (fun i => (i.zero, i.size, i.bytes)) = some (some (.int .i64 0), 1, 8) := by kernel_rfl
theorem Try.zeroI : (Try.prog.info? 3).map (fun i => (i.zero, i.size)) = some (some (.int .i64 0), 1) := by kernel_rfl
theorem Mp.look_some {w : World} {b N : Nat} {m : Nat → Option Nat} (h : Mp w b N m) (hN : N ≤ 4096) {j u : Nat} (e : m j = some u) :
    (Instr.lookup 55 (.map (some b)) (.int .i64 j) true).run Try.prog w = .ok (.tuple #[.int .i64 u, .bool true]) w := by
  obtain ⟨D, ho, v⟩ := h
  have hj := (v.lt j u e).1
  obtain ⟨x, ps, hr, hx⟩ := ho.look_ok keyed Try.underlying55 (z := .int .i64 0) ((zero_of_info Try.zeroI).1 w) (zd := .held (.int .i64 0)) (zp := []) rfl (key_at j (by omega))
  rw [(v.has j).2 ⟨j, u, rfl, e⟩] at hr
  rw [v.at' j u e] at hx
  simp [Rv, pv] at hx
  rw [hr, hx.1]
theorem Mp.look_none {w : World} {b N : Nat} {m : Nat → Option Nat} (h : Mp w b N m) {j : Int} (h0 : 0 ≤ j) (h1 : j < 9223372036854775808) (e : ∀ i : Nat, j = i → m i = none) :
    (Instr.lookup 55 (.map (some b)) (.int .i64 j) true).run Try.prog w = .ok (.tuple #[.int .i64 0, .bool false]) w := by
  obtain ⟨D, ho, v⟩ := h
  obtain ⟨x, ps, hr, hx⟩ := ho.look_ok keyed Try.underlying55 (z := .int .i64 0) ((zero_of_info Try.zeroI).1 w) (zd := .held (.int .i64 0)) (zp := []) rfl (key_in j h0 h1)
  have hf : Maps.has D (.int .i64 j) = false := by
    rw [Bool.eq_false_iff]
    intro ht
    obtain ⟨i, u, e1, e2⟩ := (v.has j).1 ht
    rw [e i e1] at e2
    cases e2
  rw [hf] at hr
  rw [Maps.atKey_of_not_has hf] at hx
  simp [Rv] at hx
  rw [hr, hx.1]
theorem Mp.store {w : World} {b N : Nat} {m : Nat → Option Nat} (h : Mp w b N m) (hN : N ≤ 4096) (j : Nat) (hj : j < N) (u : Nat) (hu : u ≤ 6) :
    ∃ w', (Instr.mapUpdate 55 (.map (some b)) (.int .i64 j) (.int .i64 u)).run Try.prog w = .ok () w' ∧ Mp w' b N (pt m j (some u)) ∧ w.grownBy w' (some b) := by
  obtain ⟨D, ho, v⟩ := h
  obtain ⟨w', hr, ho', g⟩ := ho.update keyed Try.underlying55 (by unfold maxLen; omega) (key_at j (by omega)) (val := pv u) (d := .held (pv u)) (ps := []) rfl
  exact ⟨w', hr, Mp.mk' ho' (v.put ho.isMap j hj u hu), g⟩
theorem Mp.drop {w : World} {b N : Nat} {m : Nat → Option Nat} (h : Mp w b N m) (j : Nat) (hj : j ≤ 4096) (ty : TypeId) :
    ∃ w', (Builtin.delete_ #[55, 3] ty #[.map (some b), .int .i64 j]).run Try.prog w = .ok (.tuple #[]) w' ∧ Mp w' b N (pt m j none) ∧ w.grownBy w' (some b) := by
  obtain ⟨D, ho, v⟩ := h
  obtain ⟨w', hr, ho', g⟩ := ho.drop keyed Try.underlying55 (key_at j hj) ty
  exact ⟨w', hr, Mp.mk' ho' (v.del j), g.grown⟩
theorem Mp.len {w : World} {b N : Nat} {m : Nat → Option Nat} (h : Mp w b N m) : ∃ c : Nat, c ≤ N ∧ (c = 0 ↔ ∀ j, m j = none) ∧ ∀ ty, (Builtin.len_ #[55] ty #[.map (some b)]).run Try.prog w = .ok (.int .i64 c) w := by
  obtain ⟨D, ho, v⟩ := h
  have h1 := keys_size ho
  have h2 := (keys_perm ho v).length_eq
  refine ⟨Maps.size D, ho.size_le, ?_, fun ty => ho.len Try.underlying55 ty⟩
  rw [← h1, ← h2, List.length_eq_zero_iff]
  constructor
  · intro e j
    cases hj : m j with
    | none => rfl
    | some u =>
      have : (j : Int) ∈ usI N m := (mem_usI v j).2 ((v.has j).2 ⟨j, u, rfl, hj⟩)
      rw [e] at this
      simp at this
  · intro e
    rw [List.eq_nil_iff_forall_not_mem]
    intro x hx
    obtain ⟨j, u, _, hu⟩ := (v.has x).1 ((mem_usI v x).1 hx)
    rw [e j] at hu
    cases hu
end Go.Proofs.Ytdlkmeopiilmdaa
