/- What lies in memory: blocks, rows of numbers of their own, a map of places to orders, a row of rows; what keeps them and what turns one row; no condition. -/
import Derived.Test.YtkbpnkjjmipjfaaGreatVGx
import Derived.WalkKit
import Derived.ProofKit
import Derived.OpenShut
import Derived.WalkSpells
import Derived.WalkLawsBesides
import Derived.Laws.BitsAllLaws
import Derived.Laws.IdiomCopy
import Derived.Lib.SliceRun
import Derived.Lib.OwnBridge
import Derived.Lib.SlKeysI
import Derived.Deep.AppendLies
import Derived.Deep.WholeRow
import Derived.Deep.QuietTactic
import Derived.Deep.RegionHeld3
import Derived.Deep.RegionHeldLaw
import Derived.BigQuiet
import Derived.Maps.OwnSet
namespace Go.Proofs.YtkbpnkjjmipjfaaGreat.B
open Go.ChangeShapes Go.WideShapes Go.ChangeAt Go.RowKit
set_option linter.unusedVariables false

theorem own : ownKnob Tryz.prog.godebug = none := by kernel_rfl
theorem ret_int {k : IntKind} {a b : Int} (h : a = b) : Ending.returned (.int k a) = .returned (.int k b) := by rw [h]
theorem ret_bool {a b : Bool} (h : a = b) : Ending.returned (.bool a) = .returned (.bool b) := by rw [h]
theorem some_ne {a b : Nat} (h : a ≠ b) : some a ≠ some b := fun e => h (by injection e)
def iv : Value → Int
  | .int _ a => a
  | _ => 0
def Blk (w : World) (g : Nat) (ty : TypeId) (L : List Value) : Prop := w.heap[g]? = some (.cells L.toArray ty (0, 0))
theorem Blk.lt {w : World} {g : Nat} {ty : TypeId} {L : List Value} (h : Blk w g ty L) : g < w.heap.size := (Array.getElem?_eq_some_iff.1 h).1
theorem Blk.cell {w : World} {g : Nat} {ty : TypeId} {L : List Value} (h : Blk w g ty L) (i : Nat) : w.cell? ⟨g, i, none⟩ = L[i]? := by
  rw [cell_of_row w g i _ ty (0, 0) h]; simp
theorem Blk.frozen {w : World} {g : Nat} {ty : TypeId} {L : List Value} (h : Blk w g ty L) (i : Nat) : w.frozen? ⟨g, i, none⟩ = false := by
  unfold Blk at h
  simp [World.frozen?, h]
theorem Blk.of_eq {w w' : World} {g : Nat} {ty : TypeId} {L : List Value} (h : Blk w g ty L) (e : w'.heap[g]? = w.heap[g]?) : Blk w' g ty L := by unfold Blk at *; rw [e, h]
theorem Blk.kept {w w' : World} {g : Nat} {ty : TypeId} {L : List Value} {row : Option Nat} (h : Blk w g ty L) (k : w.grownBy w' row) (hne : some g ≠ row) : Blk w' g ty L := h.of_eq (k.block g h.lt hne)
theorem Blk.set {w : World} {g : Nat} {ty : TypeId} {L : List Value} (h : Blk w g ty L) (i : Nat) (v : Value) : Blk (w.setCell ⟨g, i, none⟩ v) g ty (L.set i v) := by
  unfold Blk at *
  simp only [World.setCell, Array.getElem?_modify, if_true, h]
  simp
theorem blk_new (w : World) (L : List Value) (ty : TypeId) : Blk (w.alloc (.cells L.toArray ty)) w.heap.size ty L := heap_alloc_last w _
theorem grown_setCell' (w : World) (g k : Nat) (v : Value) : w.grownBy (w.setCell ⟨g, k, none⟩ v) (some g) :=
  ⟨rfl, rfl, rfl, by simp [World.setCell], fun i hi hne => Below.heap_setCell _ _ _ _ (by intro h; exact hne (by rw [h]))⟩
theorem grown_setCells (b : Nat) : ∀ (vs : List Value) (o : Nat) (w : World), w.grownBy (w.setCells b o vs) (some b)
  | [], _, w => ⟨rfl, rfl, rfl, Nat.le_refl _, fun _ _ _ => rfl⟩
  | v :: r, o, w => by
    have h := grown_setCell' w b o v
    have k := grown_setCells b r (o + 1) (w.setCell ⟨b, o, none⟩ v)
    exact ⟨k.os.trans h.os, k.tape.trans h.tape, k.output.trans h.output, Nat.le_trans h.size k.size, fun i hi hne => (k.block i (Nat.lt_of_lt_of_le hi h.size) hne).trans (h.block i hi hne)⟩
theorem grown_drewN (w : World) (n : Nat) (row : Option Nat) : w.grownBy (w.drewN n) row := ⟨rfl, rfl, rfl, Nat.le_refl _, fun _ _ _ => rfl⟩
theorem grown_drew (w : World) (row : Option Nat) : w.grownBy w.drew row := ⟨rfl, rfl, rfl, Nat.le_refl _, fun _ _ _ => rfl⟩
theorem below_grow {w w' : World} {row : Option Nat} (h : Below w.heap.size w w') : w.grownBy w' row := ⟨h.os, h.tape, h.output, h.size, fun i hi _ => h.block i hi⟩
theorem below_of {w w' : World} {row : Option Nat} (h : w.grownBy w' row) (B : Nat) (hB : B ≤ w.heap.size) (hr : ∀ k, row = some k → B ≤ k) : Below B w w' := (Below.refl B w).grown h hB hr
theorem over_cons (L : List Value) (a : Nat) (v : Value) (vs : List Value) (h : a + 1 + vs.length ≤ L.length) : (L.set a v).take (a + 1) ++ vs ++ (L.set a v).drop (a + 1 + vs.length) = L.take a ++ (v :: vs) ++ L.drop (a + (vs.length + 1)) := by
  rw [List.drop_set_of_lt (by omega), List.take_set, List.take_add_one, List.getElem?_eq_getElem (by omega : a < L.length)]
  simp only [Option.toList_some]
  rw [List.set_append_right _ _ (by simp; omega)]
  simp
  rw [Nat.min_eq_left (by omega), Nat.sub_self]
  simp
  congr 1
  omega
theorem Blk.sets {g : Nat} {ty : TypeId} : ∀ (vs : List Value) (a : Nat) (w : World) (L : List Value), Blk w g ty L → a + vs.length ≤ L.length → Blk (w.setCells g a vs) g ty (L.take a ++ vs ++ L.drop (a + vs.length))
  | [], a, w, L, h, _ => by simpa [World.setCells] using h
  | v :: vs, a, w, L, h, hl => by
    simp only [List.length_cons] at hl
    have := Blk.sets vs (a + 1) _ _ (h.set a v) (by simp; omega)
    rw [over_cons L a v vs (by omega)] at this
    rw [World.setCells]
    simpa using this
structure Kp (F F' : Nat → Prop) (w w' : World) : Prop where
  os : w'.os = w.os
  tape : w'.tape = w.tape
  output : w'.output = w.output
  size : w.heap.size ≤ w'.heap.size
  block : ∀ k, k < w.heap.size → ¬ F k → w'.heap[k]? = w.heap[k]?
  new : ∀ k, F' k → F k ∨ w.heap.size ≤ k
theorem Kp.below {F F' : Nat → Prop} {w w' : World} (h : Kp F F' w w') (B : Nat) (hB : B ≤ w.heap.size) (hF : ∀ k, F k → B ≤ k) : Below B w w' :=
  ⟨h.os, h.tape, h.output, h.size, fun k hk => h.block k (by omega) (fun e => by have := hF k e; omega)⟩
theorem Kp.refl (F : Nat → Prop) (w : World) : Kp F F w w := ⟨rfl, rfl, rfl, Nat.le_refl _, fun _ _ _ => rfl, fun _ h => Or.inl h⟩
theorem Kp.of_grown {F F' : Nat → Prop} {w w' : World} {row : Option Nat} (h : w.grownBy w' row) (hr : ∀ g, row = some g → F g) (hn : ∀ k, F' k → F k ∨ w.heap.size ≤ k) : Kp F F' w w' :=
  ⟨h.os, h.tape, h.output, h.size, fun k hk hF => h.block k hk (by intro e; exact hF (hr k e.symm)), hn⟩
theorem Kp.of_none {F : Nat → Prop} {w w' : World} (h : w.grownBy w' none) : Kp F F w w' := Kp.of_grown h (by simp) (fun _ h => Or.inl h)
theorem Kp.trans {F F' F'' : Nat → Prop} {a b c : World} (h : Kp F F' a b) (k : Kp F' F'' b c) : Kp F F'' a c :=
  ⟨k.os.trans h.os, k.tape.trans h.tape, k.output.trans h.output, Nat.le_trans h.size k.size,
   fun i hi hF => (k.block i (Nat.lt_of_lt_of_le hi h.size) (fun e => by rcases h.new i e with q | q; exact hF q; omega)).trans (h.block i hi hF),
   fun i hi => by
    rcases k.new i hi with q | q
    · exact h.new i q
    · exact Or.inr (Nat.le_trans h.size q)⟩
def put {α : Type} (f : Nat → α) (i : Nat) (l : α) : Nat → α := fun j => if j = i then l else f j
theorem put_same {α : Type} (f : Nat → α) (i : Nat) (l : α) : put f i l i = l := by simp [put]
theorem put_other {α : Type} (f : Nat → α) (i j : Nat) (l : α) (h : j ≠ i) : put f i l j = f j := by simp [put, h]
def tv (l : List Int) : List Value := l.map (Value.int .i64)
theorem tv_len (l : List Int) : (tv l).length = l.length := by simp [tv]
theorem tv_get (l : List Int) (i : Nat) : (tv l)[i]? = l[i]?.map (Value.int .i64) := by simp [tv]
theorem tv_one (l : List Int) : ∀ v ∈ tv l, v.oneCell' = true := by
  intro v hv
  simp only [tv, List.mem_map] at hv
  obtain ⟨i, _, rfl⟩ := hv
  rfl
def ints (l : List Nat) : List Int := l.map (fun x : Nat => (x : Int))
theorem ints_len (l : List Nat) : (ints l).length = l.length := by simp [ints]
theorem ints_get (l : List Nat) (i : Nat) : (ints l)[i]? = l[i]?.map (fun x : Nat => (x : Int)) := by simp [ints]
def Own (w : World) (v : Value) (l : List Int) : Prop := w.ownsRow 0 3 1 v l.length (tv l)
theorem Own.nil (w : World) : Own w (.slice none 0 0) [] := World.ownsRow_nil w 0 3 1
theorem Own.shape {w : World} {v : Value} {l : List Int} (h : Own w v l) : (v = .slice none 0 0 ∧ l = []) ∨ ∃ g cap L, v = .slice (some ⟨g, 0, none⟩) l.length cap ∧ Blk w g 3 L ∧ l.length ≤ cap ∧ cap ≤ maxLen ∧ L.length = cap ∧ L.take l.length = tv l := by
  rcases h.2 with ⟨h1, h2⟩ | ⟨g, cap, cur, h1, h2, h3, h4, h5, h6, h7⟩
  · exact Or.inl ⟨h1, List.eq_nil_of_length_eq_zero h2⟩
  · refine Or.inr ⟨g, cap, cur.toList, h1, ?_, h4, h5, by simpa using h6, by simpa using h7⟩
    unfold Blk
    simpa using h3
theorem Own.of_blk {w : World} {g cap : Nat} {L : List Value} {l : List Int} (h : Blk w g 3 L) (h1 : l.length ≤ cap) (h2 : cap ≤ maxLen) (h3 : L.length = cap) (h4 : L.take l.length = tv l) : Own w (.slice (some ⟨g, 0, none⟩) l.length cap) l :=
  ⟨by simp [tv], Or.inr ⟨g, cap, L.toArray, rfl, Nat.zero_le _, h, h1, h2, by simpa using h3, by simpa using h4⟩⟩
theorem Own.of_eq {w w' : World} {v : Value} {l : List Int} (h : Own w v l) (e : ∀ g, v.ownBlock = some g → w'.heap[g]? = w.heap[g]?) : Own w' v l := by
  refine ⟨h.1, ?_⟩
  rcases h.2 with h1 | ⟨g, cap, cur, h1, h2, h3, h4⟩
  · exact Or.inl h1
  · subst h1
    exact Or.inr ⟨g, cap, cur, rfl, h2, (e g rfl).trans h3, h4⟩
theorem Own.lt {w : World} {v : Value} {l : List Int} (h : Own w v l) : ∀ g, v.ownBlock = some g → g < w.heap.size := by
  intro g hg
  rcases h.shape with ⟨rfl, _⟩ | ⟨g', cap, L, rfl, hb, _⟩
  · cases hg
  · cases hg
    exact hb.lt
theorem Own.len {w : World} {v : Value} {l : List Int} (h : Own w v l) : ∃ a cap, v = .slice a l.length cap := by
  rcases h.shape with ⟨h1, rfl⟩ | ⟨g, cap, L, h1, _⟩
  · exact ⟨none, 0, h1⟩
  · exact ⟨_, _, h1⟩
theorem Own.cell {w : World} {v : Value} {l : List Int} (h : Own w v l) {k : Nat} {t : Int} (hk : l[k]? = some t) : ∃ g cap, v = .slice (some ⟨g, 0, none⟩) l.length cap ∧ w.cell? ⟨g, k, none⟩ = some (.int .i64 t) := by
  obtain ⟨hlt, _⟩ := List.getElem?_eq_some_iff.1 hk
  rcases h.shape with ⟨_, rfl⟩ | ⟨g, cap, L, h1, h2, h3, h4, h5, h6⟩
  · simp at hlt
  · refine ⟨g, cap, h1, ?_⟩
    rw [h2.cell k, ← List.getElem?_take_of_lt hlt, h6, tv_get, hk]
    rfl
structure Rws (w : World) (F : Nat → Prop) (g k : Nat) (M : Nat → List Int) (V : Nat → Value) : Prop where
  lt : ∀ b, F b → b < w.heap.size
  fg : F g
  fv : ∀ i b, i < k → (V i).ownBlock = some b → F b
  row : ∀ i, i < k → w.cell? ⟨g, i, none⟩ = some (V i)
  fz : ∀ i, i < k → w.frozen? ⟨g, i, none⟩ = false
  own : ∀ i, i < k → Own w (V i) (M i)
  vg : ∀ i, i < k → (V i).ownBlock ≠ some g
  inj : ∀ i j b, i < k → j < k → i ≠ j → (V i).ownBlock = some b → (V j).ownBlock ≠ some b
theorem Rws.of_eq {w w' : World} {F : Nat → Prop} {g k : Nat} {M : Nat → List Int} {V : Nat → Value} (h : Rws w F g k M V) (hs : w.heap.size ≤ w'.heap.size) (e : ∀ b, F b → w'.heap[b]? = w.heap[b]?) : Rws w' F g k M V :=
  ⟨fun b hb => Nat.lt_of_lt_of_le (h.lt b hb) hs, h.fg, h.fv, fun i hi => (World.cell?_of_block (w := w) (a := ⟨g, i, none⟩) (e g h.fg)).trans (h.row i hi), fun i hi => (World.frozen?_of_block (w := w) (a := ⟨g, i, none⟩) (e g h.fg)).trans (h.fz i hi),
   fun i hi => (h.own i hi).of_eq (fun b hb => e b (h.fv i b hi hb)), h.vg, h.inj⟩
theorem Rws.congr {w : World} {F : Nat → Prop} {g k : Nat} {M M' : Nat → List Int} {V : Nat → Value} (h : Rws w F g k M V) (e : ∀ i, i < k → M i = M' i) : Rws w F g k M' V :=
  ⟨h.lt, h.fg, h.fv, h.row, h.fz, fun i hi => by rw [← e i hi]; exact h.own i hi, h.vg, h.inj⟩
theorem Rws.sub {w : World} {F F' : Nat → Prop} {g k : Nat} {M : Nat → List Int} {V : Nat → Value} (h : Rws w F g k M V) (e : ∀ b, F b → F' b) (hl : ∀ b, F' b → b < w.heap.size) : Rws w F' g k M V :=
  ⟨hl, e _ h.fg, fun i b hi hb => e b (h.fv i b hi hb), h.row, h.fz, h.own, h.vg, h.inj⟩
theorem Rws.turn {w w1 : World} {F : Nat → Prop} {g k : Nat} {M : Nat → List Int} {V : Nat → Value} (h : Rws w F g k M V) (i : Nat) (hi : i < k) (v' : Value) (l' : List Int)
    (G1 : w.grownBy w1 (V i).ownBlock) (ho : Own w1 v' l') (hv : ∀ b, v'.ownBlock = some b → (V i).ownBlock = some b ∨ w.heap.size ≤ b) :
    Rws (w1.setCell ⟨g, i, none⟩ v') (fun b => F b ∨ (w.heap.size ≤ b ∧ b < w1.heap.size)) g k (put M i l') (put V i v') ∧
    Kp F (fun b => F b ∨ (w.heap.size ≤ b ∧ b < w1.heap.size)) w (w1.setCell ⟨g, i, none⟩ v') := by
  have G2 := grown_setCell' w1 g i v'
  have s1 := G1.size
  have s2 : (w1.setCell ⟨g, i, none⟩ v').heap.size = w1.heap.size := by simp [World.setCell]
  have hglt := h.lt g h.fg
  have hlt : ∀ j b, j < k → (V j).ownBlock = some b → b < w.heap.size := fun j b hj hb => (h.own j hj).lt b hb
  have eg : w1.heap[g]? = w.heap[g]? := G1.block g hglt (fun e => h.vg i hi e.symm)
  have e1 := fun j hj => (World.cell?_of_block (w := w) (a := ⟨g, j, none⟩) eg).trans (h.row j hj)
  have e2 := fun j hj => (World.frozen?_of_block (w := w) (a := ⟨g, j, none⟩) eg).trans (h.fz j hj)
  have bk : ∀ b, b < w.heap.size → b ≠ g → some b ≠ (V i).ownBlock → (w1.setCell ⟨g, i, none⟩ v').heap[b]? = w.heap[b]? := fun b hb h1 h2 => (G2.block b (by omega) (some_ne h1)).trans (G1.block b hb h2)
  have vne : ∀ b, v'.ownBlock = some b → b ≠ g := by
    intro b hb e
    subst e
    rcases hv b hb with q | q
    · exact h.vg i hi q
    · omega
  have pv : ∀ j, j < k → ∀ b, (put V i v' j).ownBlock = some b → (j = i ∧ w.heap.size ≤ b ∧ b < w1.heap.size) ∨ (V j).ownBlock = some b := by
    intro j hj b hb
    by_cases e : j = i
    · subst e
      rw [put_same] at hb
      rcases hv b hb with q | q
      · exact Or.inr q
      · exact Or.inl ⟨rfl, q, ho.lt b hb⟩
    · rw [put_other _ _ _ _ e] at hb
      exact Or.inr hb
  refine ⟨⟨?_, Or.inl h.fg, ?_, ?_, ?_, ?_, ?_, ?_⟩, ⟨G2.os.trans G1.os, G2.tape.trans G1.tape, G2.output.trans G1.output, by omega, ?_, fun b hb => hb.imp id (fun q => q.1)⟩⟩
  · intro b hb
    rcases hb with q | q
    · have := h.lt b q; omega
    · omega
  · intro j b hj hb
    rcases pv j hj b hb with q | q
    · exact Or.inr q.2
    · exact Or.inl (h.fv j b hj q)
  · intro j hj
    by_cases e : j = i
    · subst e
      rw [put_same, World.cell?_setCell_same _ _ _ (e1 j hj)]
    · rw [put_other _ _ _ _ e, World.cell?_setCell_other _ _ _ _ (by intro h; cases h; exact e rfl)]
      exact e1 j hj
  · intro j hj
    rw [World.frozen?_setCell]
    exact e2 j hj
  · intro j hj
    by_cases e : j = i
    · subst e
      rw [put_same, put_same]
      refine ho.of_eq (fun b hb => G2.block b (ho.lt b hb) (some_ne (vne b hb)))
    · rw [put_other _ _ _ _ e, put_other _ _ _ _ e]
      refine (h.own j hj).of_eq (fun b hb => bk b (hlt j b hj hb) (fun q => h.vg j hj (q ▸ hb)) (fun q => h.inj j i b hj hi e hb q.symm))
  · intro j hj q
    by_cases e : j = i
    · subst e
      rw [put_same] at q
      exact vne g q rfl
    · rw [put_other _ _ _ _ e] at q
      exact h.vg j hj q
  · intro j j' b hj hj' hne q q'
    rcases pv j hj b q with ⟨a1, a2, _⟩ | a
    · rcases pv j' hj' b q' with ⟨a3, _⟩ | a3
      · omega
      · have := hlt j' b hj' a3; omega
    · rcases pv j' hj' b q' with ⟨a3, a4, _⟩ | a3
      · have := hlt j b hj a; omega
      · exact h.inj j j' b hj hj' hne a a3
  · intro b hb hF
    exact bk b hb (fun e => hF (e ▸ h.fg)) (fun e => hF (h.fv i b hi e.symm))
def Rv (v : Value) : Option (DataW Value × List MemPlace) := some (.held v, [])
def pv (h : Nat) : Value := .int .i64 h
structure Vw (D : DataW Value) (N : Nat) (m : Nat → Option Nat) : Prop where
  has : ∀ k : Int, Maps.has D (.int .i64 k) = true ↔ ∃ (j : Nat) (h : Nat), k = j ∧ m j = some h
  at' : ∀ (j : Nat) h, m j = some h → ∀ z, D.atKey (.int .i64 j) z = .held (pv h)
  lt : ∀ j h, m j = some h → j < N ∧ h ≤ 6
def Mp (w : World) (b N : Nat) (m : Nat → Option Nat) : Prop := ∃ D, w.ownsMap Tryz.prog 3 Rv b N D ∧ Vw D N m
theorem keyed : Maps.Keyed Tryz.prog 3 := Maps.int_keyed Tryz.underlying3
theorem key_at (j : Nat) (h : j ≤ 4096) : keyOf Tryz.prog 3 (.int .i64 j) = some (.int .i64 j) :=
  Maps.keyOf_int_mk Tryz.underlying3 (by simp [Lit.wf, IntKind.min, IntKind.max, IntKind.bits, IntKind.signed]; omega)
theorem Mp.ok {w : World} {b N : Nat} {m : Nat → Option Nat} (h : Mp w b N m) {j : Nat} {u : Nat} (e : m j = some u) : j < N ∧ u ≤ 6 := by
  obtain ⟨D, ho, hv⟩ := h
  exact hv.lt j u e
theorem mp_new (w : World) (N : Nat) : Mp (w.alloc (.map #[] 0)) w.heap.size N (fun _ => none) :=
  ⟨_, (World.ownsMap_made w Tryz.prog 3 Rv).mono (Nat.zero_le _), ⟨fun k => by simp [Maps.has], fun j h e => by simp at e, fun j h e => by simp at e⟩⟩
def us (N : Nat) (m : Nat → Option Nat) : List Nat := (List.range N).filter fun j => (m j).isSome
def usI (N : Nat) (m : Nat → Option Nat) : List Int := (us N m).map (fun j : Nat => (j : Int))
theorem mem_usI {D : DataW Value} {N : Nat} {m : Nat → Option Nat} (v : Vw D N m) (x : Int) : x ∈ usI N m ↔ Maps.has D (.int .i64 x) = true := by
  rw [v.has x]
  simp only [usI, us, List.mem_map, List.mem_filter, List.mem_range]
  constructor
  · rintro ⟨j, ⟨h1, h2⟩, rfl⟩
    obtain ⟨h, e⟩ := Option.isSome_iff_exists.1 h2
    exact ⟨j, h, rfl, e⟩
  · rintro ⟨j, h, rfl, e⟩
    exact ⟨j, ⟨(v.lt j h e).1, by rw [e]; rfl⟩, rfl⟩
theorem usI_lt (N : Nat) (m : Nat → Option Nat) : (usI N m).Pairwise (· < ·) := by
  unfold usI us
  rw [List.pairwise_map]
  refine List.Pairwise.imp ?_ (List.Pairwise.filter _ (List.pairwise_lt_range))
  intro a b h
  omega
theorem usI_nodup (N : Nat) (m : Nat → Option Nat) : (usI N m).Nodup := (usI_lt N m).imp (fun h => by omega)
theorem us_len (N : Nat) (m : Nat → Option Nat) : (usI N m).length ≤ N := by
  unfold usI us
  rw [List.length_map]
  exact Nat.le_trans (List.length_filter_le _ _) (by simp)
theorem keys_perm {w : World} {b n N : Nat} {D : DataW Value} {m : Nat → Option Nat} (ho : w.ownsMap Tryz.prog 3 Rv b n D) (v : Vw D N m) : (usI N m).Perm (intKeys D) := by
  obtain ⟨es, hD, hpw, _⟩ := ho.entries keyed
  obtain ⟨es', hD', hko⟩ := ho.keysOf
  obtain rfl : es = es' := by rw [hD] at hD'; simpa using hD'
  subst hD
  exact perm_intKeys hpw (fun p hp => by obtain ⟨k, hk⟩ := hko p hp; obtain ⟨x, _, hx, _⟩ := Maps.keyOf_i64 Tryz.underlying3 hk; exact ⟨x, hx⟩) (usI_nodup N m) (mem_usI v)
theorem keys_size {w : World} {b n : Nat} {D : DataW Value} (ho : w.ownsMap Tryz.prog 3 Rv b n D) : (intKeys D).length = Maps.size D := by
  obtain ⟨es, rfl⟩ := ho.isMap
  simp [intKeys, Maps.size]
theorem Mp.mk' {w : World} {b n N : Nat} {D : DataW Value} {m : Nat → Option Nat} (ho : w.ownsMap Tryz.prog 3 Rv b n D) (v : Vw D N m) : Mp w b N m := by
  have h1 := keys_size ho
  have h2 := (keys_perm ho v).length_eq
  have h3 := us_len N m
  have h4 : Maps.size D ≤ N := by omega
  obtain ⟨es, clock, hb, F, hs, hD⟩ := ho
  refine ⟨D, ⟨es, clock, hb, F, ?_, hD⟩, v⟩
  have e : Maps.size D = es.size := by rw [hD]; simp [Maps.size, length_sorted]
  omega
theorem Vw.put {D : DataW Value} {N : Nat} {m : Nat → Option Nat} (v : Vw D N m) (hD : Maps.IsMap D) (j : Nat) (hj : j < N) (h : Nat) (hh : h ≤ 6) : Vw (D.put (.int .i64 j) (.held (pv h))) N (pt m j (some h)) := by
  have hk : WideAt.IsKeyLit (.int .i64 (j : Int)) := by simp [WideAt.IsKeyLit]
  refine ⟨fun k => ?_, fun i u e z => ?_, fun i u e => ?_⟩
  · by_cases hkj : k = j
    · subst hkj
      rw [Maps.has_put_same hD hk]
      simp only [true_iff]
      exact ⟨j, h, rfl, by simp [pt]⟩
    · rw [Maps.has_put_other (by intro e; injection e with _ e2; exact hkj e2), v.has k]
      constructor
      · rintro ⟨i, u, rfl, e⟩
        exact ⟨i, u, rfl, by unfold pt; rw [if_neg (by omega)]; exact e⟩
      · rintro ⟨i, u, rfl, e⟩
        unfold pt at e
        rw [if_neg (by omega)] at e
        exact ⟨i, u, rfl, e⟩
  · unfold pt at e
    by_cases hij : i = j
    · subst hij
      rw [if_pos rfl] at e
      cases e
      exact Maps.atKey_put_same hD hk _ _
    · rw [if_neg hij] at e
      rw [Maps.atKey_put_other (by intro e; injection e with _ e2; omega)]
      exact v.at' i u e z
  · unfold pt at e
    by_cases hij : i = j
    · subst hij
      rw [if_pos rfl] at e
      cases e
      exact ⟨hj, hh⟩
    · rw [if_neg hij] at e
      exact v.lt i u e
theorem Vw.del {D : DataW Value} {N : Nat} {m : Nat → Option Nat} (v : Vw D N m) (j : Nat) : Vw (D.del (.int .i64 j)) N (pt m j none) := by
  refine ⟨fun k => ?_, fun i u e z => ?_, fun i u e => ?_⟩
  · by_cases hkj : k = j
    · subst hkj
      rw [Maps.has_del_same]
      simp only [Bool.false_eq_true, false_iff]
      rintro ⟨i, u, e1, e2⟩
      obtain rfl : j = i := by omega
      simp [pt] at e2
    · rw [Maps.has_del_other (by intro e; injection e with _ e2; exact hkj e2), v.has k]
      constructor
      · rintro ⟨i, u, rfl, e⟩
        exact ⟨i, u, rfl, by unfold pt; rw [if_neg (by omega)]; exact e⟩
      · rintro ⟨i, u, rfl, e⟩
        unfold pt at e
        rw [if_neg (by omega)] at e
        exact ⟨i, u, rfl, e⟩
  · unfold pt at e
    by_cases hij : i = j
    · rw [if_pos hij] at e
      cases e
    · rw [if_neg hij] at e
      rw [Maps.atKey_del_other (by intro e; injection e with _ e2; omega)]
      exact v.at' i u e z
  · unfold pt at e
    by_cases hij : i = j
    · rw [if_pos hij] at e
      cases e
    · rw [if_neg hij] at e
      exact v.lt i u e
theorem Tryz.infoI : (Tryz.prog.info? 3).map (fun i => (i.zero, i.size, i.bytes)) = some (some (.int .i64 0), 1, 8) := by kernel_rfl
theorem Tryz.zeroI : (Tryz.prog.info? 3).map (fun i => (i.zero, i.size)) = some (some (.int .i64 0), 1) := by kernel_rfl
theorem Mp.look_some {w : World} {b N : Nat} {m : Nat → Option Nat} (h : Mp w b N m) (hN : N ≤ 4096) {j u : Nat} (e : m j = some u) :
    (Instr.lookup 69 (.map (some b)) (.int .i64 j) true).run Tryz.prog w = .ok (.tuple #[.int .i64 u, .bool true]) w := by
  obtain ⟨D, ho, v⟩ := h
  have hj := (v.lt j u e).1
  obtain ⟨x, ps, hr, hx⟩ := ho.look_ok keyed Tryz.underlying69 (z := .int .i64 0) ((zero_of_info Tryz.zeroI).1 w) (zd := .held (.int .i64 0)) (zp := []) rfl (key_at j (by omega))
  rw [(v.has j).2 ⟨j, u, rfl, e⟩] at hr
  rw [v.at' j u e] at hx
  simp [Rv, pv] at hx
  rw [hr, hx.1]
theorem Mp.store {w : World} {b N : Nat} {m : Nat → Option Nat} (h : Mp w b N m) (hN : N ≤ 4096) (j : Nat) (hj : j < N) (u : Nat) (hu : u ≤ 6) :
    ∃ w', (Instr.mapUpdate 69 (.map (some b)) (.int .i64 j) (.int .i64 u)).run Tryz.prog w = .ok () w' ∧ Mp w' b N (pt m j (some u)) ∧ w.grownBy w' (some b) := by
  obtain ⟨D, ho, v⟩ := h
  obtain ⟨w', hr, ho', g⟩ := ho.update keyed Tryz.underlying69 (by unfold maxLen; omega) (key_at j (by omega)) (val := pv u) (d := .held (pv u)) (ps := []) rfl
  exact ⟨w', hr, Mp.mk' ho' (v.put ho.isMap j hj u hu), g⟩
theorem Mp.drop {w : World} {b N : Nat} {m : Nat → Option Nat} (h : Mp w b N m) (j : Nat) (hj : j ≤ 4096) (ty : TypeId) :
    ∃ w', (Builtin.delete_ #[69, 3] ty #[.map (some b), .int .i64 j]).run Tryz.prog w = .ok (.tuple #[]) w' ∧ Mp w' b N (pt m j none) ∧ w.grownBy w' (some b) := by
  obtain ⟨D, ho, v⟩ := h
  obtain ⟨w', hr, ho', g⟩ := ho.drop keyed Tryz.underlying69 (key_at j hj) ty
  exact ⟨w', hr, Mp.mk' ho' (v.del j), g.grown⟩
end Go.Proofs.YtkbpnkjjmipjfaaGreat.B
namespace Go.Proofs.YtkbpnkjjmipjfaaGreat.B
open Go.ChangeShapes Go.WideShapes Go.ChangeAt Go.RowKit
set_option linter.unusedVariables false

structure Bp (w : World) (G : Nat → Prop) (p b : Nat) (V : Nat → Value) (L : Nat → List Nat) (tk : Nat → Option Nat) : Prop where
  rws : Rws w (fun k => G k ∧ k ≠ b) p 7 (fun i => ints (L i)) V
  gb : G b
  lt : ∀ k, G k → k < w.heap.size
  cm : w.cell? ⟨p, 7, none⟩ = some (.map (some b))
  mp : Mp w b 4096 tk
def Bu (w : World) (G : Nat → Prop) (p : Nat) (L : Nat → List Nat) (tk : Nat → Option Nat) : Prop := ∃ b V, Bp w G p b V L tk
theorem Bp.gp {w : World} {G : Nat → Prop} {p b : Nat} {V : Nat → Value} {L : Nat → List Nat} {tk : Nat → Option Nat} (h : Bp w G p b V L tk) : G p := h.rws.fg.1
theorem Bp.ne {w : World} {G : Nat → Prop} {p b : Nat} {V : Nat → Value} {L : Nat → List Nat} {tk : Nat → Option Nat} (h : Bp w G p b V L tk) : p ≠ b := h.rws.fg.2
theorem Mp.of_eq {w w' : World} {b N : Nat} {m : Nat → Option Nat} (h : Mp w b N m) (e : w'.heap[b]? = w.heap[b]?) (hs : w.heap.size ≤ w'.heap.size) : Mp w' b N m := by
  obtain ⟨D, ho, hv⟩ := h
  obtain ⟨es, clock, hb, F, hs', hD⟩ := ho
  exact ⟨D, ⟨es, clock, e.trans hb, F, hs', hD⟩, hv⟩
theorem Bp.of_eq {w w' : World} {G : Nat → Prop} {p b : Nat} {V : Nat → Value} {L : Nat → List Nat} {tk : Nat → Option Nat} (h : Bp w G p b V L tk) (hs : w.heap.size ≤ w'.heap.size) (e : ∀ k, G k → w'.heap[k]? = w.heap[k]?) : Bp w' G p b V L tk :=
  ⟨h.rws.of_eq hs (fun k hk => e k hk.1), h.gb, fun k hk => Nat.lt_of_lt_of_le (h.lt k hk) hs, (World.cell?_of_block (w := w) (a := ⟨p, 7, none⟩) (e p h.gp)).trans h.cm, h.mp.of_eq (e b h.gb) hs⟩
theorem Bu.of_eq {w w' : World} {G : Nat → Prop} {p : Nat} {L : Nat → List Nat} {tk : Nat → Option Nat} (h : Bu w G p L tk) (hs : w.heap.size ≤ w'.heap.size) (e : ∀ k, G k → w'.heap[k]? = w.heap[k]?) : Bu w' G p L tk := by
  obtain ⟨b, V, h⟩ := h
  exact ⟨b, V, h.of_eq hs e⟩
theorem Bu.lt {w : World} {G : Nat → Prop} {p : Nat} {L : Nat → List Nat} {tk : Nat → Option Nat} (h : Bu w G p L tk) : ∀ k, G k → k < w.heap.size := by
  obtain ⟨b, V, h⟩ := h
  exact h.lt
theorem Bu.below {w w' : World} {G : Nat → Prop} {p : Nat} {L : Nat → List Nat} {tk : Nat → Option Nat} (h : Bu w G p L tk) (k : Below w.heap.size w w') : Bu w' G p L tk :=
  h.of_eq k.size (fun i hi => k.block i (h.lt i hi))
theorem Bu.congr {w : World} {G : Nat → Prop} {p : Nat} {L L' : Nat → List Nat} {tk : Nat → Option Nat} (h : Bu w G p L tk) (e : ∀ i, i < 7 → L i = L' i) : Bu w G p L' tk := by
  obtain ⟨b, V, h⟩ := h
  exact ⟨b, V, h.rws.congr (fun i hi => by rw [e i hi]), h.gb, h.lt, h.cm, h.mp⟩
theorem Bp.turn {w w1 : World} {G : Nat → Prop} {p b : Nat} {V : Nat → Value} {L : Nat → List Nat} {tk : Nat → Option Nat} (h : Bp w G p b V L tk) (i : Nat) (hi : i < 7) (v' : Value) (l' : List Nat)
    (G1 : w.grownBy w1 (V i).ownBlock) (ho : Own w1 v' (ints l')) (hv : ∀ c, v'.ownBlock = some c → (V i).ownBlock = some c ∨ w.heap.size ≤ c) :
    ∃ G', Bu (w1.setCell ⟨p, i, none⟩ v') G' p (put L i l') tk ∧ Kp G G' w (w1.setCell ⟨p, i, none⟩ v') := by
  obtain ⟨R, K⟩ := h.rws.turn i hi v' (ints l') G1 ho hv
  have s1 := G1.size
  have s2 : (w1.setCell ⟨p, i, none⟩ v').heap.size = w1.heap.size := by simp [World.setCell]
  have hbl := h.lt b h.gb
  have hpl := h.lt p h.gp
  have eb : (w1.setCell ⟨p, i, none⟩ v').heap[b]? = w.heap[b]? := K.block b hbl (fun q => q.2 rfl)
  have ep : w1.heap[p]? = w.heap[p]? := G1.block p hpl (fun e => h.rws.vg i hi e.symm)
  refine ⟨fun c => G c ∨ (w.heap.size ≤ c ∧ c < w1.heap.size), ⟨b, put V i v', ?_, Or.inl h.gb, ?_, ?_, h.mp.of_eq eb (by omega)⟩, ⟨K.os, K.tape, K.output, K.size, fun c hc hG => K.block c hc (fun q => hG q.1), fun c hc => hc.imp id (fun q => q.1)⟩⟩
  · have e : (fun j => ints (put L i l' j)) = put (fun j => ints (L j)) i (ints l') := by
      funext j
      unfold put
      split <;> rfl
    rw [e]
    refine R.sub (fun c hc => ?_) (fun c hc => ?_)
    · rcases hc with q | q
      · exact ⟨Or.inl q.1, q.2⟩
      · exact ⟨Or.inr q, by omega⟩
    · rcases hc.1 with q | q
      · have := h.lt c q; omega
      · omega
  · intro c hc
    rcases hc with q | q
    · have := h.lt c q; omega
    · omega
  · rw [World.cell?_setCell_other _ _ _ _ (by intro q; cases q; omega)]
    exact (World.cell?_of_block (w := w) (a := ⟨p, 7, none⟩) ep).trans h.cm
theorem Bp.mapped {w w' : World} {G : Nat → Prop} {p b : Nat} {V : Nat → Value} {L : Nat → List Nat} {tk tk' : Nat → Option Nat} (h : Bp w G p b V L tk) (g : w.grownBy w' (some b)) (hm : Mp w' b 4096 tk') : Bp w' G p b V L tk' ∧ Kp G G w w' :=
  ⟨⟨h.rws.of_eq g.size (fun k hk => g.block k (h.lt k hk.1) (some_ne hk.2)), h.gb, fun k hk => Nat.lt_of_lt_of_le (h.lt k hk) g.size, (g.cell_far ⟨p, 7, none⟩ (h.lt p h.gp) (some_ne h.ne)).trans h.cm, hm⟩, Kp.of_grown g (fun c e => by cases e; exact h.gb) (fun _ q => Or.inl q)⟩
theorem Own.holds {w : World} {g cap : Nat} {l : List Int} (h : Own w (.slice (some ⟨g, 0, none⟩) l.length cap) l) : Go.Sort.Holds (Value.int .i64) w g 0 l.toArray := by
  obtain ⟨g', cap', e, _, _, _, _, _, hH⟩ := Go.Lib.holds_of_ownsRow (enc := Value.int .i64) h (by simp)
  cases e
  exact hH
theorem del_call {w : World} {g cap : Nat} {l : List Int} (h : Own w (.slice (some ⟨g, 0, none⟩) l.length cap) l) (hc : l.length ≤ cap) (hm : cap ≤ maxLen) (i : Nat) (hi : i < l.length) :
    Calls Tryz.prog 81 #[.slice (some ⟨g, 0, none⟩) l.length cap, .int .i64 i, .int .i64 (i + 1 : Nat)] w fun e w' => e = .returned (.slice (some ⟨g, 0, none⟩) (l.length - (i + 1 - i)) cap) ∧ ∃ q, w' = Go.Sort.putRow (Value.int .i64) (Go.Sort.ahead w q) g 0 (l.take i ++ l.drop (i + 1) ++ List.replicate (i + 1 - i) 0).toArray := by
  have C := Any.slices_Delete_int delA g 0 cap i (i + 1) l w h.holds hc (by unfold maxLen at hm; omega) (by omega) (by omega)
  rw [show delA_ren.f 23 = 81 from rfl] at C
  exact C
theorem Delete_ok {w : World} {g cap : Nat} {l : List Int} (h : Own w (.slice (some ⟨g, 0, none⟩) l.length cap) l) (hc : l.length ≤ cap) (hm : cap ≤ maxLen) (i : Nat) (hi : i < l.length) :
    Calls Tryz.prog 81 #[.slice (some ⟨g, 0, none⟩) l.length cap, .int .i64 i, .int .i64 ((i : Int) + 1)] w fun e w' => e = .returned (.slice (some ⟨g, 0, none⟩) (l.length - 1) cap) ∧ w.grownBy w' (some g) ∧ Own w' (.slice (some ⟨g, 0, none⟩) (l.length - 1) cap) (l.take i ++ l.drop (i + 1)) := by
  have C := del_call h hc hm i hi
  rw [show ((i + 1 : Nat) : Int) = (i : Int) + 1 by omega] at C
  refine C.mono ?_
  rintro e w' ⟨rfl, q, rfl⟩
  have hl : (l.take i ++ l.drop (i + 1)).length = l.length - 1 := by simp; omega
  have hs : i + 1 - i = 1 := by omega
  refine ⟨by rw [hs], ⟨rfl, rfl, rfl, by simp [Go.Sort.ahead], fun k hk hne => ?_⟩, ?_⟩
  · have : g ≠ k := fun e => hne (by rw [e])
    simp [Go.Sort.putRow, Go.Sort.mapBlock, Go.Sort.ahead, Array.getElem?_modify, this]
  · have := Go.Lib.ownsRow_putRow (enc := Value.int .i64) (q := q) (k := l.length - 1) (ys := l.take i ++ l.drop (i + 1) ++ List.replicate (i + 1 - i) 0) h (by simp; omega) (by omega)
    have e : (l.take i ++ l.drop (i + 1) ++ List.replicate (i + 1 - i) 0).take (l.length - 1) = l.take i ++ l.drop (i + 1) := by rw [← hl]; exact List.take_left
    rw [e] at this
    unfold Own
    rw [hl]
    exact this
theorem Search_ok {w : World} {v : Value} {l : List Int} (h : Own w v l) (hs : l.Pairwise (· ≤ ·)) (hb : l.length ≤ 5000) (x : Int) :
    Calls Tryz.prog 217 #[v, .int .i64 x] w fun e w' => e = .returned (.tuple #[.int .i64 (l.countP (· < x) : Nat), .bool (l.contains x)]) ∧ w.grownBy w' none := by
  rcases h.shape with ⟨rfl, rfl⟩ | ⟨g, cap, Lv, rfl, hB, h1, h2, h3, h4⟩
  · have C := Any.slices_BinarySearch_int_empty binA none 0 x w
    rw [show binA_ren.f 25 = 217 from rfl] at C
    refine C.mono ?_
    rintro e w' ⟨rfl, rfl⟩
    exact ⟨rfl, World.grownBy.refl _ _⟩
  · have C := Any.slices_BinarySearch_int binA g 0 l.length cap l x w (Nat.le_refl _) (by omega) (fun j hj => by
      have := (h.holds j (by simpa using hj)).1
      simpa [List.getD_eq_getElem?_getD, hj] using this) (by rw [List.take_length]; exact hs)
    rw [show binA_ren.f 25 = 217 from rfl, List.take_length] at C
    refine C.mono ?_
    rintro e w' ⟨rfl, q, rfl⟩
    exact ⟨rfl, grown_drewN _ _ _⟩
theorem Clone_ok {w : World} {v : Value} {l : List Int} (h : Own w v l) (hb : l.length ≤ 5000) :
    Calls Tryz.prog 44 #[v] w fun e w' => ∃ v', e = .returned v' ∧ Own w' v' l ∧ w.grownBy w' none ∧ ∀ c, v'.ownBlock = some c → w.heap.size ≤ c := by
  rcases h.shape with ⟨rfl, rfl⟩ | ⟨g, cap, Lv, rfl, hB, h1, h2, h3, h4⟩
  · have C := Any.slices_Clone_int_nil cloA 0 0 w
    rw [show cloA_ren.f 15 = 44 from rfl] at C
    refine C.mono ?_
    rintro e w' ⟨rfl, rfl⟩
    exact ⟨_, rfl, Own.nil _, World.grownBy.refl _ _, by intro c hc; cases hc⟩
  · have C := Any.slices_Clone_int cloA g 0 l.length cap l w (Nat.le_refl _) (by omega) (fun j hj => by
      have := (h.holds j (by simpa using hj)).1
      simpa [List.getD_eq_getElem?_getD, hj] using this)
    rw [show cloA_ren.f 15 = 44 from rfl, show cloA_ren.t 3 = 3 from rfl, List.take_length] at C
    refine C.mono ?_
    rintro e w' ⟨v', rfl, ho, hn, hb'⟩
    refine ⟨v', rfl, ?_, below_grow hb', ?_⟩
    · rcases ho with ⟨q1, q2 | ⟨g', cap', cur, q2, q3, q4⟩⟩
      · exact ⟨q1, Or.inl q2⟩
      · exact ⟨q1, Or.inr ⟨g', cap', cur, q2, Nat.zero_le _, q4⟩⟩
    · intro c hc
      rcases ho.2 with ⟨q, _⟩ | ⟨g', cap', cur, q2, q3, q4⟩
      · rw [q] at hc; cases hc
      · rw [q2] at hc
        cases hc
        exact q3
def Insd (w : World) (v : Value) (l' : List Int) (e : Ending) (w' : World) : Prop := ∃ v', e = .returned v' ∧ Own w' v' l' ∧ w.grownBy w' v.ownBlock ∧ ∀ c, v'.ownBlock = some c → v.ownBlock = some c ∨ w.heap.size ≤ c
theorem zeros_list (m : Nat) : (Builtin.zeroCells (Value.int .i64 0).cells m) = (List.replicate m (Value.int .i64 0)).toArray := by
  apply Array.toList_inj.1
  have e : ∀ i, ([Value.int .i64 0][i % 1]?.getD default) = Value.int .i64 0 := fun i => by rw [Nat.mod_one]; rfl
  simp [Builtin.zeroCells, Value.cells, e]
  rw [List.eq_replicate_iff]
  simp
theorem shiftL (A D T P : List Value) (x : Value) (i n : Nat) (hA : A.length = i + 1) (hP : A.take i = P) (hD : D.length + i = n) : ((A ++ D ++ T).take i ++ [x] ++ (A ++ D ++ T).drop (i + 1)).take (n + 1) = P ++ x :: D := by
  have hPl : P.length = i := by rw [← hP]; simp; omega
  have e1 : (A ++ D ++ T).take i = P := by rw [List.append_assoc, List.take_append_of_le_length (by omega), hP]
  have e2 : (A ++ D ++ T).drop (i + 1) = D ++ T := by rw [List.append_assoc, ← hA, List.drop_left]
  rw [e1, e2, ← List.append_assoc, List.take_append_of_le_length (by simp; omega), List.take_of_length_le (by simp; omega)]
  simp
theorem growL (R D P : List Value) (x : Value) (i n : Nat) (hP : R.take i = P) (hi : i < R.length) (hD : D.length + i = n) : ((R.take i ++ [x] ++ R.drop (i + 1)).take (i + 1) ++ D ++ (R.take i ++ [x] ++ R.drop (i + 1)).drop (i + 1 + D.length)).take (n + 1) = P ++ x :: D := by
  have hPl : P.length = i := by rw [← hP]; simp; omega
  have e1 : (R.take i ++ [x] ++ R.drop (i + 1)).take (i + 1) = P ++ [x] := by rw [List.take_append_of_le_length (by simp; omega), List.take_of_length_le (by simp; omega), hP]
  rw [e1, List.take_append_of_le_length (by simp; omega), List.take_of_length_le (by simp; omega)]
  simp
theorem ins_nil {w : World} (x : Int) (vb : Nat) (hv : Blk w vb 3 [.int .i64 x]) :
    Calls Tryz.prog 218 #[.slice none 0 0, .int .i64 0, .slice (some ⟨vb, 0, none⟩) 1 1] w fun e w' => Insd w (.slice none 0 0) [x] e w' := by
  have hvs : ∀ j u, [Value.int .i64 x][j]? = some u → w.cell? ⟨vb, 0 + j, none⟩ = some u := fun j u hj => by rw [Nat.zero_add, hv.cell j]; exact hj
  have h1v : ∀ u ∈ [Value.int .i64 x], u.oneCell' = true := by intro u hu; simp at hu; subst hu; rfl
  have C := Any2.slices_Insert_int_end_grow insA none 0 0 vb 0 1 1 [] [.int .i64 x] w (by omega) (by omega) (by omega) (by omega) rfl rfl (fun _ => rfl) (by intro a e; cases e) hvs h1v
  rw [show insA_ren.f 21 = 218 from rfl, show insA_ren.t 3 = 3 from rfl] at C
  refine C.mono ?_
  rintro e w' ⟨rfl, rfl⟩
  have hge := grownCap_ge w (0 + 1) 0 3
  have hle := grownCap_le_maxLen w (0 + 1) 0 3 (by unfold maxLen; omega)
  refine ⟨_, rfl, ?_, (grown_drew w _).trans (World.grownBy_alloc _ _ _), fun c hc => by cases hc; exact Or.inr (Nat.le_refl _)⟩
  rw [zeros_list, List.append_toArray]
  generalize grownCap w (0 + 1) 0 3 = X at *
  have hblk := blk_new w.drew ([] ++ [Value.int .i64 x] ++ List.replicate (X - (0 + 1)) (Value.int .i64 0)) 3
  exact Own.of_blk (l := [x]) (cap := X) (g := w.drew.heap.size) hblk (by simpa using hge) hle (by simp; omega) (by simp [tv])
theorem ins_room {w : World} {g cap : Nat} {Lv : List Value} {l : List Int} (hB : Blk w g 3 Lv) (h2 : cap ≤ maxLen) (h3 : Lv.length = cap) (h4 : Lv.take l.length = tv l) (hr : l.length + 1 ≤ cap) (i : Nat) (hil : i < l.length) (x : Int) (vb : Nat) (hv : Blk w vb 3 [.int .i64 x]) (hgv : vb ≠ g) :
    Calls Tryz.prog 218 #[.slice (some ⟨g, 0, none⟩) l.length cap, .int .i64 i, .slice (some ⟨vb, 0, none⟩) 1 1] w fun e w' => Insd w (.slice (some ⟨g, 0, none⟩) l.length cap) (l.take i ++ x :: l.drop i) e w' := by
  have hvs : ∀ j u, [Value.int .i64 x][j]? = some u → w.cell? ⟨vb, 0 + j, none⟩ = some u := fun j u hj => by rw [Nat.zero_add, hv.cell j]; exact hj
  have h1v : ∀ u ∈ [Value.int .i64 x], u.oneCell' = true := by intro u hu; simp at hu; subst hu; rfl
  have hll : (l.take i ++ x :: l.drop i).length = l.length + 1 := by simp; omega
  have htv : tv (l.take i ++ x :: l.drop i) = (tv l).take i ++ Value.int .i64 x :: (tv l).drop i := by simp [tv, List.map_take, List.map_drop]
  have hcs : ∀ j u, (tv l)[j]? = some u → w.cell? ⟨g, 0 + j, none⟩ = some u := fun j u hj => by
    have hjl : j < l.length := by have := (List.getElem?_eq_some_iff.1 hj).1; rwa [tv_len] at this
    rw [Nat.zero_add, hB.cell j, ← List.getElem?_take_of_lt hjl, h4]
    exact hj
  have C := Any2.slices_Insert_int_shift insA g 0 l.length cap i vb 0 1 1 (tv l) [.int .i64 x] w hil (by omega) hr (by unfold maxLen at h2; omega) hgv (tv_len l) rfl hcs (fun j hj => by rw [Nat.zero_add, hB.cell j, List.getElem?_eq_getElem (by omega)]; rfl) (fun j hj => by rw [Nat.zero_add]; exact hB.frozen j) hvs (tv_one l) h1v 3 3 1 Lv.length (by unfold Blk at hv; simp [World.shape?, hv]) (by unfold Blk at hB; simp [World.shape?, hB]) (by omega) (hv.frozen 0) (hv.frozen 1)
  rw [show insA_ren.f 21 = 218 from rfl] at C
  refine C.mono ?_
  rintro e w' ⟨rfl, rfl⟩
  have hBd : Blk w.drew g 3 Lv := hB
  have hdl : ((tv l).drop i).length = l.length - i := by rw [List.length_drop, tv_len]
  rw [Nat.zero_add, Nat.zero_add]
  have B1 := Blk.sets ((tv l).drop i) (i + 1) w.drew Lv hBd (by omega)
  have B2 := Blk.sets [Value.int .i64 x] i _ _ B1 (by simp; omega)
  refine ⟨_, rfl, ?_, ((grown_drew w _).trans (grown_setCells _ _ _ _)).trans (grown_setCells _ _ _ _), fun c hc => Or.inl hc⟩
  rw [← hll]
  refine Own.of_blk B2 (by omega) h2 ?_ ?_
  · simp only [List.length_append, List.length_take, List.length_drop, tv_len, List.length_singleton]
    omega
  · rw [hll, htv]
    exact shiftL (Lv.take (i + 1)) ((tv l).drop i) _ _ _ i l.length (by simp; omega) (by rw [List.take_take, Nat.min_eq_left (by omega), ← h4, List.take_take, Nat.min_eq_left (by omega)]) (by omega)
theorem ins_end {w : World} {g cap : Nat} {Lv : List Value} {l : List Int} (hB : Blk w g 3 Lv) (h2 : cap ≤ maxLen) (h3 : Lv.length = cap) (h4 : Lv.take l.length = tv l) (hr : l.length + 1 ≤ cap) (x : Int) (vb : Nat) (hv : Blk w vb 3 [.int .i64 x]) :
    Calls Tryz.prog 218 #[.slice (some ⟨g, 0, none⟩) l.length cap, .int .i64 l.length, .slice (some ⟨vb, 0, none⟩) 1 1] w fun e w' => Insd w (.slice (some ⟨g, 0, none⟩) l.length cap) (l ++ [x]) e w' := by
  have hvs : ∀ j u, [Value.int .i64 x][j]? = some u → w.cell? ⟨vb, 0 + j, none⟩ = some u := fun j u hj => by rw [Nat.zero_add, hv.cell j]; exact hj
  have h1v : ∀ u ∈ [Value.int .i64 x], u.oneCell' = true := by intro u hu; simp at hu; subst hu; rfl
  have hll : (l ++ [x]).length = l.length + 1 := by simp
  have C := Any2.slices_Insert_int_end_room insA g 0 l.length cap vb 0 1 1 [.int .i64 x] w (by omega) hr (by unfold maxLen at h2; omega) rfl (fun j hj => by rw [hB.cell, List.getElem?_eq_getElem (by omega)]; rfl) (fun j hj => hB.frozen _) hvs h1v
  rw [show insA_ren.f 21 = 218 from rfl] at C
  refine C.mono ?_
  rintro e w' ⟨rfl, rfl⟩
  rw [Nat.zero_add]
  have B2 := Blk.sets [Value.int .i64 x] l.length _ _ hB (by simp; omega)
  refine ⟨_, rfl, ?_, grown_setCells _ _ _ _, fun c hc => Or.inl hc⟩
  rw [← hll]
  refine Own.of_blk B2 (by omega) h2 (by simp; omega) ?_
  rw [hll, h4, List.take_append_of_le_length (by simp [tv_len]), List.take_of_length_le (by simp [tv_len])]
  simp [tv]
theorem ins_grow {w : World} {g cap : Nat} {Lv : List Value} {l : List Int} (hB : Blk w g 3 Lv) (h1 : l.length ≤ cap) (h4 : Lv.take l.length = tv l) (hb : l.length ≤ 5000) (hr : ¬ l.length + 1 ≤ cap) (i : Nat) (hil : i < l.length) (x : Int) (vb : Nat) (hv : Blk w vb 3 [.int .i64 x]) :
    Calls Tryz.prog 218 #[.slice (some ⟨g, 0, none⟩) l.length cap, .int .i64 i, .slice (some ⟨vb, 0, none⟩) 1 1] w fun e w' => Insd w (.slice (some ⟨g, 0, none⟩) l.length cap) (l.take i ++ x :: l.drop i) e w' := by
  have hvs : ∀ j u, [Value.int .i64 x][j]? = some u → w.cell? ⟨vb, 0 + j, none⟩ = some u := fun j u hj => by rw [Nat.zero_add, hv.cell j]; exact hj
  have h1v : ∀ u ∈ [Value.int .i64 x], u.oneCell' = true := by intro u hu; simp at hu; subst hu; rfl
  have hll : (l.take i ++ x :: l.drop i).length = l.length + 1 := by simp; omega
  have htv : tv (l.take i ++ x :: l.drop i) = (tv l).take i ++ Value.int .i64 x :: (tv l).drop i := by simp [tv, List.map_take, List.map_drop]
  have hm5 : (l.length + 1) ≤ maxLen := by unfold maxLen; omega
  have hcs : ∀ j u, (tv l)[j]? = some u → w.cell? ⟨g, 0 + j, none⟩ = some u := fun j u hj => by
    have hjl : j < l.length := by have := (List.getElem?_eq_some_iff.1 hj).1; rwa [tv_len] at this
    rw [Nat.zero_add, hB.cell j, ← List.getElem?_take_of_lt hjl, h4]
    exact hj
  have C := Any2.slices_Insert_int_grow insA g 0 l.length cap i vb 0 1 1 (tv l) [.int .i64 x] w hil (by omega) h1 (by omega) (by omega) (tv_len l) rfl hcs hvs (tv_one l) h1v
  rw [show insA_ren.f 21 = 218 from rfl, show insA_ren.t 3 = 3 from rfl] at C
  refine C.mono ?_
  rintro e w' ⟨rfl, rfl⟩
  have hge := grownCap_ge w (l.length + 1) cap 3
  have hle := grownCap_le_maxLen w (l.length + 1) cap 3 hm5
  rw [zeros_list, zeros_list]
  simp only [List.append_toArray]
  generalize grownCap w (l.length + 1) cap 3 = X at *
  have B0 : Blk (w.alloc (.cells ((tv l).take i ++ List.replicate (l.length + 1 - i) (Value.int .i64 0) ++ List.replicate (X - (l.length + 1)) (Value.int .i64 0)).toArray 3)).drew w.heap.size 3 ((tv l).take i ++ List.replicate (l.length + 1 - i) (Value.int .i64 0) ++ List.replicate (X - (l.length + 1)) (Value.int .i64 0)) := blk_new _ _ _
  have hlen : ((tv l).take i ++ List.replicate (l.length + 1 - i) (Value.int .i64 0) ++ List.replicate (X - (l.length + 1)) (Value.int .i64 0)).length = X := by simp [tv_len]; omega
  have htk : ((tv l).take i ++ List.replicate (l.length + 1 - i) (Value.int .i64 0) ++ List.replicate (X - (l.length + 1)) (Value.int .i64 0)).take i = (tv l).take i := by
    rw [List.append_assoc, List.take_append_of_le_length (by simp [tv_len]; omega), List.take_take, Nat.min_self]
  generalize (tv l).take i ++ List.replicate (l.length + 1 - i) (Value.int .i64 0) ++ List.replicate (X - (l.length + 1)) (Value.int .i64 0) = R0 at *
  have hdl : ((tv l).drop i).length = l.length - i := by rw [List.length_drop, tv_len]
  have B1 := Blk.sets [Value.int .i64 x] i _ R0 B0 (by simp; omega)
  have B2 := Blk.sets ((tv l).drop i) (i + 1) (((w.alloc (.cells R0.toArray 3)).drew.setCells w.heap.size i [Value.int .i64 x]).drew) _ B1 (by simp [tv_len]; omega)
  have c : w.grownBy (w.alloc (.cells R0.toArray 3)).drew (some g) := (World.grownBy_alloc _ _ _).trans (grown_drew _ _)
  have a := grown_setCells w.heap.size [Value.int .i64 x] i (w.alloc (.cells R0.toArray 3)).drew
  have b := grown_setCells w.heap.size ((tv l).drop i) (i + 1) (((w.alloc (.cells R0.toArray 3)).drew.setCells w.heap.size i [Value.int .i64 x]).drew)
  refine ⟨_, rfl, ?_, ⟨(b.os.trans a.os).trans c.os, (b.tape.trans a.tape).trans c.tape, (b.output.trans a.output).trans c.output, Nat.le_trans c.size (Nat.le_trans a.size b.size), fun k hk hkr => ?_⟩, fun d hd => by cases hd; exact Or.inr (Nat.le_refl _)⟩
  · rw [← hll]
    refine Own.of_blk B2 (by omega) hle ?_ ?_
    · simp [tv_len]
      omega
    · rw [hll, htv]
      exact growL R0 ((tv l).drop i) _ _ i l.length htk (by omega) (by omega)
  · have hk1 : k < (w.alloc (.cells R0.toArray 3)).drew.heap.size := Nat.lt_of_lt_of_le hk c.size
    exact ((b.block k (Nat.lt_of_lt_of_le hk1 a.size) (some_ne (by omega))).trans (a.block k hk1 (some_ne (by omega)))).trans (c.block k hk hkr)
theorem ins_egrow {w : World} {g cap : Nat} {Lv : List Value} {l : List Int} (hB : Blk w g 3 Lv) (h1 : l.length ≤ cap) (h4 : Lv.take l.length = tv l) (hb : l.length ≤ 5000) (hr : ¬ l.length + 1 ≤ cap) (x : Int) (vb : Nat) (hv : Blk w vb 3 [.int .i64 x]) :
    Calls Tryz.prog 218 #[.slice (some ⟨g, 0, none⟩) l.length cap, .int .i64 l.length, .slice (some ⟨vb, 0, none⟩) 1 1] w fun e w' => Insd w (.slice (some ⟨g, 0, none⟩) l.length cap) (l ++ [x]) e w' := by
  have hvs : ∀ j u, [Value.int .i64 x][j]? = some u → w.cell? ⟨vb, 0 + j, none⟩ = some u := fun j u hj => by rw [Nat.zero_add, hv.cell j]; exact hj
  have h1v : ∀ u ∈ [Value.int .i64 x], u.oneCell' = true := by intro u hu; simp at hu; subst hu; rfl
  have hll : (l ++ [x]).length = l.length + 1 := by simp
  have hm5 : (l.length + 1) ≤ maxLen := by unfold maxLen; omega
  have hcs : ∀ j u, (tv l)[j]? = some u → w.cell? ⟨g, 0 + j, none⟩ = some u := fun j u hj => by
    have hjl : j < l.length := by have := (List.getElem?_eq_some_iff.1 hj).1; rwa [tv_len] at this
    rw [Nat.zero_add, hB.cell j, ← List.getElem?_take_of_lt hjl, h4]
    exact hj
  have C := Any2.slices_Insert_int_end_grow insA (some ⟨g, 0, none⟩) l.length cap vb 0 1 1 (tv l) [.int .i64 x] w (by omega) h1 (by omega) (by omega) (tv_len l) rfl (by intro e; cases e) (by intro a e; cases e; intro j u hj; rw [Go.WideShapes.add_plain]; exact hcs j u hj) hvs h1v
  rw [show insA_ren.f 21 = 218 from rfl, show insA_ren.t 3 = 3 from rfl] at C
  refine C.mono ?_
  rintro e w' ⟨rfl, rfl⟩
  have hge := grownCap_ge w (l.length + 1) cap 3
  have hle := grownCap_le_maxLen w (l.length + 1) cap 3 hm5
  refine ⟨_, rfl, ?_, (grown_drew w _).trans (World.grownBy_alloc _ _ _), fun c hc => by cases hc; exact Or.inr (Nat.le_refl _)⟩
  rw [zeros_list, List.append_toArray]
  have hblk := blk_new w.drew (tv l ++ [Value.int .i64 x] ++ List.replicate (grownCap w (l.length + 1) cap 3 - (l.length + 1)) (Value.int .i64 0)) 3
  generalize grownCap w (l.length + 1) cap 3 = X at *
  have ho := Own.of_blk (l := l ++ [x]) (cap := X) (g := w.drew.heap.size) hblk (by omega) hle (by simp [tv_len]; omega) (by
    rw [hll, List.take_append_of_le_length (by simp [tv_len]), List.take_of_length_le (by simp [tv_len])]
    simp [tv])
  rw [hll] at ho
  exact ho
theorem Insert_ok {w : World} {v : Value} {l : List Int} (h : Own w v l) (hb : l.length ≤ 5000) (i : Nat) (hi : i ≤ l.length) (x : Int) (vb : Nat) (hv : Blk w vb 3 [.int .i64 x]) (hne : v.ownBlock ≠ some vb) :
    Calls Tryz.prog 218 #[v, .int .i64 i, .slice (some ⟨vb, 0, none⟩) 1 1] w fun e w' => Insd w v (l.take i ++ x :: l.drop i) e w' := by
  rcases h.shape with ⟨rfl, rfl⟩ | ⟨g, cap, Lv, rfl, hB, h1, h2, h3, h4⟩
  · obtain rfl : i = 0 := by simpa using hi
    exact ins_nil x vb hv
  · have hgv : vb ≠ g := fun e => hne (by rw [e]; rfl)
    by_cases hil : i < l.length
    · by_cases hr : l.length + 1 ≤ cap
      · exact ins_room hB h2 h3 h4 hr i hil x vb hv hgv
      · exact ins_grow hB h1 h4 hb hr i hil x vb hv
    · obtain rfl : i = l.length := by omega
      rw [List.take_length, List.drop_length]
      by_cases hr : l.length + 1 ≤ cap
      · exact ins_end hB h2 h3 h4 hr x vb hv
      · exact ins_egrow hB h1 h4 hb hr x vb hv
end Go.Proofs.YtkbpnkjjmipjfaaGreat.B
namespace Go.Proofs.YtkbpnkjjmipjfaaGreat.B
open Go.ChangeShapes Go.WideShapes Go.ChangeAt Go.RowKit
set_option linter.unusedVariables false
set_option maxRecDepth 8192

theorem map_nil (r : Option Nat) : ∀ w : World, (binOp .neq 69 (.map r) (.map none)).run Tryz.prog w = .ok (.bool r.isSome) w := fun w => by rw [run_neq_map_nil w _ _ _ r Tryz.underlying69]; cases r <;> rfl
theorem made_any {w : World} {G : Nat → Prop} {p : Nat} {L : Nat → List Nat} {tk : Nat → Option Nat} (h : Bu w G p L tk) : Calls Tryz.prog 172 #[.pointer (some ⟨p, 0, none⟩)] w fun e w' => e = .returned (.bool true) ∧ w' = w := by
  obtain ⟨b, V, h⟩ := h
  have hc := h.cm
  have hq := map_nil (some b)
  clear h
  go_enter Tryz.func172, Tryz.ntmps172
  go_wp2
  go_ret
  exact ⟨rfl, rfl⟩
theorem new_bu (w : World) : Bu ((w.alloc (.map #[] 0)).alloc (.cells #[.slice none 0 0, .slice none 0 0, .slice none 0 0, .slice none 0 0, .slice none 0 0, .slice none 0 0, .slice none 0 0, .map (some w.heap.size)] 193)) (fun k => k = w.heap.size ∨ k = w.heap.size + 1) (w.heap.size + 1) (fun _ => []) (fun _ => none) := by
  have hp := blk_new (w.alloc (.map #[] 0)) [.slice none 0 0, .slice none 0 0, .slice none 0 0, .slice none 0 0, .slice none 0 0, .slice none 0 0, .slice none 0 0, .map (some w.heap.size)] 193
  have hs : (w.alloc (.map #[] 0)).heap.size = w.heap.size + 1 := by simp
  rw [hs] at hp
  refine ⟨w.heap.size, fun _ => .slice none 0 0, ⟨?_, ?_, ?_, ?_, ?_, ?_, ?_, ?_⟩, Or.inl rfl, ?_, hp.cell 7, ?_⟩
  · rintro k ⟨rfl | rfl, h2⟩
    · exact absurd rfl h2
    · exact hp.lt
  · exact ⟨Or.inr rfl, by omega⟩
  · intro i b hi hb
    cases hb
  · intro i hi
    rw [hp.cell i]
    rcases six (show i ≤ 6 by omega) with rfl | rfl | rfl | rfl | rfl | rfl | rfl <;> rfl
  · intro i hi
    exact hp.frozen i
  · intro i hi
    exact Own.nil _
  · intro i hi h
    cases h
  · intro i j b hi hj hne h
    cases h
  · rintro k (rfl | rfl)
    · have := hp.lt; omega
    · exact hp.lt
  · exact (mp_new w 4096).of_eq (by rw [Below.heap_alloc _ _ _ (by simp)]) (by simp)
theorem Bp.grow {w w1 : World} {G : Nat → Prop} {p b : Nat} {V : Nat → Value} {L : Nat → List Nat} {tk : Nat → Option Nat} (h : Bp w G p b V L tk) (i : Nat) (hi : i < 7) (x : Nat) (g cap : Nat)
    (G1 : w.grownBy w1 (V i).ownBlock) (ho : w1.ownsRow 0 3 1 (.slice (some ⟨g, 0, none⟩) ((L i).length + 1) cap) ((L i).length + 1) (tv (ints (L i)) ++ [.int .i64 x])) (hv : (V i).ownBlock = some g ∨ w.heap.size ≤ g) :
    ∃ G', Bu (w1.setCell ⟨p, i, none⟩ (.slice (some ⟨g, 0, none⟩) ((L i).length + 1) cap)) G' p (put L i (L i ++ [x])) tk ∧ Kp G G' w (w1.setCell ⟨p, i, none⟩ (.slice (some ⟨g, 0, none⟩) ((L i).length + 1) cap)) := by
  refine h.turn i hi _ _ G1 ?_ (fun c hc => by cases hc; exact hv)
  unfold Own
  have e1 : (ints (L i ++ [x])).length = (L i).length + 1 := by simp [ints]
  have e2 : tv (ints (L i ++ [x])) = tv (ints (L i)) ++ [.int .i64 x] := by simp [ints, tv]
  rw [e1, e2]
  exact ho
def Nst (w wr : World) (n j a : Nat) (m : Nat) : Prop := ∃ G, Bu wr G (w.heap.size + 1) (fun i => if i = j then row (base n j) j m else if j < i then nwL n i else []) (fun _ => none) ∧ Kp (fun _ => False) G w wr ∧ a = base n j + m * 2 ^ j ∧ a ≤ n
theorem base_m {n j m : Nat} (hj : j ≤ 6) (h1 : base n j + m * 2 ^ j ≤ n) (h2 : n < base n j + m * 2 ^ j + 2 ^ j) : m = (n - base n j) / 2 ^ j := by
  rcases six hj with rfl | rfl | rfl | rfl | rfl | rfl | rfl <;> simp only [base, Nat.reducePow, Nat.reduceAdd, Nat.reduceEqDiff, if_true, if_false] at * <;> omega
theorem base_dn {n j m : Nat} (hj : j + 1 ≤ 6) (h1 : base n (j + 1) + m * 2 ^ (j + 1) ≤ n) (h2 : n < base n (j + 1) + m * 2 ^ (j + 1) + 2 ^ (j + 1)) : base n j = base n (j + 1) + m * 2 ^ (j + 1) := by
  rcases six (show j ≤ 6 by omega) with rfl | rfl | rfl | rfl | rfl | rfl | rfl <;> simp only [base, Nat.reducePow, Nat.reduceAdd, Nat.reduceEqDiff, if_true, if_false] at * <;> omega
theorem shl_wrap (j : Nat) (hj : j ≤ 6) : IntKind.i64.wrap ((2 : Int) ^ j) = ((2 ^ j : Nat) : Int) := by
  rcases six hj with rfl | rfl | rfl | rfl | rfl | rfl | rfl <;> rfl
theorem pow_le (j : Nat) (hj : j ≤ 6) : 1 ≤ 2 ^ j ∧ 2 ^ j ≤ 64 := by
  rcases six hj with rfl | rfl | rfl | rfl | rfl | rfl | rfl <;> decide
set_option maxHeartbeats 1000000 in
theorem New_ok (n : Nat) (hn : n ≤ 4096) (w : World) : Calls Tryz.prog 47 #[.int .i64 n] w fun e w' => ∃ G p, e = .returned (.tuple #[.pointer (some ⟨p, 0, none⟩), .int .i64 0]) ∧ Bu w' G p (nwL n) (fun _ => none) ∧ Kp (fun _ => False) G w w' := by
  have hmm := @run_makeMap Tryz.prog
  have HB : Hid (Bu ((w.alloc (.map #[] 0)).alloc (.cells #[.slice none 0 0, .slice none 0 0, .slice none 0 0, .slice none 0 0, .slice none 0 0, .slice none 0 0, .slice none 0 0, .map (some w.heap.size)] 193)) (fun k => k = w.heap.size ∨ k = w.heap.size + 1) (w.heap.size + 1) (fun _ => []) (fun _ => none)) := new_bu w
  have HG : Hid (w.grownBy ((w.alloc (.map #[] 0)).alloc (.cells #[.slice none 0 0, .slice none 0 0, .slice none 0 0, .slice none 0 0, .slice none 0 0, .slice none 0 0, .slice none 0 0, .map (some w.heap.size)] 193)) none) := (World.grownBy_alloc _ _ none).trans (World.grownBy_alloc _ _ none)
  go_enter Tryz.func47, Tryz.ntmps47
  go_wp2
  go_loopw [5, 6] (fun a o wr => (∃ j : Nat, j ≤ 6 ∧ o = .int .i64 j ∧ a = .int .i64 (base n j : Nat) ∧ Nst w wr n j (base n j) 0) ∨ (o = .int .i64 (-1) ∧ ∃ G, Bu wr G (w.heap.size + 1) (nwL n) (fun _ => none) ∧ Kp (fun _ => False) G w wr)) (fun _ o _ => (iv o + 1).toNat)
  case atStart =>
    left
    refine ⟨6, by omega, rfl, rfl, fun k => k = w.heap.size ∨ k = w.heap.size + 1, ?_, Kp.of_grown HG.out (by simp) (fun k hk => Or.inr (by omega)), by simp, by simp [base]⟩
    refine HB.out.congr (fun i hi => ?_)
    by_cases e : i = 6
    · rw [if_pos e]
      rfl
    · rw [if_neg e, if_neg (by omega)]
  case round =>
    rcases hrel with ⟨j, hj, rfl, rfl, hN⟩ | ⟨rfl, hN⟩
    · have HN : Hid (Nst w wr n j (base n j) 0) := hN
      have hbn : base n j ≤ n := by obtain ⟨_, _, _, _, h⟩ := hN; exact h
      clear hN HB HG
      have hsh := shl_wrap j hj
      have hpl := pow_le j hj
      obtain ⟨S, hS⟩ : ∃ S, 2 ^ j = S := ⟨_, rfl⟩
      have HS : Hid (2 ^ j = S) := hS
      clear hS
      rw [HS.out] at hsh hpl
      generalize hb0 : base n j = b0 at *
      go_wp2
      go_loopw [5] (fun a wq => ∃ m : Nat, a = .int .i64 (b0 + m * S : Nat) ∧ Nst w wq n j (b0 + m * S) m) (fun a _ => n - (iv a).toNat)
      case atStart =>
        refine ⟨0, by simp, ?_⟩
        have := HN.out
        simpa using this
      case round =>
        obtain ⟨m, rfl, hN⟩ := hrel
        obtain ⟨G, hB, hK, he, hle⟩ := hN
        have HK : Hid (Kp (fun _ => False) G w wr) := hK
        have HE : Hid (b0 + m * S = base n j + m * 2 ^ j) := he
        clear he hK
        by_cases hc : b0 + m * S + S ≤ n
        · generalize hga : b0 + m * S = a at *
          have HA : Hid (b0 + m * S = a) := hga
          clear hga
          have hcI : (a : Int) + (S : Int) ≤ (n : Int) := by omega
          obtain ⟨b, V, hP⟩ := hB
          have HP : Hid (Bp wr G (w.heap.size + 1) b V (fun i => if i = j then row (base n j) j m else if j < i then nwL n i else []) (fun _ => none)) := hP
          have hr := hP.rws.row j (by omega)
          have hf := hP.rws.fz j (by omega)
          have ho := hP.rws.own j (by omega)
          obtain ⟨g0, c0, hv⟩ := ho.len
          rw [hv] at hr ho
          have HV : Hid (V j = _) := hv
          have HO : Hid (Own wr _ _) := ho
          clear hP hv ho
          rw [if_pos rfl] at hr HV HO
          have hk : (ints (row (base n j) j m)).length = m := by simp [ints, row]
          rw [hk] at hr HV HO
          clear hk
          have hpw : w.heap.size + 1 < wr.heap.size := HP.out.lt _ HP.out.gp
          obtain ⟨i0, hi0, hz0, hz1, hz2⟩ := info_parts Tryz.infoI
          have HOW : Hid (∀ W, Below wr.heap.size wr W → W.ownsRow 0 3 1 (.slice g0 m c0) m (tv (ints (row (base n j) j m)))) := fun W hW => by
            have := HO.out.of_eq (w' := W) (fun g hg => hW.block g (HO.out.lt g hg))
            unfold Own at this
            rwa [show (ints (row (base n j) j m)).length = m by simp [ints, row]] at this
          have HB1 : Hid (Below wr.heap.size wr (wr.alloc (.cells #[.int .i64 a] 3)).drew) := ((Below.refl _ wr).alloc (Nat.le_refl _) _).drew
          have HN1 : Hid (∀ k u, [Value.int .i64 (a : Int)][k]? = some u → (wr.alloc (.cells #[.int .i64 a] 3)).drew.cell? ((⟨wr.heap.size, 0, none⟩ : Addr).add k) = some u) := fun k u hk => by
            rw [Go.WideShapes.add_plain, Nat.zero_add]
            exact ((blk_new wr [.int .i64 a] 3).cell k).trans hk
          have HT : Hid (∀ v ∈ [Value.int .i64 (a : Int)], v.oneCell' = true) := by
            intro v hv
            simp at hv
            subst hv
            rfl
          have HC : Hid (∀ w1, wr.grownBy w1 (Value.slice g0 m c0).ownBlock → w1.cell? ⟨w.heap.size + 1, j, none⟩ = some (.slice g0 m c0)) := fun w1 G => by
            have := HP.out.rws.vg j (by omega)
            rw [HV.out] at this
            exact (G.cell_far ⟨w.heap.size + 1, j, none⟩ hpw (fun e => this e.symm)).trans hr
          have HZ : Hid (∀ w1, wr.grownBy w1 (Value.slice g0 m c0).ownBlock → w1.frozen? ⟨w.heap.size + 1, j, none⟩ = false) := fun w1 G => by
            have := HP.out.rws.vg j (by omega)
            rw [HV.out] at this
            exact (G.frozen_far ⟨w.heap.size + 1, j, none⟩ hpw (fun e => this e.symm)).trans hf
          have hr2 : (wr.alloc (.cells #[.int .i64 a] 3)).cell? ⟨w.heap.size + 1, j, none⟩ = some (.slice g0 m c0) := (((Below.refl _ wr).alloc (Nat.le_refl _) _).cell (p := ⟨w.heap.size + 1, j, none⟩) hpw).trans hr
          have hm : m ≤ 4096 := by
            have := Nat.le_mul_of_pos_right m hpl.1
            have := HA.out
            omega
          have hj0 : (0 : Int) ≤ (j : Int) := by omega
          have hj7 : (j : Int) < 7 := by omega
          have hj7n : j < 7 := by omega
          go_wp2
          go_region_law (first | (refine step_append_lies _ rfl (.tmp 33) (.tmp 35) 25 rfl 0 3 i0 _ 1 8 Tryz.underlying25 hi0 hz0 hz1 hz2 rfl (by decide) (.slice g0 m c0) m (tv (ints (row (base n j) j m))) rfl (HOW.out _ HB1.out) ⟨wr.heap.size, 0, none⟩ 1 1 [.int .i64 a] rfl rfl HN1.out HT.out (by omega) (by unfold maxLen; omega) (by omega) (Nat.zero_le _) (wr.heap.size + 1) (by simp) ?_; intro g1 k1 w1 o1 gr1 at1 lt1; have G1 : Hid (wr.grownBy w1 (Value.slice g0 m c0).ownBlock) := ((World.grownBy_alloc wr _ _).trans (grown_drew _ _)).trans gr1; have r1 := HC.out w1 G1.out; have r2 := HZ.out w1 G1.out))
          all_goals (
            have HS1 : Hid (Nst w (w1.setCell ⟨w.heap.size + 1, j, none⟩ (.slice (some ⟨g1, 0, none⟩) (m + 1) k1)) n j (b0 + (m + 1) * S) (m + 1)) := by
              have hlr : (row (base n j) j m).length = m := by simp [row]
              have hx : a = base n j + m * 2 ^ j := by have := HE.out; have := HA.out; omega
              have hpos := HS.out
              obtain ⟨G', hB', hK'⟩ := HP.out.grow j (by omega) a g1 k1 (w1 := w1) (by rw [HV.out]; exact G1.out) (by
                rw [if_pos rfl, hlr]
                exact o1) (by
                rw [HV.out]
                rcases at1 with q | q
                · exact Or.inl q
                · exact Or.inr (by omega))
              rw [if_pos rfl, hlr] at hB' hK'
              refine ⟨G', hB'.congr (fun i hi => ?_), HK.out.trans hK', ?_, ?_⟩
              · unfold put
                by_cases e : i = j
                · subst e
                  rw [if_pos rfl, if_pos rfl, row_succ, ← hx]
                · simp only [e, if_false]
              · rw [hpos, hb0]
              · have := HA.out
                rw [Nat.add_mul]
                omega
            have hsum : b0 + (m + 1) * S = a + S := by have := HA.out; rw [Nat.add_mul]; omega
            have HSM : Hid (b0 + (m + 1) * S = a + S) := hsum
            clear hsum o1 gr1 at1 lt1 G1 r1 r2 hr hr2 hf HOW HB1 HN1 HT HC HZ HP HV HO HK HE
            generalize w1.setCell ⟨w.heap.size + 1, j, none⟩ (.slice (some ⟨g1, 0, none⟩) (m + 1) k1) = w2 at *
            go_wp2
            go_roundw
            case rel => exact ⟨m + 1, by rw [HSM.out]; go_num, HS1.out⟩
            case measure => simp [iv]; omega)
        · have hcI : (n : Int) < ((b0 + m * S : Nat) : Int) + (S : Int) := by omega
          have HB : Hid (Bu wr G (w.heap.size + 1) (fun i => if i = j then row (base n j) j m else if j < i then nwL n i else []) (fun _ => none)) := hB
          clear hB
          generalize hga : b0 + m * S = a at *
          have HA : Hid (b0 + m * S = a) := hga
          clear hga
          have HX : Hid (m = (n - base n j) / 2 ^ j ∧ (j = 0 ∨ ∃ i, i + 1 = j ∧ base n i = a)) := by
            have h1 : base n j + m * 2 ^ j ≤ n := by have := HE.out; omega
            have h2 : n < base n j + m * 2 ^ j + 2 ^ j := by have := HE.out; have := HS.out; omega
            refine ⟨base_m hj h1 h2, ?_⟩
            cases j with
            | zero => exact Or.inl rfl
            | succ i => exact Or.inr ⟨i, rfl, (base_dn hj h1 h2).trans HE.out.symm⟩
          have HR : Hid (∀ i, i < 7 → (if i = j then row (base n j) j m else if j < i then nwL n i else []) = if j ≤ i then nwL n i else []) := fun i hi => by
            by_cases e : i = j
            · subst e
              rw [if_pos rfl, if_pos (Nat.le_refl _)]
              unfold nwL
              rw [← HX.out.1]
            · rw [if_neg e]
              by_cases e2 : j < i
              · rw [if_pos e2, if_pos (by omega)]
              · rw [if_neg e2, if_neg (by omega)]
          go_wp2
          go_roundw
          case rel =>
            rcases HX.out.2 with rfl | ⟨i, rfl, hi⟩
            · right
              refine ⟨by simp, G, HB.out.congr (fun k hk => ?_), HK.out⟩
              rw [HR.out k hk, if_pos (Nat.zero_le _)]
            · left
              refine ⟨i, by omega, by go_num, by rw [hi], G, HB.out.congr (fun k hk => ?_), HK.out, by simp, by rw [hi]; exact hle⟩
              rw [HR.out k hk]
              by_cases e : k = i
              · subst e
                rw [if_neg (by omega), if_pos rfl]
                rfl
              · rw [if_neg e]
                by_cases e2 : i < k
                · rw [if_pos (by omega), if_pos e2]
                · rw [if_neg (by omega), if_neg e2]
          case measure => simp [iv]
    · have HN : Hid (∃ G, Bu wr G (w.heap.size + 1) (nwL n) (fun _ => none) ∧ Kp (fun _ => False) G w wr) := hN
      clear hN HB HG
      go_wp2
      go_ret2
      obtain ⟨G, h1, h2⟩ := HN.out
      exact ⟨G, w.heap.size + 1, rfl, h1, h2⟩
end Go.Proofs.YtkbpnkjjmipjfaaGreat.B
