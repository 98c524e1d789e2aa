/- Bytes that are read and written, lists that came in, and the statements' small functions kind and EqBytes; no condition but the ranges that each theorem names. -/
import Derived.Test.YtkbpnkjjmipjfaaGreatRows
import Derived.WalkKit
import Derived.ProofKit
import Derived.OpenShut
import Derived.WalkSpells
import Derived.WalkLawsBesides
import Derived.Laws.BitsAllLaws
import Derived.Laws.IdiomCopy
import Derived.Lib.SliceRun
import Derived.Deep.AppendLies
import Derived.Deep.WholeRow
import Derived.Deep.QuietTactic
import Derived.BigQuiet
import Derived.Maps.OwnSet
import Derived.Lib.SlKeysI
import Derived.Deep.RegionHeld3
import Derived.Deep.MidRow
namespace Go.Proofs.YtkbpnkjjmipjfaaGreat.D
open Go.ChangeShapes Go.WideShapes Go.ChangeAt Go.RowKit
set_option linter.unusedVariables false
set_option maxRecDepth 8192

def iv : Value → Int
  | .int _ a => a
  | _ => 0
def Blk (w : World) (g : Nat) (ty : TypeId) (L : List Value) : Prop := w.heap[g]? = some (.cells L.toArray ty (0, 0))
theorem Blk.lt {w : World} {g : Nat} {ty : TypeId} {L : List Value} (h : Blk w g ty L) : g < w.heap.size := (Array.getElem?_eq_some_iff.1 h).1
theorem Blk.of_eq {w w' : World} {g : Nat} {ty : TypeId} {L : List Value} (h : Blk w g ty L) (e : w'.heap[g]? = w.heap[g]?) : Blk w' g ty L := by unfold Blk at *; rw [e, h]
theorem blk_new (w : World) (L : List Value) (ty : TypeId) : Blk (w.alloc (.cells L.toArray ty)) w.heap.size ty L := heap_alloc_last w _
def okB (n : Nat) (f : Nat → Int) : Prop := ∀ i, i < n → 0 ≤ f i ∧ f i < 256
def vals (m : Nat) (h : Nat → Int) : List Value := (List.range m).map fun i => .int .u8 (h i)
end Go.Proofs.YtkbpnkjjmipjfaaGreat.D
namespace Go.Proofs.YtkbpnkjjmipjfaaGreat.D
open Go.ChangeShapes Go.WideShapes Go.ChangeAt Go.RowKit
set_option linter.unusedVariables false
set_option maxRecDepth 8192

def Rv (v : Value) : Option (DataW Value × List MemPlace) := some (.held v, [])
def pv (h : Nat → Int) : Value := .agg (vals 256 h).toArray
structure Vw (D : DataW Value) (N : Nat) (m : Nat → Option (Nat → Int)) : Prop where
  has : ∀ k : Int, Maps.has D (.int .i64 k) = true ↔ ∃ (j : Nat) (h : Nat → Int), k = j ∧ m j = some h
  at' : ∀ (j : Nat) h, m j = some h → ∀ z, D.atKey (.int .i64 j) z = .held (pv h)
  lt : ∀ j h, m j = some h → j < N ∧ okB 256 h
def Mp (w : World) (b N : Nat) (m : Nat → Option (Nat → Int)) : Prop := ∃ D, w.ownsMap Tryz.prog 3 Rv b N D ∧ Vw D N m
theorem Mp.lt {w : World} {b N : Nat} {m : Nat → Option (Nat → Int)} (h : Mp w b N m) : b < w.heap.size := by
  obtain ⟨D, ho, _⟩ := h
  exact ho.lt
theorem Mp.kept {w w' : World} {b N : Nat} {m : Nat → Option (Nat → Int)} {row : Option Nat} (h : Mp w b N m) (g : w.grownBy w' row) (hne : some b ≠ row) : Mp w' b N m := by
  obtain ⟨D, ho, hv⟩ := h
  exact ⟨D, ho.kept g hne, hv⟩
theorem mp_new (w : World) (N : Nat) : Mp (w.alloc (.map #[] 0)) w.heap.size N (fun _ => none) :=
  ⟨_, (World.ownsMap_made w Tryz.prog 3 Rv).mono (Nat.zero_le _), ⟨fun k => by simp [Maps.has], fun j h e => by simp at e, fun j h e => by simp at e⟩⟩
end Go.Proofs.YtkbpnkjjmipjfaaGreat.D
namespace Go.Proofs.YtkbpnkjjmipjfaaGreat.D
open Go.ChangeShapes Go.WideShapes Go.ChangeAt Go.RowKit
set_option linter.unusedVariables false
set_option maxRecDepth 8192

structure Dk (w : World) (p b N : Nat) (m : Nat → Option (Nat → Int)) : Prop where
  st : Blk w p 183 [.int .i64 N, .map (some b)]
  mp : Mp w b N m
  ne : p ≠ b
  n : N ≤ 1024
theorem New_ok (n : Nat) (h : n ≤ 1024) (w : World) : Calls Tryz.prog 40 #[.int .i64 n] w fun e w' => ∃ p b, e = .returned (.tuple #[.pointer (some ⟨p, 0, none⟩), .int .i64 0]) ∧ Dk w' p b n (fun _ => none) ∧ w.grownBy w' none ∧ w.heap.size ≤ p ∧ w.heap.size ≤ b := by
  have hmm := @run_makeMap Tryz.prog
  go_enter Tryz.func40, Tryz.ntmps40
  go_wp2
  go_ret2
  refine ⟨w.heap.size + 1, w.heap.size, by simp, ⟨?_, (mp_new w n).kept (World.grownBy_alloc _ _ none) (by simp), by omega, h⟩, (World.grownBy_alloc _ _ none).trans (World.grownBy_alloc _ _ none), by omega, by omega⟩
  have := blk_new (w.alloc (.map #[] 0)) [.int .i64 n, .map (some w.heap.size)] 183
  simpa using this
end Go.Proofs.YtkbpnkjjmipjfaaGreat.D
