/- What a TLB holds, as a list of translations, and what each call makes of it; what it is for a world to hold rows of translations; no condition. -/
import Derived.Test.YtkbpnkjjmipjfaaGreatRows
import Derived.WalkKit
import Derived.ProofKit
import Derived.OpenShut
import Derived.WalkSpells
import Derived.WalkLawsBesides
import Derived.Laws.IdiomCopy
import Derived.Lib.SliceRun
import Derived.Deep.AppendLies
import Derived.Deep.WholeRow
import Derived.Deep.RegionHeld3
import Derived.Deep.RegionHeldLaw
namespace Go.Proofs.YtkbpnkjjmipjfaaGreat.T
open Go.ChangeShapes Go.WideShapes Go.ChangeAt Go.RowKit
set_option linter.unusedVariables false
set_option maxRecDepth 8192

theorem own : ownKnob Tryz.prog.godebug = none := by kernel_rfl
structure Tr where
  a : Int
  p : Int
  f : Int
  r : Bool
  w : Bool
  d : Bool
def tc (x : Tr) : List Value := [.int .i64 x.a, .int .i64 x.p, .int .i64 x.f, .bool x.r, .bool x.w, .bool x.d]
def tv (l : List Tr) : List Value := l.flatMap tc
def hk (a p : Int) (x : Tr) : Bool := x.a == a && x.p == p
def Uq (l : List Tr) : Prop := l.Pairwise (fun x y => hk x.a x.p y = false)
structure Ix (a p : Int) (l : List Tr) (k : Nat) (x : Tr) : Prop where
  at' : l[k]? = some x
  is : hk a p x = true
  ahead : ∀ j y, j < k → l[j]? = some y → hk a p y = false
def Blk (w : World) (g : Nat) (ty : TypeId) (L : List Value) : Prop := w.heap[g]? = some (.cells L.toArray ty (0, 0))
theorem Blk.lt {w : World} {g : Nat} {ty : TypeId} {L : List Value} (h : Blk w g ty L) : g < w.heap.size := (Array.getElem?_eq_some_iff.1 h).1
theorem Blk.cell {w : World} {g : Nat} {ty : TypeId} {L : List Value} (h : Blk w g ty L) (i : Nat) : w.cell? ⟨g, i, none⟩ = L[i]? := by
  rw [cell_of_row w g i _ ty (0, 0) h]; simp
theorem Blk.frozen {w : World} {g : Nat} {ty : TypeId} {L : List Value} (h : Blk w g ty L) (i : Nat) : w.frozen? ⟨g, i, none⟩ = false := by
  unfold Blk at h
  simp [World.frozen?, h]
theorem blk_new (w : World) (L : List Value) (ty : TypeId) : Blk (w.alloc (.cells L.toArray ty)) w.heap.size ty L := heap_alloc_last w _
end Go.Proofs.YtkbpnkjjmipjfaaGreat.T
namespace Go.Proofs.YtkbpnkjjmipjfaaGreat.T
open Go.ChangeShapes Go.WideShapes Go.ChangeAt Go.RowKit
set_option linter.unusedVariables false
set_option maxRecDepth 8192

def Own (B : Nat) (w : World) (v : Value) (l : List Tr) : Prop := w.ownsRow B 326 6 v l.length (tv l)
theorem Own.nil (B : Nat) (w : World) : Own B w (.slice none 0 0) [] := World.ownsRow_nil w B 326 6
theorem Own.of_eq {B : Nat} {w w' : World} {v : Value} {l : List Tr} (h : Own B w v l) (e : ∀ g, v.ownBlock = some g → w'.heap[g]? = w.heap[g]?) : Own B w' v l := by
  refine ⟨h.1, ?_⟩
  rcases h.2 with h1 | ⟨g, cap, cur, h1, h2, h3, h4⟩
  · exact Or.inl h1
  · subst h1
    exact Or.inr ⟨g, cap, cur, rfl, h2, (e g rfl).trans h3, h4⟩
structure Six (w : World) (g o : Nat) (x : Tr) : Prop where
  c0 : w.cell? ⟨g, o, none⟩ = some (.int .i64 x.a)
  c1 : w.cell? ⟨g, o + 1, none⟩ = some (.int .i64 x.p)
  c2 : w.cell? ⟨g, o + 2, none⟩ = some (.int .i64 x.f)
  c3 : w.cell? ⟨g, o + 3, none⟩ = some (.bool x.r)
  c4 : w.cell? ⟨g, o + 4, none⟩ = some (.bool x.w)
  c5 : w.cell? ⟨g, o + 5, none⟩ = some (.bool x.d)
structure Kp (F F' : Nat → Prop) (w w' : World) : Prop where
  os : w'.os = w.os
  tape : w'.tape = w.tape
  output : w'.output = w.output
  size : w.heap.size ≤ w'.heap.size
  block : ∀ k, k < w.heap.size → ¬ F k → w'.heap[k]? = w.heap[k]?
  new : ∀ k, F' k → F k ∨ w.heap.size ≤ k
theorem Kp.of_grown {F F' : Nat → Prop} {w w' : World} {row : Option Nat} (h : w.grownBy w' row) (hr : ∀ g, row = some g → F g) (hn : ∀ k, F' k → F k ∨ w.heap.size ≤ k) : Kp F F' w w' :=
  ⟨h.os, h.tape, h.output, h.size, fun k hk hF => h.block k hk (by intro e; exact hF (hr k e.symm)), hn⟩
structure Tb (w : World) (p n : Nat) (v : Value) (l : List Tr) : Prop where
  lt : p < w.heap.size
  c0 : w.cell? ⟨p, 0, none⟩ = some (.int .i64 n)
  c1 : w.cell? ⟨p, 1, none⟩ = some v
  z1 : w.frozen? ⟨p, 1, none⟩ = false
  own : Own 0 w v l
  vp : v.ownBlock ≠ some p
  len : l.length ≤ n
  uq : Uq l
  n1 : 1 ≤ n
  n64 : n ≤ 64
theorem Tb.of_eq {w w' : World} {p n : Nat} {v : Value} {l : List Tr} (h : Tb w p n v l) (hs : w.heap.size ≤ w'.heap.size) (ep : w'.heap[p]? = w.heap[p]?) (eV : ∀ g, v.ownBlock = some g → w'.heap[g]? = w.heap[g]?) : Tb w' p n v l :=
  ⟨Nat.lt_of_lt_of_le h.lt hs, (World.cell?_of_block (w := w) (a := ⟨p, 0, none⟩) ep).trans h.c0, (World.cell?_of_block (w := w) (a := ⟨p, 1, none⟩) ep).trans h.c1, (World.frozen?_of_block (w := w) (a := ⟨p, 1, none⟩) ep).trans h.z1,
   h.own.of_eq eV, h.vp, h.len, h.uq, h.n1, h.n64⟩
structure Pt (w : World) (F : Nat → Prop) (p n : Nat) (v : Value) (l : List Tr) : Prop where
  lt : ∀ k, F k → k < w.heap.size
  c : Tb w p n v l
  fp : F p
  fv : ∀ g, v.ownBlock = some g → F g
def Ca (w : World) (F : Nat → Prop) (p n : Nat) (l : List Tr) : Prop := ∃ v, Pt w F p n v l
theorem Ca.lt {w : World} {F : Nat → Prop} {p n : Nat} {l : List Tr} (h : Ca w F p n l) : ∀ k, F k → k < w.heap.size := by
  obtain ⟨v, h⟩ := h
  exact h.lt
theorem Ca.of_eq {w w' : World} {F : Nat → Prop} {p n : Nat} {l : List Tr} (h : Ca w F p n l) (hs : w.heap.size ≤ w'.heap.size) (e : ∀ k, F k → w'.heap[k]? = w.heap[k]?) : Ca w' F p n l := by
  obtain ⟨v, h1, hC, hp, hV⟩ := h
  exact ⟨v, fun k hk => Nat.lt_of_lt_of_le (h1 k hk) hs, hC.of_eq hs (e p hp) (fun g hg => e g (hV g hg)), hp, hV⟩
end Go.Proofs.YtkbpnkjjmipjfaaGreat.T
namespace Go.Proofs.YtkbpnkjjmipjfaaGreat.T
open Go.ChangeShapes Go.WideShapes Go.ChangeAt Go.RowKit
set_option linter.unusedVariables false
set_option maxRecDepth 8192

theorem new_tlb {w w' : World} {n : Nat} {ty : TypeId} (h1 : 1 ≤ n) (hn : n ≤ 64) (e : w' = w.alloc (.cells #[.int .i64 n, .slice none 0 0] ty)) :
    ∃ F, Ca w' F w.heap.size n [] ∧ Kp (fun _ => False) F w w' := by
  have hp : Blk w' w.heap.size ty [.int .i64 n, .slice none 0 0] := by
    rw [e]
    exact blk_new w _ ty
  have G : w.grownBy w' none := by
    rw [e]
    exact World.grownBy_alloc _ _ none
  refine ⟨fun k => k = w.heap.size, ⟨.slice none 0 0, fun k hk => by subst hk; exact hp.lt, ⟨hp.lt, hp.cell 0, hp.cell 1, hp.frozen 1, Own.nil 0 w', fun h => (by cases h), by simp, List.Pairwise.nil, h1, hn⟩, rfl, fun g hg => by cases hg⟩, Kp.of_grown G (by simp) (fun k hk => Or.inr (by omega))⟩
theorem New_ok (n : Nat) (h1 : 1 ≤ n) (hn : n ≤ 64) (w : World) :
    Calls Tryz.prog 39 #[.int .i64 n] w fun e w' => ∃ p F, e = .returned (.tuple #[.pointer (some ⟨p, 0, none⟩), .int .i64 0]) ∧ Ca w' F p n [] ∧ Kp (fun _ => False) F w w' := by
  have HN : Hid (∀ w', w' = w.alloc (.cells #[.int .i64 n, .slice none 0 0] 180) → ∃ F, Ca w' F w.heap.size n [] ∧ Kp (fun _ => False) F w w') := fun w' e => new_tlb h1 hn e
  go_enter Tryz.func39, Tryz.ntmps39
  go_wp2
  go_ret2
  obtain ⟨F, hF⟩ := HN.out _ rfl
  exact ⟨w.heap.size, F, by simp, hF⟩
end Go.Proofs.YtkbpnkjjmipjfaaGreat.T
namespace Go.Proofs.YtkbpnkjjmipjfaaGreat.T
open Go.ChangeShapes Go.WideShapes Go.ChangeAt Go.RowKit
set_option linter.unusedVariables false
set_option maxRecDepth 8192
set_option linter.unusedSimpArgs false

end Go.Proofs.YtkbpnkjjmipjfaaGreat.T
namespace Go.Proofs.YtkbpnkjjmipjfaaGreat.T
open Go.ChangeShapes Go.WideShapes Go.ChangeAt Go.RowKit
set_option linter.unusedVariables false
set_option maxRecDepth 8192

end Go.Proofs.YtkbpnkjjmipjfaaGreat.T
