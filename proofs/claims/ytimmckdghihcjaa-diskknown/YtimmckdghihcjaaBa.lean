/- Bytes that are read and written, lists that came in, and the statements' small functions kind and EqBytes; no condition but the ranges that each theorem names. -/
import Derived.Test.YtimmckdghihcjaaRows
import Derived.WalkKit
import Derived.ProofKit
import Derived.OpenShut
import Derived.WalkSpells
import Derived.WalkLawsBesides
import Derived.Laws.BitsAllLaws
import Derived.Laws.IdiomCopy
import Derived.Lib.SliceRun
import Derived.Deep.AppendLies
import Derived.Deep.WholeRow
import Derived.Deep.QuietTactic
import Derived.BigQuiet
import Derived.Maps.OwnSet
namespace Go.Proofs.Ytimmckdghihcjaa
open Go.ChangeShapes Go.WideShapes Go.ChangeAt Go.RowKit
set_option linter.unusedVariables false

theorem own : ownKnob Try.prog.godebug = none := by kernel_rfl
theorem ret_int {k : IntKind} {a b : Int} (h : a = b) : Ending.returned (.int k a) = .returned (.int k b) := by rw [h]
theorem ret_bool {a b : Bool} (h : a = b) : Ending.returned (.bool a) = .returned (.bool b) := by rw [h]
def inB (n a b : Int) : Bool := decide (a ≤ n) && decide (n ≤ b)
theorem inB_t {n a b : Int} (h : a ≤ n) (h' : n ≤ b) : inB n a b = true := by simp [inB, h, h']
theorem inB_f {n a b : Int} (h : n < a ∨ b < n) : inB n a b = false := by simp [inB]; omega
theorem some_ne {a b : Nat} (h : a ≠ b) : some a ≠ some b := fun e => h (by injection e)
/-- The number of a value. -/
def iv : Value → Int
  | .int _ a => a
  | _ => 0
/-- A block of cells, as a list. -/
def Blk (w : World) (g : Nat) (ty : TypeId) (L : List Value) : Prop := w.heap[g]? = some (.cells L.toArray ty (0, 0))
theorem Blk.lt {w : World} {g : Nat} {ty : TypeId} {L : List Value} (h : Blk w g ty L) : g < w.heap.size := (Array.getElem?_eq_some_iff.1 h).1
theorem Blk.cell {w : World} {g : Nat} {ty : TypeId} {L : List Value} (h : Blk w g ty L) (i : Nat) : w.cell? ⟨g, i, none⟩ = L[i]? := by
  rw [cell_of_row w g i _ ty (0, 0) h]; simp
theorem Blk.frozen {w : World} {g : Nat} {ty : TypeId} {L : List Value} (h : Blk w g ty L) (i : Nat) : w.frozen? ⟨g, i, none⟩ = false := by
  unfold Blk at h
  simp [World.frozen?, h]
theorem Blk.of_eq {w w' : World} {g : Nat} {ty : TypeId} {L : List Value} (h : Blk w g ty L) (e : w'.heap[g]? = w.heap[g]?) : Blk w' g ty L := by unfold Blk at *; rw [e, h]
theorem Blk.kept {w w' : World} {g : Nat} {ty : TypeId} {L : List Value} {row : Option Nat} (h : Blk w g ty L) (k : w.grownBy w' row) (hne : some g ≠ row) : Blk w' g ty L := h.of_eq (k.block g h.lt hne)
theorem Blk.set {w : World} {g : Nat} {ty : TypeId} {L : List Value} (h : Blk w g ty L) (i : Nat) (v : Value) : Blk (w.setCell ⟨g, i, none⟩ v) g ty (L.set i v) := by
  unfold Blk at *
  simp only [World.setCell, Array.getElem?_modify, if_true, h]
  simp
theorem blk_new (w : World) (L : List Value) (ty : TypeId) : Blk (w.alloc (.cells L.toArray ty)) w.heap.size ty L := heap_alloc_last w _
/-- Bytes that are read: at block g from off on, n of them, the i-th is f i. -/
def Rd (w : World) (g off n : Nat) (f : Nat → Int) : Prop := g < w.heap.size ∧ ∀ i, i < n → w.cell? ⟨g, off + i, none⟩ = some (.int .u8 (f i))
/-- Bytes that may be written: a whole block's first n. -/
def By (w : World) (g n : Nat) (f : Nat → Int) : Prop := g < w.heap.size ∧ ∀ i, i < n → w.cell? ⟨g, i, none⟩ = some (.int .u8 (f i)) ∧ w.frozen? ⟨g, i, none⟩ = false
def okB (n : Nat) (f : Nat → Int) : Prop := ∀ i, i < n → 0 ≤ f i ∧ f i < 256
def upd (f : Nat → Int) (k : Nat) (v : Int) : Nat → Int := fun i => if i = k then v else f i
theorem By.congr {w : World} {g n : Nat} {f h : Nat → Int} (b : By w g n f) (e : ∀ i, i < n → f i = h i) : By w g n h := ⟨b.1, fun i hi => by rw [← e i hi]; exact b.2 i hi⟩
theorem By.kept {w w' : World} {g n : Nat} {f : Nat → Int} {row : Option Nat} (b : By w g n f) (h : w.grownBy w' row) (hne : some g ≠ row) : By w' g n f :=
  ⟨Nat.lt_of_lt_of_le b.1 h.size, fun i hi => ⟨(h.cell_far _ b.1 hne).trans (b.2 i hi).1, (h.frozen_far _ b.1 hne).trans (b.2 i hi).2⟩⟩
theorem Rd.kept {w w' : World} {g off n : Nat} {f : Nat → Int} {row : Option Nat} (b : Rd w g off n f) (h : w.grownBy w' row) (hne : some g ≠ row) : Rd w' g off n f :=
  ⟨Nat.lt_of_lt_of_le b.1 h.size, fun i hi => (h.cell_far _ b.1 hne).trans (b.2 i hi)⟩
theorem By.rd {w : World} {g n : Nat} {f : Nat → Int} (b : By w g n f) : Rd w g 0 n f := ⟨b.1, fun i hi => by rw [Nat.zero_add]; exact (b.2 i hi).1⟩
theorem By.less {w : World} {g n m : Nat} {f : Nat → Int} (b : By w g n f) (h : m ≤ n) : By w g m f := ⟨b.1, fun i hi => b.2 i (by omega)⟩
theorem By.set {w : World} {g n : Nat} {f : Nat → Int} (b : By w g n f) (k : Nat) (v : Int) : By (w.setCell ⟨g, k, none⟩ (.int .u8 v)) g n (upd f k v) := by
  refine ⟨by simpa [World.setCell] using b.1, fun i hi => ⟨?_, by rw [World.frozen?_setCell]; exact (b.2 i hi).2⟩⟩
  unfold upd
  by_cases e : i = k
  · subst e
    rw [World.cell?_setCell_same _ _ _ (b.2 i hi).1, if_pos rfl]
  · rw [World.cell?_setCell_other _ _ _ _ (by intro h; cases h; exact e rfl), if_neg e]
    exact (b.2 i hi).1
theorem grown_setCell' (w : World) (g k : Nat) (v : Value) : w.grownBy (w.setCell ⟨g, k, none⟩ v) (some g) :=
  ⟨rfl, rfl, rfl, by simp [World.setCell], fun i hi hne => Below.heap_setCell _ _ _ _ (by intro h; exact hne (by rw [h]))⟩
/-- m bytes as values. -/
def vals (m : Nat) (h : Nat → Int) : List Value := (List.range m).map fun i => .int .u8 (h i)
theorem vals_len (m : Nat) (h : Nat → Int) : (vals m h).length = m := by simp [vals]
theorem vals_get (m : Nat) (h : Nat → Int) (i : Nat) (hi : i < m) : (vals m h)[i]? = some (.int .u8 (h i)) := by simp [vals, hi]
theorem vals_one (m : Nat) (h : Nat → Int) : ∀ v ∈ vals m h, v.oneCell' = true := by
  intro v hv
  simp only [vals, List.mem_map] at hv
  obtain ⟨i, _, rfl⟩ := hv
  rfl
theorem vals_congr (m : Nat) (h k : Nat → Int) (e : ∀ i, i < m → h i = k i) : vals m h = vals m k := by
  simp only [vals]
  exact List.map_congr_left (fun i hi => by rw [e i (by simpa using hi)])
theorem okB.upd {n : Nat} {f : Nat → Int} (h : okB n f) (k : Nat) (v : Int) (h0 : 0 ≤ v) (h1 : v < 256) : okB n (upd f k v) := fun i hi => by
  unfold Proofs.Ytimmckdghihcjaa.upd
  split
  · exact ⟨h0, h1⟩
  · exact h i hi
theorem vals_zero (m : Nat) : List.replicate m (Value.int .u8 0) = vals m (fun _ => 0) := by
  simp only [vals, List.map_const', List.length_range]
theorem run_loadAt_at {P : Program} (w : World) (t : TypeId) (a : Addr) (cs : List Value) (n : Nat) (e : TypeId) (hu : P.underlying t = some (.array n e)) (hi : (P.info? t).map (·.size) = some cs.length)
    (h : ∀ j v, cs[j]? = some v → w.cell? (a.add j) = some v) : (Instr.loadAt t (.pointer (some a))).run P w = .ok (.agg cs.toArray) w := by
  have hl := run_loadCells_list (P := P) w a cs h
  cases hq : P.info? t with
  | none => simp [hq] at hi
  | some i =>
    have hs : i.size = cs.length := by simpa [hq] using hi
    have hagg : (isAgg t).run P w = .ok true w := by simp [isAgg, run_underlying hu]
    simp [Instr.loadAt, Instr.sureAddr, loadVar, hagg, sizeOf, typeInfo, hq, hs, hl]
theorem wpList_load_at {P : Program} {w : World} {ops : Array Oper} {rest : List Oper} {o : Oper} {a : Act} {Q : Exit → Act → World → Prop} (hgd : o.guard = none) (t : TypeId) (x : Operand)
    (ho : o.op = .load t x) (u v : Value) (hx : a.eval x = u) (hrun : (Instr.loadAt t u).run P w = .ok v w) (h : wpList P ops Q rest (a.put o.dst v) w) : wpList P ops Q (o :: rest) a w := by
  refine wpList_plain hgd fun K hK => ?_
  unfold Oper.wp
  simp [execOp, ho, hx, hrun, Result.andThen]
  exact hK _ _ h
theorem wpList_store_at {P : Program} {w w' : World} {ops : Array Oper} {rest : List Oper} {o : Oper} {a : Act} {Q : Exit → Act → World → Prop} (hgd : o.guard = none) (t : TypeId) (x y : Operand)
    (ho : o.op = .store t x y) (u v : Value) (hx : a.eval x = u) (hy : a.eval y = v) (hrun : (Instr.storeAt t u v).run P w = .ok () w') (h : wpList P ops Q rest (a.put o.dst undef) w') : wpList P ops Q (o :: rest) a w := by
  refine wpList_plain hgd fun K hK => ?_
  unfold Oper.wp
  simp [execOp, ho, hx, hy, hrun, Result.andThen]
  exact hK _ _ h
theorem wpList_arrayAt {P : Program} {w : World} {ops : Array Oper} {rest : List Oper} {o : Oper} {a : Act} {Q : Exit → Act → World → Prop} (hgd : o.guard = none) (t : TypeId) (x : Operand)
    (ho : o.op = .sliceToArrayPointer t x) (u v : Value) (hx : a.eval x = u) (hrun : (Instr.arrayAt t u).run P w = .ok v w) (h : wpList P ops Q rest (a.put o.dst v) w) : wpList P ops Q (o :: rest) a w := by
  refine wpList_plain hgd fun K hK => ?_
  unfold Oper.wp
  simp [execOp, ho, hx, hrun, Result.andThen]
  exact hK _ _ h
theorem run_arrayAt_at {P : Program} (w : World) (t : TypeId) (ao : Option Addr) (n c : Nat) (e : TypeId) (hu : P.underlying t = some (.array n e)) : (Instr.arrayAt t (.slice ao n c)).run P w = .ok (.pointer ao) w := by
  simp [Instr.arrayAt, run_underlying hu]
theorem new_By {w : World} {m : Nat} {h : Nat → Int} {t : TypeId} : By (w.alloc (.cells (vals m h).toArray t)) w.heap.size m h := by
  refine ⟨by simp, fun i hi => ⟨?_, ?_⟩⟩
  · rw [cell_of_row _ _ i _ t (0, 0) (heap_alloc_last w _)]
    simpa using vals_get m h i hi
  · simp only [World.frozen?, heap_alloc_last]
    simp
theorem all_vals (m : Nat) (h : Nat → Int) : (vals m h).toArray.all (·.oneCell') = true := by
  rw [Array.all_eq_true_iff_forall_mem]
  intro v hv
  exact vals_one m h v (by simpa using hv)
/-- Bytes that came in: l of them, the i-th is f i. -/
def Arg (w : World) (ao : Option Addr) (l : Nat) (f : Nat → Int) : Prop := l = 0 ∨ ∃ b off, ao = some ⟨b, off, none⟩ ∧ Rd w b off l f
theorem Arg.kept {w w' : World} {ao : Option Addr} {l : Nat} {f : Nat → Int} (h : Arg w ao l f) (B : Nat) (hb : Below B w w') (hB : ∀ b off, ao = some ⟨b, off, none⟩ → b < B) : Arg w' ao l f := by
  rcases h with h | ⟨b, off, e, hr⟩
  · exact Or.inl h
  · exact Or.inr ⟨b, off, e, Nat.lt_of_lt_of_le hr.1 hb.size, fun i hi => (hb.cell (hB b off e)).trans (hr.2 i hi)⟩
theorem Arg.below {w w' : World} {ao : Option Addr} {l : Nat} {f : Nat → Int} (h : Arg w ao l f) (hb : Below w.heap.size w w') : Arg w' ao l f := by
  rcases h with h | ⟨b, off, e, hr⟩
  · exact Or.inl h
  · exact Or.inr ⟨b, off, e, Nat.lt_of_lt_of_le hr.1 hb.size, fun i hi => (hb.cell hr.1).trans (hr.2 i hi)⟩
/-- A struct that was boxed: its cells at block B. -/
def Bx (w : World) (B : Nat) (vs : List Value) : Prop := B < w.heap.size ∧ ∀ i v, vs[i]? = some v → w.cell? ⟨B, i, none⟩ = some v
theorem bx_new (w : World) (cs : Array Value) (t : TypeId) : Bx (w.alloc (.cells cs t)) w.heap.size cs.toList :=
  ⟨by simp, fun i v hv => by rw [cell_of_row _ _ i _ t (0, 0) (heap_alloc_last w _)]; simpa using hv⟩
theorem Bx.kept {w w' : World} {B : Nat} {vs : List Value} {row : Option Nat} (h : Bx w B vs) (g : w.grownBy w' row) (hne : some B ≠ row) : Bx w' B vs :=
  ⟨Nat.lt_of_lt_of_le h.1 g.size, fun i v hv => (g.cell_far _ h.1 hne).trans (h.2 i v hv)⟩
theorem Arg.lt {w : World} {ao : Option Addr} {l : Nat} {f : Nat → Int} (h : Arg w ao l f) (h0 : l ≠ 0) : ∃ b off, ao = some ⟨b, off, none⟩ ∧ b < w.heap.size ∧ ∀ i, i < l → w.cell? ⟨b, off + i, none⟩ = some (.int .u8 (f i)) := by
  rcases h with h | ⟨b, off, e, hr⟩
  · exact absurd h h0
  · exact ⟨b, off, e, hr.1, hr.2⟩
theorem Rd.arg {w : World} {b off l : Nat} {f : Nat → Int} (h : Rd w b off l f) : Arg w (some ⟨b, off, none⟩) l f := Or.inr ⟨b, off, rfl, h⟩
theorem By.arg {w : World} {b l : Nat} {f : Nat → Int} (h : By w b l f) : Arg w (some ⟨b, 0, none⟩) l f := h.rd.arg
theorem Arg.less {w : World} {ao : Option Addr} {l m : Nat} {f : Nat → Int} (h : Arg w ao l f) (hm : m ≤ l) : Arg w ao m f := by
  rcases h with h | ⟨b, off, e, hr⟩
  · exact Or.inl (by omega)
  · exact Or.inr ⟨b, off, e, hr.1, fun i hi => hr.2 i (by omega)⟩
theorem Arg.nil (w : World) (ao : Option Addr) (f : Nat → Int) : Arg w ao 0 f := Or.inl rfl
theorem Arg.grown {w w' : World} {ao : Option Addr} {l : Nat} {f : Nat → Int} {row : Option Nat} (h : Arg w ao l f) (g : w.grownBy w' row) (hne : ∀ b off, ao = some ⟨b, off, none⟩ → some b ≠ row) : Arg w' ao l f := by
  rcases h with h | ⟨b, off, e, hr⟩
  · exact Or.inl h
  · exact Or.inr ⟨b, off, e, hr.kept g (hne b off e)⟩
theorem Arg.congr {w : World} {ao : Option Addr} {l : Nat} {f f' : Nat → Int} (h : Arg w ao l f) (e : ∀ i, i < l → f i = f' i) : Arg w ao l f' := by
  rcases h with h | ⟨b, off, e', hr⟩
  · exact Or.inl h
  · exact Or.inr ⟨b, off, e', hr.1, fun i hi => by rw [← e i hi]; exact hr.2 i hi⟩
theorem kind_eq (k n : Int) (hn : 0 < n) : (k.tmod n + n) % n = k % n := by
  rw [Int.add_emod_right, Int.tmod_eq_emod]
  split
  · simp
  · rw [Int.natAbs_of_nonneg (by omega), Int.sub_emod_right, Int.emod_emod]
theorem kind_any (k n : Int) (h0 : 0 < n) (h1 : n < 4611686018427387904) (hk0 : -9223372036854775808 ≤ k) (hk1 : k < 9223372036854775808) (w : World) :
    Calls Try.prog 16 #[.int .i64 k, .int .i64 n] w fun e w' => e = .returned (.int .i64 (k % n)) ∧ w' = w := by
  have HE : Hid _ := kind_eq k n h0
  have h2 : -n < k.tmod n := Int.lt_tmod_of_pos k h0
  have h3 : k.tmod n < n := Int.tmod_lt_of_pos k h0
  go_enter Try.func16, Try.ntmps16
  go_wp2
  go_ret
  exact ⟨ret_int HE.out, rfl⟩
theorem same_any {w : World} {a1 a2 : Option Addr} {l c1 c2 : Nat} {f : Nat → Int} (hl : l ≤ maxLen) (h1 : Arg w a1 l f) (h2 : Arg w a2 l f) :
    Calls Try.prog 21 #[.slice a1 l c1, .slice a2 l c2] w fun e w' => e = .returned (.bool true) ∧ w.grownBy w' none := by
  have H1 : Hid (Arg w a1 l f) := h1
  have H2 : Hid (Arg w a2 l f) := h2
  clear h1 h2
  unfold maxLen at hl
  go_enter Try.func21, Try.ntmps21
  go_wp2
  go_loopw [5] (fun i wr => ∃ k : Nat, k ≤ l ∧ i = .int .i64 k ∧ w.grownBy wr none) (fun i _ => l - (iv i).toNat)
  case atStart => exact ⟨0, by omega, rfl, World.grownBy.refl _ _⟩
  case round =>
    obtain ⟨k, hk, rfl, hb⟩ := hrel
    by_cases hlt : k < l
    · obtain ⟨b, o, rfl, hbs, hc⟩ := H1.out.lt (by omega)
      obtain ⟨b', o', rfl, hbs', hc'⟩ := H2.out.lt (by omega)
      have d1 := (hb.cell_far ⟨b, o + k, none⟩ hbs (by simp)).trans (hc k hlt)
      have d2 := (hb.cell_far ⟨b', o' + k, none⟩ hbs' (by simp)).trans (hc' k hlt)
      clear hc hc'
      generalize f k = v at *
      go_wp2
      go_quiet (fail)
      go_wp2
      go_roundw
      case rel => exact ⟨k + 1, by omega, by go_num, ⟨hb.os, hb.tape, hb.output, hb.size, hb.block⟩⟩
      case measure => simp [iv]; omega
    · obtain rfl : k = l := by omega
      go_wp2
      go_ret
      exact ⟨rfl, hb⟩
/-- What turned lies between B and T, or is new. -/
def Chg (B T : Nat) (W W' : World) : Prop := ∃ row, W.grownBy W' row ∧ ∀ j, row = some j → B ≤ j ∧ j < T
def NewA (W W' : World) (ao : Option Addr) (l : Nat) (u : Nat → Int) : Prop := (l = 0 ∧ ao = none) ∨ ∃ b, ao = some ⟨b, 0, none⟩ ∧ By W' b l u ∧ W.heap.size ≤ b
theorem NewA.arg {W W' : World} {ao : Option Addr} {l : Nat} {u : Nat → Int} (h : NewA W W' ao l u) : Arg W' ao l u := by
  rcases h with ⟨rfl, _⟩ | ⟨b, rfl, hb, _⟩
  · exact Or.inl rfl
  · exact hb.arg
theorem Chg.below {B T : Nat} {W W' : World} (h : Chg B T W W') (hB : B ≤ W.heap.size) : Below B W W' := by
  obtain ⟨row, g, hr⟩ := h
  exact (Below.refl _ _).grown g hB (fun j hj => (hr j hj).1)
theorem Chg.bx {B T X : Nat} {W W' : World} {vs : List Value} (h : Chg B T W W') (b : Bx W X vs) (hX : T ≤ X) : Bx W' X vs := by
  obtain ⟨row, g, hr⟩ := h
  exact b.kept g (fun e => by have := (hr X e.symm).2; omega)
theorem Chg.by' {B T X n : Nat} {W W' : World} {f : Nat → Int} (h : Chg B T W W') (b : By W X n f) (hX : T ≤ X) : By W' X n f := by
  obtain ⟨row, g, hr⟩ := h
  exact b.kept g (fun e => by have := (hr X e.symm).2; omega)
theorem Chg.size {B T : Nat} {W W' : World} (h : Chg B T W W') : W.heap.size ≤ W'.heap.size := by
  obtain ⟨row, g, hr⟩ := h
  exact g.size
theorem below_grow {w w' : World} (h : Below w.heap.size w w') : w.grownBy w' none := ⟨h.os, h.tape, h.output, h.size, fun i hi _ => h.block i hi⟩
theorem not_u8_nat : ∀ n : Fin 256, bits .xor .u8 255 (n.val : Int) = 255 - (n.val : Int) := by decide +kernel
theorem not_u8 (x : Int) (h0 : 0 ≤ x) (h1 : x < 256) : bits .xor .u8 (if IntKind.u8.signed = true then -1 else IntKind.u8.max) x = 255 - x := by
  obtain ⟨n, rfl⟩ := Int.eq_ofNat_of_zero_le h0
  exact not_u8_nat ⟨n, by omega⟩
/-- The first k bytes turned over. -/
def flip (u : Nat → Int) (k : Nat) (i : Nat) : Int := if i < k then 255 - u i else u i
theorem flip_zero (u : Nat → Int) (i : Nat) : flip u 0 i = u i := by unfold flip; rw [if_neg (by omega)]
theorem flip_at (u : Nat → Int) (k : Nat) : flip u k k = u k := by unfold flip; rw [if_neg (by omega)]
theorem flip_done (u : Nat → Int) (k i : Nat) (h : i < k) : flip u k i = 255 - u i := by unfold flip; rw [if_pos h]
theorem flip_next (u : Nat → Int) (k i : Nat) : flip u (k + 1) i = upd (flip u k) k (255 - u k) i := by
  unfold upd
  by_cases e : i = k
  · subst e
    rw [if_pos rfl, flip_done _ _ _ (by omega)]
  · rw [if_neg e]
    unfold flip
    by_cases e2 : i < k
    · rw [if_pos e2, if_pos (by omega)]
    · rw [if_neg e2, if_neg (by omega)]
theorem below_of {w w' : World} {row : Option Nat} (h : w.grownBy w' row) (B : Nat) (hB : B ≤ w.heap.size) (hr : ∀ k, row = some k → B ≤ k) : Below B w w' := (Below.refl B w).grown h hB hr
theorem ret_slice2 {a : Option Addr} {l l' c c' : Nat} {k : IntKind} {v : Int} (h : l = l') (h' : c = c') : Ending.returned (.tuple #[.slice a l c, .int k v]) = .returned (.tuple #[.slice a l' c', .int k v]) := by rw [h, h']
end Go.Proofs.Ytimmckdghihcjaa
