/- A memory as its bytes: what New, Frames and the inner looks of package frames give back; no condition but the ranges that each theorem names. -/
import Derived.Test.YtbfagelmijimeaaAd
import Derived.Laws.IdiomCopy
import Derived.Lib.SliceRun
import Derived.Deep.AppendLies
import Derived.Deep.WholeRow
namespace Go.Proofs.Ytbfagelmijimeaa
open Go.ChangeShapes Go.WideShapes Go.ChangeAt Go.RowKit
set_option linter.unusedVariables false

/-- Bytes that are read: at block g from off on, n of them, the i-th is f i. -/
def Rd (w : World) (g off n : Nat) (f : Nat → Int) : Prop := g < w.heap.size ∧ ∀ i, i < n → w.cell? ⟨g, off + i, none⟩ = some (.int .u8 (f i))
/-- Bytes that may be written: a whole block's first n. -/
def By (w : World) (g n : Nat) (f : Nat → Int) : Prop := g < w.heap.size ∧ ∀ i, i < n → w.cell? ⟨g, i, none⟩ = some (.int .u8 (f i)) ∧ w.frozen? ⟨g, i, none⟩ = false
def okB (n : Nat) (f : Nat → Int) : Prop := ∀ i, i < n → 0 ≤ f i ∧ f i < 256
/-- A memory of n frames: its struct at block p, its bytes at block g. -/
structure Mem (w : World) (p g n : Nat) (f : Nat → Int) : Prop where
  lt : p < w.heap.size
  cell : w.cell? ⟨p, 0, none⟩ = some (.slice (some ⟨g, 0, none⟩) (n * 256) (n * 256))
  by' : By w g (n * 256) f
  ne : p ≠ g
  ok : okB (n * 256) f
def upd (f : Nat → Int) (k : Nat) (v : Int) : Nat → Int := fun i => if i = k then v else f i
/-- From a on, m bytes are those of h. -/
def lay (f : Nat → Int) (a m : Nat) (h : Nat → Int) : Nat → Int := fun i => if a ≤ i ∧ i < a + m then h (i - a) else f i

theorem By.congr {w : World} {g n : Nat} {f h : Nat → Int} (b : By w g n f) (e : ∀ i, i < n → f i = h i) : By w g n h := ⟨b.1, fun i hi => by rw [← e i hi]; exact b.2 i hi⟩
theorem By.kept {w w' : World} {g n : Nat} {f : Nat → Int} {row : Option Nat} (b : By w g n f) (h : w.grownBy w' row) (hne : some g ≠ row) : By w' g n f :=
  ⟨Nat.lt_of_lt_of_le b.1 h.size, fun i hi => ⟨(h.cell_far _ b.1 hne).trans (b.2 i hi).1, (h.frozen_far _ b.1 hne).trans (b.2 i hi).2⟩⟩
theorem Rd.kept {w w' : World} {g off n : Nat} {f : Nat → Int} {row : Option Nat} (b : Rd w g off n f) (h : w.grownBy w' row) (hne : some g ≠ row) : Rd w' g off n f :=
  ⟨Nat.lt_of_lt_of_le b.1 h.size, fun i hi => (h.cell_far _ b.1 hne).trans (b.2 i hi)⟩
theorem By.rd {w : World} {g n : Nat} {f : Nat → Int} (b : By w g n f) : Rd w g 0 n f := ⟨b.1, fun i hi => by rw [Nat.zero_add]; exact (b.2 i hi).1⟩
theorem By.less {w : World} {g n m : Nat} {f : Nat → Int} (b : By w g n f) (h : m ≤ n) : By w g m f := ⟨b.1, fun i hi => b.2 i (by omega)⟩
theorem By.set {w : World} {g n : Nat} {f : Nat → Int} (b : By w g n f) (k : Nat) (v : Int) : By (w.setCell ⟨g, k, none⟩ (.int .u8 v)) g n (upd f k v) := by
  refine ⟨by simpa [World.setCell] using b.1, fun i hi => ⟨?_, by rw [World.frozen?_setCell]; exact (b.2 i hi).2⟩⟩
  unfold upd
  by_cases e : i = k
  · subst e
    rw [World.cell?_setCell_same _ _ _ (b.2 i hi).1, if_pos rfl]
  · rw [World.cell?_setCell_other _ _ _ _ (by intro h; cases h; exact e rfl), if_neg e]
    exact (b.2 i hi).1
theorem size_setCells (b : Nat) : ∀ (vs : List Value) (o : Nat) (w : World), (w.setCells b o vs).heap.size = w.heap.size
  | [], _, _ => rfl
  | v :: r, o, w => by rw [World.setCells, size_setCells b r]; simp [World.setCell]
theorem grown_setCell' (w : World) (g k : Nat) (v : Value) : w.grownBy (w.setCell ⟨g, k, none⟩ v) (some g) :=
  ⟨rfl, rfl, rfl, by simp [World.setCell], fun i hi hne => Below.heap_setCell _ _ _ _ (by intro h; exact hne (by rw [h]))⟩
theorem grown_setCells (b : Nat) : ∀ (vs : List Value) (o : Nat) (w : World), w.grownBy (w.setCells b o vs) (some b)
  | [], _, w => ⟨rfl, rfl, rfl, Nat.le_refl _, fun _ _ _ => rfl⟩
  | v :: r, o, w => by
    have h := grown_setCell' w b o v
    have k := grown_setCells b r (o + 1) (w.setCell ⟨b, o, none⟩ v)
    exact ⟨k.os.trans h.os, k.tape.trans h.tape, k.output.trans h.output, Nat.le_trans h.size k.size, fun i hi hne => (k.block i (Nat.lt_of_lt_of_le hi h.size) hne).trans (h.block i hi hne)⟩
/-- m bytes as values. -/
def vals (m : Nat) (h : Nat → Int) : List Value := (List.range m).map fun i => .int .u8 (h i)
theorem vals_len (m : Nat) (h : Nat → Int) : (vals m h).length = m := by simp [vals]
theorem vals_get (m : Nat) (h : Nat → Int) (i : Nat) (hi : i < m) : (vals m h)[i]? = some (.int .u8 (h i)) := by simp [vals, hi]
theorem vals_one (m : Nat) (h : Nat → Int) : ∀ v ∈ vals m h, v.oneCell' = true := by
  intro v hv
  simp only [vals, List.mem_map] at hv
  obtain ⟨i, _, rfl⟩ := hv
  rfl
theorem vals_congr (m : Nat) (h k : Nat → Int) (e : ∀ i, i < m → h i = k i) : vals m h = vals m k := by
  simp only [vals]
  exact List.map_congr_left (fun i hi => by rw [e i (by simpa using hi)])
theorem By.cells {w : World} {g n : Nat} {f : Nat → Int} (b : By w g n f) (a m : Nat) (h : Nat → Int) (hl : a + m ≤ n) : By (w.setCells g a (vals m h)) g n (lay f a m h) := by
  refine ⟨by rw [size_setCells]; exact b.1, fun i hi => ⟨?_, by rw [World.frozen?_setCells]; exact (b.2 i hi).2⟩⟩
  unfold lay
  by_cases e : a ≤ i ∧ i < a + m
  · rw [if_pos e]
    have := World.cell?_setCells_in g (vals m h) a w (fun j hj => by rw [vals_len] at hj; rw [(b.2 (a + j) (by omega)).1]; rfl) (i - a) (by rw [vals_len]; omega)
    rw [show a + (i - a) = i by omega] at this
    rw [this]
    simp [vals]
  · rw [if_neg e, World.cell?_setCells_out g (vals m h) a w _ (fun _ _ => by rw [vals_len]; show i < a ∨ a + m ≤ i; omega)]
    exact (b.2 i hi).1
theorem okB.upd {n : Nat} {f : Nat → Int} (h : okB n f) (k : Nat) (v : Int) (h0 : 0 ≤ v) (h1 : v < 256) : okB n (upd f k v) := fun i hi => by
  unfold Proofs.Ytbfagelmijimeaa.upd
  split
  · exact ⟨h0, h1⟩
  · exact h i hi
theorem okB.lay {n m : Nat} {f h : Nat → Int} (hf : okB n f) (a : Nat) (hh : okB m h) : okB n (lay f a m h) := fun i hi => by
  unfold Proofs.Ytbfagelmijimeaa.lay
  split
  · exact hh _ (by omega)
  · exact hf i hi
theorem Mem.kept {w w' : World} {p g n : Nat} {f : Nat → Int} {row : Option Nat} (b : Mem w p g n f) (h : w.grownBy w' row) (hp : some p ≠ row) (hg : some g ≠ row) : Mem w' p g n f :=
  ⟨Nat.lt_of_lt_of_le b.lt h.size, (h.cell_far _ b.lt hp).trans b.cell, b.by'.kept h hg, b.ne, b.ok⟩
/-- What turned the bytes' block alone. -/
theorem Mem.turn {w w' : World} {p g n : Nat} {f f' : Nat → Int} (b : Mem w p g n f) (h : w.grownBy w' (some g)) (hb : By w' g (n * 256) f') (ho : okB (n * 256) f') : Mem w' p g n f' :=
  ⟨Nat.lt_of_lt_of_le b.lt h.size, (h.cell_far _ b.lt (by intro e; exact b.ne (by injection e))).trans b.cell, hb, b.ne, ho⟩

theorem Frames_any {w : World} {p g n : Nat} {f : Nat → Int} (hM : Mem w p g n f) (hn : n ≤ 4096) :
    Calls Try.prog 10 #[.pointer (some ⟨p, 0, none⟩)] w fun e w' => e = .returned (.int .i64 n) ∧ w' = w := by
  have hc := hM.cell
  clear hM
  go_enter Try.func10, Try.ntmps10
  go_wp2
  go_ret
  exact ⟨ret_int (by omega), rfl⟩
/-- A memory that is none: no pointer, or one to a struct without bytes. -/
def NoM (w : World) (q : Option Addr) : Prop := q = none ∨ ∃ p, q = some ⟨p, 0, none⟩ ∧ w.cell? ⟨p, 0, none⟩ = some (.slice none 0 0)
theorem Frames_nil {w : World} {q : Option Addr} (hN : NoM w q) :
    Calls Try.prog 10 #[.pointer q] w fun e w' => e = .returned (.int .i64 0) ∧ w' = w := by
  rcases hN with rfl | ⟨p, rfl, hc⟩
  · go_enter Try.func10, Try.ntmps10
    go_wp2
    go_ret
    exact ⟨rfl, rfl⟩
  · go_enter Try.func10, Try.ntmps10
    go_wp2
    go_ret
    exact ⟨rfl, rfl⟩
theorem made_any {w : World} {p g n : Nat} {f : Nat → Int} (hM : Mem w p g n f) (h1 : 1 ≤ n) (hn : n ≤ 4096) :
    Calls Try.prog 42 #[.pointer (some ⟨p, 0, none⟩)] w fun e w' => e = .returned (.bool true) ∧ w' = w := by
  go_enter Try.func42, Try.ntmps42
  go_wp2_with (go_at_call 10; refine (Frames_any hM hn).mono ?_; rintro e w' ⟨rfl, rfl⟩)
  go_ret
  exact ⟨ret_bool (by simp; omega), rfl⟩
theorem made_nil {w : World} {q : Option Addr} (hN : NoM w q) :
    Calls Try.prog 42 #[.pointer q] w fun e w' => e = .returned (.bool false) ∧ w' = w := by
  go_enter Try.func42, Try.ntmps42
  go_wp2_with (go_at_call 10; refine (Frames_nil hN).mono ?_; rintro e w' ⟨rfl, rfl⟩)
  go_ret
  exact ⟨rfl, rfl⟩
theorem there_any {w : World} {p g n : Nat} {f : Nat → Int} (hM : Mem w p g n f) (hn : n ≤ 4096) (pa : Int) (h0 : 0 ≤ pa) (h1 : pa < 18446744073709551616) :
    Calls Try.prog 43 #[.pointer (some ⟨p, 0, none⟩), .int .u64 pa] w fun e w' => e = .returned (.bool (decide (pa < n * 256))) ∧ w' = w := by
  by_cases hs : pa < 1048576
  · go_enter Try.func43, Try.ntmps43
    go_wp2_with (first | (go_at_call 45; refine (Frame_ok pa h0 hs w).mono ?_; rintro e w' ⟨rfl, rfl⟩) | (go_at_call 10; refine (Frames_any hM hn).mono ?_; rintro e w' ⟨rfl, rfl⟩))
    go_ret
    exact ⟨ret_bool (by rw [Bool.eq_iff_iff]; simp; omega), rfl⟩
  · go_enter Try.func43, Try.ntmps43
    go_wp2_with (first | (go_at_call 45; refine (Frame_no pa (by omega) h1 w).mono ?_; rintro e w' ⟨rfl, rfl⟩) | (go_at_call 10; refine (Frames_any hM hn).mono ?_; rintro e w' ⟨rfl, rfl⟩))
    go_ret
    exact ⟨ret_bool (by rw [Bool.eq_iff_iff]; simp; omega), rfl⟩
end Go.Proofs.Ytbfagelmijimeaa
