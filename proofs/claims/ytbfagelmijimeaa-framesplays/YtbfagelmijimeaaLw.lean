/- The statements' own small functions: a number's remainder, two lists of bytes held against one another; and how bytes that came in are read. -/
import Derived.Test.YtbfagelmijimeaaWrk
import Derived.Deep.QuietTactic
import Derived.BigQuiet
namespace Go.Proofs.Ytbfagelmijimeaa
open Go.ChangeShapes Go.WideShapes Go.ChangeAt Go.RowKit
set_option linter.unusedVariables false

/-- Bytes that came in: l of them, the i-th is f i. -/
def Arg (w : World) (ao : Option Addr) (l : Nat) (f : Nat → Int) : Prop := l = 0 ∨ ∃ b off, ao = some ⟨b, off, none⟩ ∧ Rd w b off l f
theorem Arg.kept {w w' : World} {ao : Option Addr} {l : Nat} {f : Nat → Int} (h : Arg w ao l f) (B : Nat) (hb : Below B w w') (hB : ∀ b off, ao = some ⟨b, off, none⟩ → b < B) : Arg w' ao l f := by
  rcases h with h | ⟨b, off, e, hr⟩
  · exact Or.inl h
  · exact Or.inr ⟨b, off, e, Nat.lt_of_lt_of_le hr.1 hb.size, fun i hi => (hb.cell (hB b off e)).trans (hr.2 i hi)⟩
theorem Arg.below {w w' : World} {ao : Option Addr} {l : Nat} {f : Nat → Int} (h : Arg w ao l f) (hb : Below w.heap.size w w') : Arg w' ao l f := by
  rcases h with h | ⟨b, off, e, hr⟩
  · exact Or.inl h
  · exact Or.inr ⟨b, off, e, Nat.lt_of_lt_of_le hr.1 hb.size, fun i hi => (hb.cell hr.1).trans (hr.2 i hi)⟩
/-- A struct that was boxed: its cells at block B. -/
def Bx (w : World) (B : Nat) (vs : List Value) : Prop := B < w.heap.size ∧ ∀ i v, vs[i]? = some v → w.cell? ⟨B, i, none⟩ = some v
theorem bx_new (w : World) (cs : Array Value) (t : TypeId) : Bx (w.alloc (.cells cs t)) w.heap.size cs.toList :=
  ⟨by simp, fun i v hv => by rw [cell_of_row _ _ i _ t (0, 0) (heap_alloc_last w _)]; simpa using hv⟩
theorem Bx.kept {w w' : World} {B : Nat} {vs : List Value} {row : Option Nat} (h : Bx w B vs) (g : w.grownBy w' row) (hne : some B ≠ row) : Bx w' B vs :=
  ⟨Nat.lt_of_lt_of_le h.1 g.size, fun i v hv => (g.cell_far _ h.1 hne).trans (h.2 i v hv)⟩
theorem Arg.lt {w : World} {ao : Option Addr} {l : Nat} {f : Nat → Int} (h : Arg w ao l f) (h0 : l ≠ 0) : ∃ b off, ao = some ⟨b, off, none⟩ ∧ b < w.heap.size ∧ ∀ i, i < l → w.cell? ⟨b, off + i, none⟩ = some (.int .u8 (f i)) := by
  rcases h with h | ⟨b, off, e, hr⟩
  · exact absurd h h0
  · exact ⟨b, off, e, hr.1, hr.2⟩
theorem Rd.arg {w : World} {b off l : Nat} {f : Nat → Int} (h : Rd w b off l f) : Arg w (some ⟨b, off, none⟩) l f := Or.inr ⟨b, off, rfl, h⟩
theorem By.arg {w : World} {b l : Nat} {f : Nat → Int} (h : By w b l f) : Arg w (some ⟨b, 0, none⟩) l f := h.rd.arg
theorem Arg.less {w : World} {ao : Option Addr} {l m : Nat} {f : Nat → Int} (h : Arg w ao l f) (hm : m ≤ l) : Arg w ao m f := by
  rcases h with h | ⟨b, off, e, hr⟩
  · exact Or.inl (by omega)
  · exact Or.inr ⟨b, off, e, hr.1, fun i hi => hr.2 i (by omega)⟩
theorem Arg.nil (w : World) (ao : Option Addr) (f : Nat → Int) : Arg w ao 0 f := Or.inl rfl
theorem Arg.grown {w w' : World} {ao : Option Addr} {l : Nat} {f : Nat → Int} {row : Option Nat} (h : Arg w ao l f) (g : w.grownBy w' row) (hne : ∀ b off, ao = some ⟨b, off, none⟩ → some b ≠ row) : Arg w' ao l f := by
  rcases h with h | ⟨b, off, e, hr⟩
  · exact Or.inl h
  · exact Or.inr ⟨b, off, e, hr.kept g (hne b off e)⟩
theorem Arg.congr {w : World} {ao : Option Addr} {l : Nat} {f f' : Nat → Int} (h : Arg w ao l f) (e : ∀ i, i < l → f i = f' i) : Arg w ao l f' := by
  rcases h with h | ⟨b, off, e', hr⟩
  · exact Or.inl h
  · exact Or.inr ⟨b, off, e', hr.1, fun i hi => by rw [← e i hi]; exact hr.2 i hi⟩

theorem kind_eq (k n : Int) (hn : 0 < n) : (k.tmod n + n) % n = k % n := by
  rw [Int.add_emod_right, Int.tmod_eq_emod]
  split
  · simp
  · rw [Int.natAbs_of_nonneg (by omega), Int.sub_emod_right, Int.emod_emod]
theorem kind_any (k n : Int) (h0 : 0 < n) (h1 : n < 4611686018427387904) (hk0 : -9223372036854775808 ≤ k) (hk1 : k < 9223372036854775808) (w : World) :
    Calls Try.prog 24 #[.int .i64 k, .int .i64 n] w fun e w' => e = .returned (.int .i64 (k % n)) ∧ w' = w := by
  have HE : Hid _ := kind_eq k n h0
  have h2 : -n < k.tmod n := Int.lt_tmod_of_pos k h0
  have h3 : k.tmod n < n := Int.tmod_lt_of_pos k h0
  go_enter Try.func24, Try.ntmps24
  go_wp2
  go_ret
  exact ⟨ret_int HE.out, rfl⟩
theorem same_any {w : World} {a1 a2 : Option Addr} {l c1 c2 : Nat} {f : Nat → Int} (hl : l ≤ maxLen) (h1 : Arg w a1 l f) (h2 : Arg w a2 l f) :
    Calls Try.prog 21 #[.slice a1 l c1, .slice a2 l c2] w fun e w' => e = .returned (.bool true) ∧ w.grownBy w' none := by
  have H1 : Hid (Arg w a1 l f) := h1
  have H2 : Hid (Arg w a2 l f) := h2
  clear h1 h2
  unfold maxLen at hl
  go_enter Try.func21, Try.ntmps21
  go_wp2
  go_loopw [5] (fun i wr => ∃ k : Nat, k ≤ l ∧ i = .int .i64 k ∧ w.grownBy wr none) (fun i _ => l - (intOf i).toNat)
  case atStart => exact ⟨0, by omega, rfl, World.grownBy.refl _ _⟩
  case round =>
    obtain ⟨k, hk, rfl, hb⟩ := hrel
    by_cases hlt : k < l
    · obtain ⟨b, o, rfl, hbs, hc⟩ := H1.out.lt (by omega)
      obtain ⟨b', o', rfl, hbs', hc'⟩ := H2.out.lt (by omega)
      have d1 := (hb.cell_far ⟨b, o + k, none⟩ hbs (by simp)).trans (hc k hlt)
      have d2 := (hb.cell_far ⟨b', o' + k, none⟩ hbs' (by simp)).trans (hc' k hlt)
      clear hc hc'
      generalize f k = v at *
      go_wp2
      go_quiet (fail)
      go_wp2
      go_roundw
      case rel => exact ⟨k + 1, by omega, by go_num, ⟨hb.os, hb.tape, hb.output, hb.size, hb.block⟩⟩
      case measure => simp [intOf]; omega
    · obtain rfl : k = l := by omega
      go_wp2
      go_ret
      exact ⟨rfl, hb⟩
end Go.Proofs.Ytbfagelmijimeaa
