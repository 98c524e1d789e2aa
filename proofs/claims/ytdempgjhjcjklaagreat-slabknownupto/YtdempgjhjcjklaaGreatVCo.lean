/- Lists of numbers copied and held against one another; lists of faults held against one another; no condition but the ranges named. -/
import Derived.Test.YtdempgjhjcjklaaGreatVQb
import Derived.Laws.AppendOwnNone
namespace Go.Proofs.YtdempgjhjcjklaaGreat
open Go.ChangeShapes Go.WideShapes Go.ChangeAt Go.RowKit
set_option linter.unusedVariables false

theorem Tryz.infoI : (Tryz.prog.info? 3).map (fun i => (i.zero, i.size, i.bytes)) = some (some (.int .i64 0), 1, 8) := by kernel_rfl
/-- Numbers as values. -/
def vals (l : Nat) (f : Nat → Int) : List Value := (List.range l).map fun i => .int .i64 (f i)
theorem vals_len (l : Nat) (f : Nat → Int) : (vals l f).length = l := by simp [vals]
theorem vals_get {l : Nat} {f : Nat → Int} {i : Nat} (hi : i < l) : (vals l f)[i]? = some (.int .i64 (f i)) := by simp [vals, hi]
theorem vals_one (l : Nat) (f : Nat → Int) : ∀ v ∈ vals l f, v.oneCell' = true := by
  intro v hv
  simp only [vals, List.mem_map] at hv
  obtain ⟨i, _, rfl⟩ := hv
  rfl
/-- What CopyInts gives: the same numbers, in memory of its own. -/
def Cpy (w : World) (l : Nat) (f : Nat → Int) (e : Ending) (w' : World) : Prop :=
  ∃ a c, e = .returned (.slice a l c) ∧ Arg w' a l f ∧ Below w.heap.size w w' ∧ (a = none → l = 0 ∧ c = 0) ∧ ∀ ad, a = some ad → ∃ g, ad = ⟨g, 0, none⟩ ∧ w.heap.size ≤ g ∧ g < w'.heap.size
theorem cpy_of {w w' : World} {l : Nat} {f : Nat → Int} {v : Value} (o : w'.ownsRow w.heap.size 3 1 v (0 + l) ([] ++ vals l f)) (g : w.grownBy w' (Value.slice none 0 0).ownBlock) : Cpy w l f (.returned v) w' := by
  rw [Nat.zero_add, List.nil_append] at o
  have hb : Below w.heap.size w w' := (Below.refl _ w).grown g (Nat.le_refl _) (fun k hk => by cases hk)
  obtain ⟨_, ⟨rfl, rfl⟩ | ⟨g', cap, cur, rfl, hb', hw, hc, hm, hs, ht⟩⟩ := o
  · exact ⟨none, 0, rfl, Or.inl rfl, hb, (fun _ => ⟨rfl, rfl⟩), (fun ad h => by cases h)⟩
  · have hlt : g' < w'.heap.size := (Array.getElem?_eq_some_iff.1 hw).1
    refine ⟨_, _, rfl, Or.inr ⟨g', 0, rfl, hlt, fun i hi => ?_⟩, hb, (fun h => by cases h), fun ad h => ⟨g', (by cases h; rfl), hb', hlt⟩⟩
    rw [cell_of_row w' g' (0 + i) _ 3 (0, 0) hw, Nat.zero_add, ← Array.getElem?_toList, ← vals_get hi, ← ht, Nat.mul_one, List.getElem?_take_of_lt hi]
theorem EqInts_any {w : World} {a1 a2 : Option Addr} {l c1 c2 : Nat} {f : Nat → Int} (hl : l * 8 ≤ 140737488351232) (h1 : Arg w a1 l f) (h2 : Arg w a2 l f) :
    Calls Tryz.prog 23 #[.slice a1 l c1, .slice a2 l c2] w (One (.bool true) w) := by
  have H1 : Hid (Arg w a1 l f) := h1
  have H2 : Hid (Arg w a2 l f) := h2
  clear h1 h2
  go_enter Tryz.func23, Tryz.ntmps23
  go_wp2
  go_loopw [5] (fun i wr => ∃ k : Nat, k ≤ l ∧ i = .int .i64 k ∧ ∃ m, wr = w.drewN m) (fun i _ => l - (intOf i).toNat)
  case atStart => exact ⟨0, by omega, rfl, 0, rfl⟩
  case round =>
    obtain ⟨k, hk, rfl, m, rfl⟩ := hrel
    by_cases hlt : k < l
    · obtain ⟨b, o, rfl, d1⟩ := H1.out.at' (Below.refl _ _) hlt
      obtain ⟨b', o', rfl, d2⟩ := H2.out.at' (Below.refl _ _) hlt
      have d1 : (w.drewN m).cell? ⟨b, o + k, none⟩ = some (.int .i64 (f k)) := d1
      have d2 : (w.drewN m).cell? ⟨b', o' + k, none⟩ = some (.int .i64 (f k)) := d2
      generalize f k = v at *
      go_wp2
      go_quiet (fail)
      go_wp2
      go_roundw
      case rel => exact ⟨k + 1, by omega, by go_num, m + nq, by first | rfl | simp [World.drewN_drewN]⟩
      case measure => simp [intOf]; omega
    · obtain rfl : k = l := by omega
      go_wp2
      go_ret
      exact ⟨rfl, below_drewN (Below.refl _ _) m⟩
end Go.Proofs.YtdempgjhjcjklaaGreat
