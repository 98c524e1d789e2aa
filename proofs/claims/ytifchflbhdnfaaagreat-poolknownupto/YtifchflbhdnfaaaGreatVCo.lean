/- Lists of numbers copied and held against one another; lists of faults held against one another; no condition but the ranges named. -/
import Derived.Test.YtifchflbhdnfaaaGreatVQb
import Derived.Laws.AppendOwnNone
namespace Go.Proofs.YtifchflbhdnfaaaGreat
open Go.ChangeShapes Go.WideShapes Go.ChangeAt Go.RowKit
set_option linter.unusedVariables false

theorem Tryz.infoI : (Tryz.prog.info? 3).map (fun i => (i.zero, i.size, i.bytes)) = some (some (.int .i64 0), 1, 8) := by kernel_rfl
/-- Numbers as values. -/
def vals (l : Nat) (f : Nat → Int) : List Value := (List.range l).map fun i => .int .i64 (f i)
theorem vals_len (l : Nat) (f : Nat → Int) : (vals l f).length = l := by simp [vals]
theorem vals_get {l : Nat} {f : Nat → Int} {i : Nat} (hi : i < l) : (vals l f)[i]? = some (.int .i64 (f i)) := by simp [vals, hi]
theorem vals_one (l : Nat) (f : Nat → Int) : ∀ v ∈ vals l f, v.oneCell' = true := by
  intro v hv
  simp only [vals, List.mem_map] at hv
  obtain ⟨i, _, rfl⟩ := hv
  rfl
/-- What CopyInts gives: the same numbers, in memory of its own. -/
def Cpy (w : World) (l : Nat) (f : Nat → Int) (e : Ending) (w' : World) : Prop :=
  ∃ a c, e = .returned (.slice a l c) ∧ Arg w' a l f ∧ Below w.heap.size w w' ∧ (a = none → l = 0 ∧ c = 0) ∧ ∀ ad, a = some ad → ∃ g, ad = ⟨g, 0, none⟩ ∧ w.heap.size ≤ g ∧ g < w'.heap.size
theorem cpy_of {w w' : World} {l : Nat} {f : Nat → Int} {v : Value} (o : w'.ownsRow w.heap.size 3 1 v (0 + l) ([] ++ vals l f)) (g : w.grownBy w' (Value.slice none 0 0).ownBlock) : Cpy w l f (.returned v) w' := by
  rw [Nat.zero_add, List.nil_append] at o
  have hb : Below w.heap.size w w' := (Below.refl _ w).grown g (Nat.le_refl _) (fun k hk => by cases hk)
  obtain ⟨_, ⟨rfl, rfl⟩ | ⟨g', cap, cur, rfl, hb', hw, hc, hm, hs, ht⟩⟩ := o
  · exact ⟨none, 0, rfl, Or.inl rfl, hb, (fun _ => ⟨rfl, rfl⟩), (fun ad h => by cases h)⟩
  · have hlt : g' < w'.heap.size := (Array.getElem?_eq_some_iff.1 hw).1
    refine ⟨_, _, rfl, Or.inr ⟨g', 0, rfl, hlt, fun i hi => ?_⟩, hb, (fun h => by cases h), fun ad h => ⟨g', (by cases h; rfl), hb', hlt⟩⟩
    rw [cell_of_row w' g' (0 + i) _ 3 (0, 0) hw, Nat.zero_add, ← Array.getElem?_toList, ← vals_get hi, ← ht, Nat.mul_one, List.getElem?_take_of_lt hi]
theorem CopyInts_any {w : World} {a : Option Addr} {l c : Nat} {f : Nat → Int} (hl : l * 8 ≤ 140737488351232) (h : Arg w a l f) (hn : a = none → l = 0 ∧ c = 0) :
    Calls Tryz.prog 21 #[.slice a l c] w (Cpy w l f) := by
  obtain ⟨i0, hi0, hz0, hz1, hz2⟩ := info_parts Tryz.infoI
  have o1 : w.ownsRow w.heap.size 3 1 (.slice none 0 0) 0 [] := World.ownsRow_nil _ _ _ _
  have HQ : Hid (∀ v w', w'.ownsRow w.heap.size 3 1 v (0 + l) ([] ++ vals l f) → w.grownBy w' (Value.slice none 0 0).ownBlock → Cpy w l f (.returned v) w') := fun v w' => cpy_of
  cases a with
  | none =>
    obtain ⟨rfl, rfl⟩ := hn rfl
    go_enter Tryz.func21, Tryz.ntmps21
    go_wp2_with (at_builtin; refine wpList_append_own_none rfl (.tmp 4) (.tmp 5) 25 rfl w.heap.size 3 i0 1 Tryz.underlying25 hi0 (.slice none 0 0) 0 [] rfl o1 rfl ?_)
    go_ret
    exact HQ.out _ _ o1 (World.grownBy.refl _ _)
  | some ad =>
    have HC : Hid (∀ j u, (vals l f)[j]? = some u → w.cell? (ad.add j) = some u) := by
      intro j u hu
      have hj : j < l := by have := (List.getElem?_eq_some_iff.1 hu).1; rwa [vals_len] at this
      obtain ⟨b, off, e, hc⟩ := h.at' (Below.refl _ _) hj
      cases e
      rw [vals_get hj] at hu
      rw [Go.WideShapes.add_plain, hc]
      exact hu
    have HL : Hid ((vals l f).length = l * 1) := by unfold Hid; rw [vals_len]; omega
    have HV : Hid (∀ u ∈ vals l f, u.oneCell' = true) := vals_one l f
    clear h hn
    generalize vals l f = xs at *
    go_enter Tryz.func21, Tryz.ntmps21
    go_wp2_with (at_builtin; refine wpList_append_own _ rfl (.tmp 4) (.tmp 5) 25 rfl w.heap.size 3 i0 _ 1 8 Tryz.underlying25 hi0 hz0 hz1 hz2 rfl (by decide) (.slice none 0 0) 0 [] rfl o1 ad l c xs rfl HL.out HC.out HV.out (by unfold maxLen; omega) (by omega) (Nat.le_refl _) ?_; intro v1 w1 o1' gr1 nil1)
    go_ret
    exact HQ.out _ _ o1' gr1
theorem EqInts_any {w : World} {a1 a2 : Option Addr} {l c1 c2 : Nat} {f : Nat → Int} (hl : l * 8 ≤ 140737488351232) (h1 : Arg w a1 l f) (h2 : Arg w a2 l f) :
    Calls Tryz.prog 17 #[.slice a1 l c1, .slice a2 l c2] w (One (.bool true) w) := by
  have H1 : Hid (Arg w a1 l f) := h1
  have H2 : Hid (Arg w a2 l f) := h2
  clear h1 h2
  go_enter Tryz.func17, Tryz.ntmps17
  go_wp2
  go_loopw [5] (fun i wr => ∃ k : Nat, k ≤ l ∧ i = .int .i64 k ∧ ∃ m, wr = w.drewN m) (fun i _ => l - (intOf i).toNat)
  case atStart => exact ⟨0, by omega, rfl, 0, rfl⟩
  case round =>
    obtain ⟨k, hk, rfl, m, rfl⟩ := hrel
    by_cases hlt : k < l
    · obtain ⟨b, o, rfl, d1⟩ := H1.out.at' (Below.refl _ _) hlt
      obtain ⟨b', o', rfl, d2⟩ := H2.out.at' (Below.refl _ _) hlt
      have d1 : (w.drewN m).cell? ⟨b, o + k, none⟩ = some (.int .i64 (f k)) := d1
      have d2 : (w.drewN m).cell? ⟨b', o' + k, none⟩ = some (.int .i64 (f k)) := d2
      generalize f k = v at *
      go_wp2
      go_quiet (fail)
      go_wp2
      go_roundw
      case rel => exact ⟨k + 1, by omega, by go_num, m + nq, by first | rfl | simp [World.drewN_drewN]⟩
      case measure => simp [intOf]; omega
    · obtain rfl : k = l := by omega
      go_wp2
      go_ret
      exact ⟨rfl, below_drewN (Below.refl _ _) m⟩
end Go.Proofs.YtifchflbhdnfaaaGreat
