/- The statement's own copy of the spans with marked room behind it, and its look whether they are as they were; what they were handed is left as it was. -/
import Derived.Test.YthmcempfiimkkaaSrt
import Derived.Test.YthmcempfiimkkaaBad
import Derived.Laws.AppendOwnNone
import Derived.Deep.AppendLies
import Derived.Deep.QuietTactic
import Derived.BigQuiet
namespace Go.Proofs.Ythmcempfiimkkaa
open Go.ChangeShapes Go.WideShapes Go.ChangeAt Go.RowKit
set_option linter.unusedVariables false

def marks (k : Nat) : List (Int × Int) := (List.range k).map fun i : Nat => ((-7 : Int), (i : Int))
theorem marks_len (k : Nat) : (marks k).length = k := by simp [marks]
theorem marks_snoc (k : Nat) : marks (k + 1) = marks k ++ [(-7, (k : Int))] := by simp [marks, List.range_succ]
theorem flat_app (xs ys : List (Int × Int)) : flat (xs ++ ys) = flat xs ++ flat ys := by simp [flat]
theorem flat_row {w : World} {b off : Nat} {xs : List (Int × Int)} (h : Row w b off xs) : ∀ j u, (flat xs)[j]? = some u → w.cell? ((⟨b, off, none⟩ : Addr).add j) = some u := by
  intro j u hj
  have hlt : j < xs.length * 2 := by
    have := (List.getElem?_eq_some_iff.1 hj).1
    rw [flat_length] at this; exact this
  rw [flat_get xs j hlt] at hj
  have hi : j / 2 < xs.length := by omega
  obtain ⟨c0, c1⟩ := h.2 (j / 2) hi
  rw [Go.WideShapes.add_plain]
  have e : xs.toArray[j / 2]! = xs[j / 2] := by rw [getElem!_pos xs.toArray (j / 2) (by simpa using hi)]; rfl
  rw [e] at hj
  rcases (show j % 2 = 0 ∨ j % 2 = 1 by omega) with h0 | h0
  · rw [h0] at hj
    have hj' : Value.int .i64 xs[j / 2].1 = u := by simpa [encS] using hj
    rw [show off + j = off + j / 2 * 2 by omega, c0, hj']
  · rw [h0] at hj
    have hj' : Value.int .i64 xs[j / 2].2 = u := by simpa [encS] using hj
    rw [show off + j = off + j / 2 * 2 + 1 by omega, c1, hj']

theorem flat_snoc (ys : List (Int × Int)) (s : Int × Int) : flat (ys ++ [s]) = flat ys ++ [.int .i64 s.1, .int .i64 s.2] := by simp [flat]
theorem row_of_owns {w : World} {base g cap : Nat} {ys : List (Int × Int)} (h : w.ownsRow base 49 2 (.slice (some ⟨g, 0, none⟩) ys.length cap) ys.length (flat ys)) : Row w g 0 ys := by
  rcases h.2 with ⟨hnil, _⟩ | ⟨g', cap', cur, hv, hbase, hb, h1, h2, h3, h4⟩
  · cases hnil
  · cases hv
    have hH := holds_of_owns hb h4
    refine ⟨(Array.getElem?_eq_some_iff.1 hb).1, fun i hi => ?_⟩
    have hi' : i < ys.toArray.size := by simpa using hi
    have c0 := (hH.cell hi' (show 0 < 2 by omega)).1
    have c1 := (hH.cell hi' (show 1 < 2 by omega)).1
    rw [getElem!_pos ys.toArray i hi'] at c0 c1
    exact ⟨by simpa [encS] using c0, by simpa [encS] using c1⟩

set_option maxHeartbeats 1000000 in
theorem spare_any (b off cap : Nat) (xs : List (Int × Int)) (hreach : xs.length * 16 ≤ 140737488351232) (ao : Option Addr) (hcap0 : ao = none → cap = 0) (w : World) (hr : xs = [] ∨ ao = some ⟨b, off, none⟩ ∧ Row w b off xs) :
    Calls Try.prog 18 #[.slice ao xs.length cap] w fun e w' => ∃ g c, e = .returned (.slice (some ⟨g, 0, none⟩) xs.length c) ∧ xs.length + 5 ≤ c ∧ Below w.heap.size w w' ∧ Row w' g 0 (xs ++ marks 5) := by
  obtain ⟨i0, hi, hz0, hz1, hz2⟩ := info_parts Try.infoS
  cases ao with
  | none =>
    obtain rfl : cap = 0 := hcap0 rfl
    have hxs : xs = [] := by
      rcases hr with h | ⟨h, _⟩
      · exact h
      · cases h
    subst hxs
    clear hr hcap0
    have o1 : w.ownsRow w.heap.size 49 2 (.slice none 0 0) 0 [] := World.ownsRow_nil _ _ _ _
    show Calls Try.prog 18 #[.slice none 0 0] w _
    go_enter Try.func18, Try.ntmps18
    go_wp2_with (at_builtin; refine wpList_append_own_none rfl (.tmp 5) (.tmp 6) 33 rfl w.heap.size 49 i0 2 Try.underlying33 hi (.slice none 0 0) 0 [] rfl o1 rfl ?_)
    go_loopw [3, 4] (fun v i wr => ∃ k : Nat, k ≤ 5 ∧ i = .int .i64 k ∧ wr.ownsRow w.heap.size 49 2 v k (flat (marks k)) ∧ Below w.heap.size w wr) (fun _ i _ => 5 - (intOf i).toNat)
    case atStart => exact ⟨0, by omega, rfl, o1, Below.refl _ _⟩
    case round =>
      rename_i v _ _
      clear o1
      obtain ⟨k, hk, rfl, o, hb⟩ := hrel
      have hsz := hb.size
      by_cases hlt : k < 5
      · go_wp2_with (at_builtin; refine wpList_append_own _ rfl (.tmp 12) (.tmp 15) 33 rfl w.heap.size 49 i0 _ 2 16 Try.underlying33 hi hz0 hz1 hz2 rfl (by decide) _ k _ rfl (o.alloc _) ⟨wr.heap.size, 0, none⟩ 1 1 [.int .i64 (-7), .int .i64 k] rfl rfl (cell_two_new _ _ _ _) (by intro u hu; simp at hu; rcases hu with rfl | rfl <;> rfl) (by unfold maxLen; omega) (by omega) (by simp; omega) ?_; intro v2 w2 o2 gr2 nil2)
        go_roundw
        case rel =>
          refine ⟨k + 1, by omega, by go_num, ?_, (hb.alloc hsz _).grown gr2 (by simp; omega) (fun k hk => (o.lt k hk).1)⟩
          rw [marks_snoc, flat_snoc]
          exact o2
        case measure => simp [intOf]; omega
      · obtain rfl : k = 5 := by omega
        obtain ⟨g, c, rfl, hbg, hgl⟩ := o.form (by omega)
        have hcap : 5 ≤ c := by
          rcases o.2 with ⟨h, _⟩ | ⟨_, _, _, h, _, _, h1, _⟩
          · cases h
          · cases h; exact h1
        have hcm : c ≤ maxLen := by
          rcases o.2 with ⟨h, _⟩ | ⟨_, _, _, h, _, _, _, h1, _⟩
          · cases h
          · cases h; exact h1
        unfold maxLen at hcm
        have HO : Hid _ := o
        clear o
        go_wp2
        go_ret
        refine ⟨g, c, rfl, by simpa using hcap, hb, ?_⟩
        have o := HO.out
        rw [show 5 = (marks 5).length by simp [marks]] at o
        exact row_of_owns o
  | some ad =>
    have hcells : ∀ j u, (flat xs)[j]? = some u → w.cell? (ad.add j) = some u := by
      rcases hr with rfl | ⟨h, hr⟩
      · intro j u h; simp [flat] at h
      · cases h; exact flat_row hr
    clear hr hcap0
    go_enter Try.func18, Try.ntmps18
    go_wp2_with (at_builtin; refine wpList_append_own _ rfl (.tmp 5) (.tmp 6) 33 rfl w.heap.size 49 i0 _ 2 16 Try.underlying33 hi hz0 hz1 hz2 rfl (by decide) (.slice none 0 0) 0 [] rfl (World.ownsRow_nil _ _ _ _) ad xs.length cap (flat xs) rfl (flat_length xs) hcells (by intro u hu; simp [flat] at hu; obtain ⟨_, _, _, h | h⟩ := hu <;> subst h <;> rfl) (by unfold maxLen; omega) (by omega) (Nat.le_refl _) ?_; intro v1 w1 o1 gr1 nil1)
    have hb1 : Below w.heap.size w w1 := (Below.refl _ _).grown gr1 (Nat.le_refl _) (fun k h => by cases h)
    rw [Nat.zero_add] at o1
    clear gr1 nil1 hcells
    go_wp2
    go_loopw [3, 4] (fun v i wr => ∃ k : Nat, k ≤ 5 ∧ i = .int .i64 k ∧ wr.ownsRow w.heap.size 49 2 v (xs.length + k) (flat (xs ++ marks k)) ∧ Below w.heap.size w wr) (fun _ i _ => 5 - (intOf i).toNat)
    case atStart => exact ⟨0, by omega, rfl, by simpa [marks] using o1, hb1⟩
    case round =>
      rename_i v _ _
      clear o1 hb1
      obtain ⟨k, hk, rfl, o, hb⟩ := hrel
      have hsz := hb.size
      by_cases hlt : k < 5
      · go_wp2_with (at_builtin; refine wpList_append_own _ rfl (.tmp 12) (.tmp 15) 33 rfl w.heap.size 49 i0 _ 2 16 Try.underlying33 hi hz0 hz1 hz2 rfl (by decide) _ (xs.length + k) _ rfl (o.alloc _) ⟨wr.heap.size, 0, none⟩ 1 1 [.int .i64 (-7), .int .i64 k] rfl rfl (cell_two_new _ _ _ _) (by intro u hu; simp at hu; rcases hu with rfl | rfl <;> rfl) (by unfold maxLen; omega) (by omega) (by simp; omega) ?_; intro v2 w2 o2 gr2 nil2)
        go_roundw
        case rel =>
          refine ⟨k + 1, by omega, by go_num, ?_, (hb.alloc hsz _).grown gr2 (by simp; omega) (fun k hk => (o.lt k hk).1)⟩
          rw [marks_snoc, ← List.append_assoc, flat_snoc, ← Nat.add_assoc]
          exact o2
        case measure => simp [intOf]; omega
      · obtain rfl : k = 5 := by omega
        obtain ⟨g, c, rfl, hbg, hgl⟩ := o.form (by omega)
        have hcap : xs.length + 5 ≤ c := by
          rcases o.2 with ⟨h, _⟩ | ⟨_, _, _, h, _, _, h1, _⟩
          · cases h
          · cases h; exact h1
        have hcm : c ≤ maxLen := by
          rcases o.2 with ⟨h, _⟩ | ⟨_, _, _, h, _, _, _, h1, _⟩
          · cases h
          · cases h; exact h1
        unfold maxLen at hcm
        have HO : Hid _ := o
        clear o
        go_wp2
        go_ret
        refine ⟨g, c, rfl, hcap, hb, ?_⟩
        have o := HO.out
        rw [show xs.length + 5 = (xs ++ marks 5).length by simp [marks]] at o
        exact row_of_owns o

set_option maxHeartbeats 1000000 in
theorem kept_any (b off cap g c : Nat) (xs : List (Int × Int)) (hreach : xs.length * 16 ≤ 140737488351232) (ao : Option Addr) (w : World) (hr : xs = [] ∨ ao = some ⟨b, off, none⟩ ∧ Row w b off xs) (hc : xs.length + 5 ≤ c) (hg : Row w g 0 (xs ++ marks 5)) :
    Calls Try.prog 21 #[.slice (some ⟨g, 0, none⟩) xs.length c, .slice ao xs.length cap] w fun e w' => e = .returned (.bool true) ∧ Below w.heap.size w w' := by
  have Hr : Hid _ := hr
  have Hg : Hid (Row w g 0 (xs ++ marks 5)) := hg
  clear hr hg
  go_enter Try.func21, Try.ntmps21
  go_wp2
  go_loopw [6] (fun i wr => ∃ k : Nat, k ≤ xs.length + 5 ∧ i = .int .i64 k ∧ Below w.heap.size w wr) (fun i _ => xs.length + 5 - (intOf i).toNat)
  case atStart => exact ⟨0, by omega, rfl, Below.refl _ _⟩
  case round =>
    obtain ⟨k, hk, rfl, hb⟩ := hrel
    by_cases hlt : k < xs.length + 5
    · obtain ⟨hgs, hgc⟩ := Hg.out
      obtain ⟨c1, c2⟩ := hgc k (by simp [marks]; omega)
      have d1 := ((bcell hb).1 _ _ hgs).trans c1
      have d2 := ((bcell hb).1 _ _ hgs).trans c2
      clear c1 c2 hgc
      by_cases hin : k < xs.length
      · obtain ⟨rfl, hbk, hcc⟩ := (Hr.out).resolve_left (fun h => by rw [h] at hin; simp at hin)
        obtain ⟨c1, c2⟩ := hcc k hin
        have e1 := ((bcell hb).1 _ _ hbk).trans c1
        have e2 := ((bcell hb).1 _ _ hbk).trans c2
        have hq : (xs ++ marks 5)[k]'(by simp [marks]; omega) = xs[k] := List.getElem_append_left hin
        rw [hq] at d1 d2
        clear c1 c2 hcc hq
        generalize xs[k].1 = p at *
        generalize xs[k].2 = n at *
        rw [Nat.zero_add] at d1 d2
        have hin' : (k : Int) < (xs.length : Int) := by omega
        have hge : decide (xs.length ≤ k) = false := by simp; omega
        have hlt' : (k : Int) < ((xs.length + 5 : Nat) : Int) := by omega
        go_wp2
        go_quiet (fail)
        go_wp2
        go_roundw
        case rel => exact ⟨k + 1, by omega, by go_num, ⟨hb.os, hb.tape, hb.output, hb.size, hb.block⟩⟩
        case measure => simp [intOf]; omega
      · have hq : (xs ++ marks 5)[k]'(by simp [marks]; omega) = (-7, (k : Int) - (xs.length : Int)) := by
          rw [List.getElem_append_right (by omega)]
          simp [marks]
          omega
        rw [hq, Nat.zero_add] at d1 d2
        simp only at d1 d2
        have hge : xs.length ≤ k := by omega
        have hge' : (xs.length : Int) ≤ (k : Int) := by omega
        have hin' : decide (k < xs.length) = false := by simp; omega
        have hlt' : (k : Int) < ((xs.length + 5 : Nat) : Int) := by omega
        clear hq
        go_wp2
        go_quiet (fail)
        go_wp2
        go_roundw
        case rel => exact ⟨k + 1, by omega, by go_num, ⟨hb.os, hb.tape, hb.output, hb.size, hb.block⟩⟩
        case measure => simp [intOf]; omega
    · obtain rfl : k = xs.length + 5 := by omega
      go_wp2
      go_ret
      exact ⟨rfl, hb⟩
end Go.Proofs.Ythmcempfiimkkaa
