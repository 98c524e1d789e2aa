/- The law AddrTables walked: of every row of spans that takes at most 2^47 - 4096 bytes addr.Tables answers as the reference does and leaves the spans, and the room behind them, as they were. -/
import Derived.Test.YthmcempfiimkkaaKeep
import Derived.Test.YthmcempfiimkkaaFewMath
import Derived.Test.YthmcempfiimkkaaRefM
namespace Go.Proofs.Ythmcempfiimkkaa
open Go.ChangeShapes Go.WideShapes Go.ChangeAt Go.RowKit
set_option linter.unusedVariables false

theorem rTables_any (b off cap : Nat) (xs : List (Int × Int)) (hx : ∀ s ∈ xs, fits s) (hm : xs.length ≤ maxLen) (ao : Option Addr) (w : World) (hr : xs = [] ∨ ao = some ⟨b, off, none⟩ ∧ Row w b off xs) :
    Calls Try.prog 20 #[.slice ao xs.length cap] w fun e w' => e = .returned (.tuple #[.int .i64 (tres xs).1, .int .i64 (tres xs).2]) ∧ Below w.heap.size w w' := by
  by_cases h1 : 1024 < xs.length
  · have e : tres xs = (0, 3) := by unfold tres; rw [if_pos h1]
    rw [e]
    refine (rTables_many ao cap xs.length h1 hm w).mono ?_
    rintro e w' ⟨rfl, rfl⟩
    exact ⟨rfl, Below.refl _ _⟩
  · by_cases h2 : xs.all mayS = true
    · rw [tres_val (by omega) (List.all_eq_true.1 h2)]
      exact rTables_ok b off cap xs hx (by omega) ao w hr (List.all_eq_true.1 h2)
    · have e : tres xs = (0, 2) := by unfold tres; rw [if_neg h1, if_neg h2]
      rw [e]
      refine rTables_bad b off cap xs hx (by omega) ao w hr ?_
      simp at h2
      obtain ⟨a, c, hs, hf⟩ := h2
      exact ⟨(a, c), hs, hf⟩
theorem Row.left {w : World} {b off : Nat} {xs ys : List (Int × Int)} (h : Row w b off (xs ++ ys)) : Row w b off xs :=
  ⟨h.1, fun i hi => by
    have := h.2 i (by rw [List.length_append]; omega)
    rw [List.getElem_append_left hi] at this
    exact this⟩
theorem lies_on {w w' : World} {b off : Nat} {ao : Option Addr} {xs : List (Int × Int)} (h : xs = [] ∨ ao = some ⟨b, off, none⟩ ∧ Row w b off xs) (hb : Below w.heap.size w w') : xs = [] ∨ ao = some ⟨b, off, none⟩ ∧ Row w' b off xs :=
  h.imp id (fun h => ⟨h.1, h.2.below hb⟩)

set_option maxHeartbeats 1000000 in
theorem tables_walk (b off cap : Nat) (xs : List (Int × Int)) (hx : ∀ s ∈ xs, fits s) (hreach : xs.length * 16 ≤ 140737488351232) (ao : Option Addr) (hcap0 : ao = none → cap = 0) (w : World) (hr : xs = [] ∨ ao = some ⟨b, off, none⟩ ∧ Row w b off xs) :
    Calls Try.prog 5 #[.slice ao xs.length cap] w fun e w' => e = .returned (.bool true) ∧ Below w.heap.size w w' := by
  have hm : xs.length ≤ maxLen := by unfold maxLen; omega
  have Hx : Hid _ := hx
  have Hr : Hid _ := hr
  have Hm : Hid _ := hm
  have Hc : Hid _ := hcap0
  clear hx hr hm hcap0
  go_enter Try.func5, Try.ntmps5
  go_wp2_with fail
  refine (spare_any b off cap xs hreach ao Hc.out w Hr.out).mono ?_
  rintro e w1 ⟨g, c, rfl, hc, hb1, hg⟩
  have HG : Hid (Row w1 g 0 (xs ++ marks 5)) := hg
  clear hg
  go_wp2_with fail
  refine (Tables_any g 0 c xs Hx.out Hm.out (some ⟨g, 0, none⟩) w1 (Or.inr ⟨rfl, HG.out.left⟩)).mono ?_
  rintro e w2 ⟨rfl, hb2⟩
  have hb12 : Below w.heap.size w w2 := hb1.trans (hb2.mono hb1.size)
  go_wp2_with fail
  refine (rTables_any b off cap xs Hx.out Hm.out ao w2 (lies_on Hr.out hb12)).mono ?_
  rintro e w3 ⟨rfl, hb3⟩
  have hb13 : Below w.heap.size w w3 := hb12.trans (hb3.mono hb12.size)
  have HG3 : Hid (Row w3 g 0 (xs ++ marks 5)) := (HG.out.below hb2).below hb3
  generalize tres xs = r at *
  obtain ⟨r1, r2⟩ := r
  go_wp2_with (first
    | (go_at_call 21; refine (kept_any b off cap g c xs hreach ao w3 (lies_on Hr.out hb13) hc HG3.out).mono ?_; rintro e w4 ⟨rfl, hb4⟩)
    | (go_at_call 13; refine (works_any _).mono ?_; rintro e w5 ⟨rfl, hb5⟩))
  go_ret
  exact ⟨rfl, (hb13.trans (hb4.mono hb13.size)).trans (hb5.mono (Nat.le_trans hb13.size hb4.size))⟩
end Go.Proofs.Ythmcempfiimkkaa
