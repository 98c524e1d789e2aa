/- What the reference's Tables gives back over a row of spans that lies in memory: an error, or the count of the tables that the spans need; nothing that was there turns. -/
import Derived.Test.YthmcempfiimkkaaCnt
import Derived.Test.YthmcempfiimkkaaRefs
import Derived.Test.YthmcempfiimkkaaBad
import Derived.Deep.QuietTactic
import Derived.BigQuiet
namespace Go.Proofs.Ythmcempfiimkkaa
open Go.ChangeShapes Go.WideShapes Go.ChangeAt Go.RowKit
set_option linter.unusedVariables false

theorem Try.infoB : (Try.prog.info? 4).map (fun i => (i.zero, i.size, i.bytes)) = some (some (.bool false), 1, 1) := by kernel_rfl

theorem May_any (p n : Int) (h1 : p ≤ 9223372036854775807) (h2 : n ≤ 9223372036854775807) (w : World) :
    Calls Try.prog 43 #[.agg #[.int .i64 p, .int .i64 n]] w fun e w' => e = .returned (.bool (mayS (p, n))) ∧ w' = w.alloc (.cells #[.int .i64 p, .int .i64 n] 49) := by
  by_cases c1 : 0 ≤ p
  · by_cases c2 : 0 ≤ n
    · by_cases c3 : p ≤ 1048576
      · have e : mayS (p, n) = decide (n ≤ 1048576 - p) := by rw [Bool.eq_iff_iff]; simp [mayS]; omega
        rw [e]
        go_enter Try.func43, Try.ntmps43
        go_wp2
        go_ret
        exact ⟨rfl, rfl⟩
      · have e : mayS (p, n) = false := by simp [mayS]; omega
        rw [e]
        go_enter Try.func43, Try.ntmps43
        go_wp2
        go_ret
        exact ⟨rfl, rfl⟩
    · have e : mayS (p, n) = false := by simp [mayS, c2]
      rw [e]
      go_enter Try.func43, Try.ntmps43
      go_wp2
      go_ret
      exact ⟨rfl, rfl⟩
  · have e : mayS (p, n) = false := by simp [mayS, c1]
    rw [e]
    go_enter Try.func43, Try.ntmps43
    go_wp2
    go_ret
    exact ⟨rfl, rfl⟩

theorem rTables_many (ao : Option Addr) (cap n : Nat) (hn : 1024 < n) (hm : n ≤ maxLen) (w : World) :
    Calls Try.prog 20 #[.slice ao n cap] w fun e w' => e = .returned (.tuple #[.int .i64 0, .int .i64 3]) ∧ w' = w := by
  unfold maxLen at hm
  go_enter Try.func20, Try.ntmps20
  go_wp2_with fail
  go_ret2
  exact ⟨rfl, rfl⟩

set_option maxHeartbeats 2000000 in
theorem rTables_bad (b off cap : Nat) (xs : List (Int × Int)) (hx : ∀ s ∈ xs, fits s) (hn : xs.length ≤ 1024) (ao : Option Addr) (w : World) (hr : xs = [] ∨ ao = some ⟨b, off, none⟩ ∧ Row w b off xs) (hv : ∃ s ∈ xs, mayS s = false) :
    Calls Try.prog 20 #[.slice ao xs.length cap] w fun e w' => e = .returned (.tuple #[.int .i64 0, .int .i64 2]) ∧ Below w.heap.size w w' := by
  have Hx : Hid _ := hx
  have Hr : Hid _ := hr
  have Hv : Hid _ := hv
  clear hx hr hv
  go_enter Try.func20, Try.ntmps20
  go_wp2
  go_loopw [4] (fun i wr => ∃ k : Nat, k ≤ xs.length ∧ i = .int .i64 k ∧ Below w.heap.size w wr ∧ Hid (∀ s ∈ xs.take k, mayS s = true)) (fun i _ => xs.length - (intOf i).toNat)
  case atStart => exact ⟨0, Nat.zero_le _, rfl, Below.refl _ _, fun s hs => by simp at hs⟩
  case round =>
    obtain ⟨k, hk, rfl, hb, HM⟩ := hrel
    by_cases hlt : k < xs.length
    · obtain ⟨rfl, hbk, hc⟩ := (Hr.out).resolve_left (fun h => by rw [h] at hlt; simp at hlt)
      obtain ⟨c1, c2⟩ := hc k hlt
      have c1' := ((bcell hb).1 _ _ hbk).trans c1
      have c2' := ((bcell hb).1 _ _ hbk).trans c2
      obtain ⟨f1, f2⟩ := Hx.out xs[k] (List.getElem_mem _)
      have HS : Hid (mayS (xs[k].1, xs[k].2) = true → ∀ s ∈ xs.take (k + 1), mayS s = true) := fun hm => may_snoc hlt HM.out hm
      clear HM c1 c2 hc
      generalize xs[k].1 = p at *
      generalize xs[k].2 = n at *
      cases hm : mayS (p, n) with
      | true =>
        go_wp2_with (go_at_call 43; refine (May_any _ _ f1 f2 _).mono ?_; rintro e w' ⟨rfl, rfl⟩)
        go_roundw
        case rel => exact ⟨k + 1, by omega, by go_num, hb.alloc hb.size _, HS.out hm⟩
        case measure => simp [intOf]; omega
      | false =>
        go_wp2_with (go_at_call 43; refine (May_any _ _ f1 f2 _).mono ?_; rintro e w' ⟨rfl, rfl⟩)
        go_ret2
        exact ⟨rfl, hb.alloc hb.size _⟩
    · obtain rfl : k = xs.length := by omega
      obtain ⟨s, hs, hf⟩ := Hv.out
      have := HM.out s (by rw [List.take_length]; exact hs)
      rw [hf] at this
      cases this
end Go.Proofs.Ythmcempfiimkkaa
