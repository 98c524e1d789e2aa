/- What the document's answer says of a configuration's sizes, turns, and of a partition's colours; no condition but those named. -/
import Derived.Test.YtcmgjinjfaialaaGreatP1
import Derived.Deep.RegionHeld3
import Derived.Deep.RegionWith
namespace Go.Proofs.YtcmgjinjfaialaaGreat
open Go.ChangeShapes Go.WideShapes Go.ChangeAt Go.RowKit
set_option linter.unusedVariables false

theorem pwr_C {n h : Int} (hh : h ≤ 4096) : pwH n h = true ↔ pwr n = true ∧ n ≤ h := by rw [← pwr_pow hh]; simp
set_option maxHeartbeats 1000000 in
theorem machine_any {w : World} {a : Ad} {c : Cf} (hc : Cin w a c) : Calls Tryz.prog 45 #[.agg #[.int .i64 c.F, .int .i64 c.C, .int .i64 c.W, .int .i64 c.S, .int .i64 c.V, .int .i64 c.T, .int .u64 c.k.l1, .int .u64 c.k.llc, .int .u64 c.k.mi, .int .u64 c.k.fa, .int .u64 c.k.st, .int .u64 c.k.di, .int .u64 c.sl, .int .u64 c.pd, .int .u64 c.ft, .slice a.ta c.tn a.tc, .slice a.pa c.pn a.pc]] w (One (.bool (!mOk c)) w) := by
  have hb := below_new w (.cells #[.int .i64 c.F, .int .i64 c.C, .int .i64 c.W, .int .i64 c.S, .int .i64 c.V, .int .i64 c.T, .int .u64 c.k.l1, .int .u64 c.k.llc, .int .u64 c.k.mi, .int .u64 c.k.fa, .int .u64 c.k.st, .int .u64 c.k.di, .int .u64 c.sl, .int .u64 c.pd, .int .u64 c.ft, .slice a.ta c.tn a.tc, .slice a.pa c.pn a.pc] 28)
  have D1 : Hid (∀ w, Calls Tryz.prog 69 #[.int .i64 c.C] w fun e w' => e = .returned (.bool (pwr c.C)) ∧ w' = w) := fun w => Power_any c.C hc.C0 hc.C1 w
  have D2 : Hid (∀ w, Calls Tryz.prog 69 #[.int .i64 c.S] w fun e w' => e = .returned (.bool (pwr c.S)) ∧ w' = w) := fun w => Power_any c.S hc.S0 hc.S1 w
  have HM : Hid (mOk c = true ↔ (pwr c.C = true ∧ c.C ≤ 16) ∧ (1 ≤ c.F ∧ c.F ≤ 4096) ∧ c.F % c.C = 0 ∧ (pwr c.S = true ∧ c.S ≤ 4096) ∧ (1 ≤ c.W ∧ c.W ≤ 16) ∧ (1 ≤ c.V ∧ c.V ≤ 16) ∧ (1 ≤ c.T ∧ c.T ≤ 64) ∧ 1 ≤ (c.pn : Int) ∧ (c.pn : Int) ≤ 8) := by
    unfold Hid mOk
    simp only [Bool.and_eq_true, decide_eq_true_eq, inB_iff, pwr_C (show (16 : Int) ≤ 4096 by decide), pwr_C (show (4096 : Int) ≤ 4096 by decide)]
  have HC : Hid (pwr c.C = true → 0 < c.C) := fun h => by unfold pwr at h; simp at h; exact h.1
  clear hc
  have fin : ∀ {r : Bool} {w1 : World}, Below w.heap.size w w1 → (r = true ↔ ¬ mOk c = true) → One (.bool (!mOk c)) w (.returned (.bool r)) w1 := fun {r} {w1} hb h => ⟨ret_bool (by rw [Bool.eq_iff_iff, h]; simp), hb⟩
  have FIN : Hid (∀ {r : Bool} {w1 : World}, Below w.heap.size w w1 → (r = true ↔ ¬ mOk c = true) → One (.bool (!mOk c)) w (.returned (.bool r)) w1) := fin
  clear fin
  cases p1 : pwr c.C
  · have q1 : Hid (pwr c.C = false) := p1
    rw [p1] at D1
    clear p1
    go_enter Tryz.func45, Tryz.ntmps45
    go_wp2_with fail
    refine (D1.out _).mono ?_
    rintro e w1 ⟨rfl, rfl⟩
    go_wp2_with fail
    refine (D2.out _).mono ?_
    rintro e w2 ⟨rfl, rfl⟩
    cases p2 : pwr c.S
    · go_wp2
      go_ret
      exact FIN.out hb (by rw [HM.out, q1.out]; simp)
    · go_wp2
      all_goals (go_ret; exact FIN.out hb (by rw [HM.out, q1.out]; simp))
  · have hC := HC.out p1
    have q1 : Hid (pwr c.C = true) := p1
    have hC0 : ¬ c.C = 0 := by omega
    rw [p1] at D1
    clear p1
    by_cases hF : (c.C ≤ 16 ∧ 1 ≤ c.F ∧ c.F ≤ 4096)
    · obtain ⟨k1, k2, k3⟩ := hF
      have hm : c.F.tmod c.C = c.F % c.C := Int.tmod_eq_emod_of_nonneg (by omega)
      generalize c.F % c.C = r at *
      go_enter Tryz.func45, Tryz.ntmps45
      go_wp2_with fail
      refine (D1.out _).mono ?_
      rintro e w1 ⟨rfl, rfl⟩
      go_wp2_with fail
      refine (D2.out _).mono ?_
      rintro e w2 ⟨rfl, rfl⟩
      cases p2 : pwr c.S
      · go_wp2
        all_goals (go_ret; exact FIN.out hb (by rw [HM.out, p2]; simp))
      · have q2 : Hid (pwr c.S = true) := p2
        clear p2
        go_wp2
        all_goals (go_ret; exact FIN.out hb (by rw [HM.out, q1.out, q2.out]; simp; try omega))
    · have hF' : ¬ c.C ≤ 16 ∨ (c.C ≤ 16 ∧ ¬ 1 ≤ c.F) ∨ (c.C ≤ 16 ∧ 1 ≤ c.F ∧ ¬ c.F ≤ 4096) := by omega
      have HF : Hid (¬ (c.C ≤ 16 ∧ 1 ≤ c.F ∧ c.F ≤ 4096)) := hF
      clear hF
      rcases hF' with k | ⟨k1, k⟩ | ⟨k1, k2, k⟩
      all_goals
        go_enter Tryz.func45, Tryz.ntmps45
        go_wp2_with fail
        refine (D1.out _).mono ?_
        rintro e w1 ⟨rfl, rfl⟩
        go_wp2_with fail
        refine (D2.out _).mono ?_
        rintro e w2 ⟨rfl, rfl⟩
      all_goals
        cases p2 : pwr c.S
      all_goals
        go_wp2
      all_goals (go_ret; exact FIN.out hb (by have := HF.out; rw [HM.out]; simp; omega))
theorem rhas_any {w : World} {q : Option Addr} {l m : Nat} {f : Nat → Int} (hl : l * 8 ≤ 140737488351232) (hA : Arg w q l f) (v : Int) :
    Calls Tryz.prog 53 #[.slice q l m, .int .i64 v] w fun e w' => e = .returned (.bool (has l f v)) ∧ w' = w := by
  have HA : Hid (Arg w q l f) := hA
  clear hA
  go_enter Tryz.func53, Tryz.ntmps53
  go_wp2
  go_loopw [5] (fun i wr => ∃ k : Nat, k ≤ l ∧ i = .int .i64 k ∧ has k f v = false ∧ wr = w) (fun i _ => l - (intOf i).toNat)
  case atStart => exact ⟨0, by omega, rfl, has_zero f v, rfl⟩
  case round =>
    obtain ⟨k, hk, rfl, hs, rfl⟩ := hrel
    have HS : Hid (has k f v = false) := hs
    clear hs
    by_cases hlt : k < l
    · obtain ⟨b, o, rfl, d1⟩ := HA.out.at' (Below.refl _ _) hlt
      have HT : Hid (has (k + 1) f v = (has k f v || f k == v)) := has_succ k f v
      have HY : Hid (f k = v → has l f v = true) := fun h => has_iff.2 ⟨k, hlt, h⟩
      generalize f k = y at *
      by_cases hy : y = v
      · go_wp2
        go_ret
        exact ⟨ret_bool (HY.out hy).symm, rfl⟩
      · go_wp2
        go_roundw
        case rel => exact ⟨k + 1, by omega, by go_num, by rw [HT.out, HS.out]; simp [hy], by first | rfl | trivial⟩
        case measure => simp [intOf]; omega
    · obtain rfl : k = l := by omega
      go_wp2
      go_ret
      exact ⟨ret_bool HS.out.symm, rfl⟩
end Go.Proofs.YtcmgjinjfaialaaGreat
