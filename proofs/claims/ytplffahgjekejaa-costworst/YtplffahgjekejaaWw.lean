/- CostWorst: of all costs and shapes the program's Worst, at each number of a kind, and Most and the document's answer are alike. -/
import Derived.Test.YtplffahgjekejaaLw
namespace Go.Proofs.Ytplffahgjekejaa
open Go.ChangeShapes Go.WideShapes Go.ChangeAt Go.RowKit
set_option linter.unusedVariables false

set_option maxRecDepth 20000 in
set_option maxHeartbeats 1000000 in
theorem worst_any (c : Co) (s : Sh) (w : World) : Calls Try.prog 4 #[.agg #[.int .u64 c.l1, .int .u64 c.llc, .int .u64 c.mi, .int .u64 c.fa, .int .u64 c.st, .int .u64 c.di], .agg #[.int .i64 s.im, .int .i64 s.us, .int .i64 s.li, .int .i64 s.no]] w fun e w' => e = .returned (.bool true) ∧ Below w.heap.size w w' := by
  obtain ⟨T, et, T1, T2⟩ : ∃ (T : Nat → Int) (et : Int), (∀ (q : Nat) w, Hid (Calls Try.prog 15 #[.agg #[.int .u64 c.l1, .int .u64 c.llc, .int .u64 c.mi, .int .u64 c.fa, .int .u64 c.st, .int .u64 c.di], .agg #[.int .i64 s.im, .int .i64 s.us, .int .i64 s.li, .int .i64 s.no], .int .u8 (q : Int)] w (Two (T q) et w))) ∧ (∀ (q : Nat) w, Hid (Calls Try.prog 16 #[.agg #[.int .u64 c.l1, .int .u64 c.llc, .int .u64 c.mi, .int .u64 c.fa, .int .u64 c.st, .int .u64 c.di], .agg #[.int .i64 s.im, .int .i64 s.us, .int .i64 s.li, .int .i64 s.no], .int .u8 (q : Int)] w (Two (T q) et w))) := by
    by_cases h : ers c s = 0
    · obtain ⟨h1, h2⟩ := ers_zero h
      exact ⟨bd c s, 0, fun q w => by have := Worst_ok c s h1 h2 (q : Int) (by omega) w; rwa [Int.toNat_natCast] at this, fun q w => by have := rWorst_ok c s h1 h2 (q : Int) (by omega) w; rwa [Int.toNat_natCast] at this⟩
    · exact ⟨fun _ => 0, _, fun q w => Worst_no c s _ h w, fun q w => rWorst_no c s _ h w⟩
  obtain ⟨v, em, S1, S2⟩ : ∃ (v em : Int), (∀ w, Hid (Calls Try.prog 17 #[.agg #[.int .u64 c.l1, .int .u64 c.llc, .int .u64 c.mi, .int .u64 c.fa, .int .u64 c.st, .int .u64 c.di], .agg #[.int .i64 s.im, .int .i64 s.us, .int .i64 s.li, .int .i64 s.no]] w (Two v em w))) ∧ (∀ w, Hid (Calls Try.prog 18 #[.agg #[.int .u64 c.l1, .int .u64 c.llc, .int .u64 c.mi, .int .u64 c.fa, .int .u64 c.st, .int .u64 c.di], .agg #[.int .i64 s.im, .int .i64 s.us, .int .i64 s.li, .int .i64 s.no]] w (Two v em w))) := by
    by_cases h : ers c s = 0
    · obtain ⟨h1, h2⟩ := ers_zero h
      exact ⟨_, 0, fun w => Most_ok c s h1 h2 w, fun w => rMost_ok c s h1 h2 w⟩
    · exact ⟨0, _, fun w => Most_no c s h w, fun w => rMost_no c s h w⟩
  have B0 : Hid (Bx w ((w.alloc (.cells #[.int .u64 c.l1, .int .u64 c.llc, .int .u64 c.mi, .int .u64 c.fa, .int .u64 c.st, .int .u64 c.di] 24)).alloc (.cells #[.int .i64 s.im, .int .i64 s.us, .int .i64 s.li, .int .i64 s.no] 35)) w.heap.size (w.heap.size + 1) c s) := bx_new w c s
  go_enter Try.func4, Try.ntmps4
  go_wp2_with fail
  generalize ((w.alloc (.cells #[.int .u64 c.l1, .int .u64 c.llc, .int .u64 c.mi, .int .u64 c.fa, .int .u64 c.st, .int .u64 c.di] 24)).alloc (.cells #[.int .i64 s.im, .int .i64 s.us, .int .i64 s.li, .int .i64 s.no] 35)) = w0 at *
  go_loopw [5] (fun i wr => ∃ k : Nat, k ≤ 256 ∧ i = .int .i64 k ∧ Bx w wr w.heap.size (w.heap.size + 1) c s) (fun i _ => 256 - (iv i).toNat)
  case atStart => exact ⟨0, by omega, rfl, B0.out⟩
  case round =>
    clear B0
    obtain ⟨k, hk, rfl, hB⟩ := hrel
    have HB : Hid (Bx w wr w.heap.size (w.heap.size + 1) c s) := hB
    clear hB
    obtain ⟨_, c0, c1, c2, c3, c4, c5⟩ := HB.out.cs
    obtain ⟨_, s0, s1, s2, s3⟩ := HB.out.ss
    by_cases hlt : k < 256
    · have Tk1 := T1 k
      have Tk2 := T2 k
      generalize T k = v at *
      clear T1 T2
      go_wp2_with fail
      refine (Tk1 _).out.mono ?_
      rintro e w5 ⟨rfl, k5⟩
      have B5 : Hid (Bx w w5 w.heap.size (w.heap.size + 1) c s) := HB.out.below k5
      clear k5 c0 c1 c2 c3 c4 c5 s0 s1 s2 s3 HB
      obtain ⟨_, c0, c1, c2, c3, c4, c5⟩ := B5.out.cs
      obtain ⟨_, s0, s1, s2, s3⟩ := B5.out.ss
      go_wp2_with fail
      refine (Tk2 _).out.mono ?_
      rintro e w6 ⟨rfl, k6⟩
      have B6 : Hid (Bx w w6 w.heap.size (w.heap.size + 1) c s) := B5.out.below k6
      clear k6 c0 c1 c2 c3 c4 c5 s0 s1 s2 s3 B5
      go_wp2_with fail
      go_roundw
      case rel => exact ⟨k + 1, by omega, by go_num, B6.out⟩
      case measure => simp [iv]; omega
    · go_wp2_with fail
      refine (S1 _).out.mono ?_
      rintro e w5 ⟨rfl, k5⟩
      have B5 : Hid (Bx w w5 w.heap.size (w.heap.size + 1) c s) := HB.out.below k5
      clear k5 c0 c1 c2 c3 c4 c5 s0 s1 s2 s3 HB
      obtain ⟨_, c0, c1, c2, c3, c4, c5⟩ := B5.out.cs
      obtain ⟨_, s0, s1, s2, s3⟩ := B5.out.ss
      go_wp2_with fail
      refine (S2 _).out.mono ?_
      rintro e w6 ⟨rfl, k6⟩
      have B6 : Hid (Bx w w6 w.heap.size (w.heap.size + 1) c s) := B5.out.below k6
      clear k6 c0 c1 c2 c3 c4 c5 s0 s1 s2 s3 B5
      go_wp2_with fail
      refine (works_any _).mono ?_
      rintro e w7 ⟨rfl, k7⟩
      have FIN : Hid (Below w.heap.size w w7) := B6.out.be.trans (k7.mono B6.out.be.size)
      clear k7
      go_wp2
      go_ret
      exact ⟨rfl, FIN.out⟩
end Go.Proofs.Ytplffahgjekejaa
