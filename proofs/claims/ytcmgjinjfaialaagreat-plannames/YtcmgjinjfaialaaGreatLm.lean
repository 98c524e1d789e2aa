/- Most of the document's answer for costs; no condition but that costs and shapes may be. -/
import Derived.Test.YtcmgjinjfaialaaGreatRf
namespace Go.Proofs.YtcmgjinjfaialaaGreat
open Go.ChangeShapes Go.WideShapes Go.ChangeAt Go.RowKit
set_option linter.unusedVariables false

theorem rWorst_no (c : Co) (s : Sh) (q : Int) (h : ers c s ≠ 0) (w : World) : Calls Tryz.prog 94 #[.agg #[.int .u64 c.l1, .int .u64 c.llc, .int .u64 c.mi, .int .u64 c.fa, .int .u64 c.st, .int .u64 c.di], .agg #[.int .i64 s.im, .int .i64 s.us, .int .i64 s.li, .int .i64 s.no], .int .u8 q] w (Two 0 (ers c s) w) := by
  cases h0 : okC c
  · rw [ers_f h0]
    exact rWorst_cost c s q h0 w
  · cases h1 : okS s
    · rw [ers_s h0 h1]
      exact rWorst_arg c s q h0 h1 w
    · exact absurd (ers_t h0 h1) h
theorem mx_nonneg (c : Co) (s : Sh) (n : Nat) : 0 ≤ mx c s n := by
  induction n with
  | zero => exact Int.le_refl _
  | succ n ih => simp only [mx]; omega
theorem mx_ge (c : Co) (s : Sh) (n i : Nat) (h : i < n) : bd c s i ≤ mx c s n := by
  induction n with
  | zero => omega
  | succ n ih =>
    simp only [mx]
    by_cases hi : i = n
    · subst hi
      omega
    · have := ih (by omega)
      omega
theorem mx_great (c : Co) (s : Sh) (n : Nat) : mx c s (11 + n) = mx c s 11 := by
  induction n with
  | zero => rfl
  | succ n ih =>
    have h1 : mx c s (11 + (n + 1)) = max (mx c s (11 + n)) (bd c s (11 + n)) := rfl
    have h2 := mx_ge c s 11 0 (by omega)
    rw [h1, ih, bd_great c s (11 + n) (by omega)]
    have h3 : bd c s 0 = ent c s := rfl
    omega
theorem rMost_no (c : Co) (s : Sh) (h : ers c s ≠ 0) (w : World) : Calls Tryz.prog 72 #[.agg #[.int .u64 c.l1, .int .u64 c.llc, .int .u64 c.mi, .int .u64 c.fa, .int .u64 c.st, .int .u64 c.di], .agg #[.int .i64 s.im, .int .i64 s.us, .int .i64 s.li, .int .i64 s.no]] w (Two 0 (ers c s) w) := by
  have B0 : Hid (Bx w ((w.alloc (.cells #[.int .u64 c.l1, .int .u64 c.llc, .int .u64 c.mi, .int .u64 c.fa, .int .u64 c.st, .int .u64 c.di] 25)).alloc (.cells #[.int .i64 s.im, .int .i64 s.us, .int .i64 s.li, .int .i64 s.no] 53)) w.heap.size (w.heap.size + 1) c s) := bx_new w c s
  have C : Hid (∀ q w, Calls Tryz.prog 94 #[.agg #[.int .u64 c.l1, .int .u64 c.llc, .int .u64 c.mi, .int .u64 c.fa, .int .u64 c.st, .int .u64 c.di], .agg #[.int .i64 s.im, .int .i64 s.us, .int .i64 s.li, .int .i64 s.no], .int .u8 q] w (Two 0 (ers c s) w)) := fun q w => rWorst_no c s q h w
  generalize ers c s = x at *
  go_enter Tryz.func72, Tryz.ntmps72
  go_wp2_with fail
  generalize ((w.alloc (.cells #[.int .u64 c.l1, .int .u64 c.llc, .int .u64 c.mi, .int .u64 c.fa, .int .u64 c.st, .int .u64 c.di] 25)).alloc (.cells #[.int .i64 s.im, .int .i64 s.us, .int .i64 s.li, .int .i64 s.no] 53)) = w0 at *
  go_loopw [6, 7] (fun m i wr => i = .int .i64 0 ∧ m = .int .u64 0 ∧ Bx w wr w.heap.size (w.heap.size + 1) c s) (fun _ _ _ => 0)
  case atStart => exact ⟨rfl, rfl, B0.out⟩
  case round =>
    clear B0
    obtain ⟨rfl, rfl, hB⟩ := hrel
    have HB : Hid (Bx w wr w.heap.size (w.heap.size + 1) c s) := hB
    clear hB
    obtain ⟨_, c0, c1, c2, c3, c4, c5⟩ := HB.out.cs
    obtain ⟨_, s0, s1, s2, s3⟩ := HB.out.ss
    go_wp2_with fail
    refine (C.out _ _).mono ?_
    rintro e w1 ⟨rfl, k1⟩
    have FIN : Hid (Below w.heap.size w w1) := HB.out.be.trans (k1.mono HB.out.be.size)
    clear k1 C HB c0 c1 c2 c3 c4 c5 s0 s1 s2 s3
    go_wp2
    go_ret2
    exact ⟨rfl, FIN.out⟩
set_option maxRecDepth 20000 in
theorem rMost_ok (c : Co) (s : Sh) (h : c.Ok) (k : s.Ok) (w : World) : Calls Tryz.prog 72 #[.agg #[.int .u64 c.l1, .int .u64 c.llc, .int .u64 c.mi, .int .u64 c.fa, .int .u64 c.st, .int .u64 c.di], .agg #[.int .i64 s.im, .int .i64 s.us, .int .i64 s.li, .int .i64 s.no]] w (Two (mx c s 11) 0 w) := by
  have B0 : Hid (Bx w ((w.alloc (.cells #[.int .u64 c.l1, .int .u64 c.llc, .int .u64 c.mi, .int .u64 c.fa, .int .u64 c.st, .int .u64 c.di] 25)).alloc (.cells #[.int .i64 s.im, .int .i64 s.us, .int .i64 s.li, .int .i64 s.no] 53)) w.heap.size (w.heap.size + 1) c s) := bx_new w c s
  have C : Hid (∀ (q : Nat) w, Calls Tryz.prog 94 #[.agg #[.int .u64 c.l1, .int .u64 c.llc, .int .u64 c.mi, .int .u64 c.fa, .int .u64 c.st, .int .u64 c.di], .agg #[.int .i64 s.im, .int .i64 s.us, .int .i64 s.li, .int .i64 s.no], .int .u8 (q : Int)] w (Two (bd c s q) 0 w)) := fun q w => by
    have := rWorst_ok c s h k (q : Int) (by omega) w
    rwa [Int.toNat_natCast] at this
  have hm : Hid (∀ n, mx c s (n + 1) = max (mx c s n) (bd c s n)) := fun n => rfl
  obtain ⟨y, hy, HY⟩ : ∃ y, mx c s 11 = y ∧ Hid (mx c s 256 = y) := ⟨_, rfl, mx_great c s 245⟩
  rw [hy]
  clear h k hy
  go_enter Tryz.func72, Tryz.ntmps72
  go_wp2_with fail
  generalize ((w.alloc (.cells #[.int .u64 c.l1, .int .u64 c.llc, .int .u64 c.mi, .int .u64 c.fa, .int .u64 c.st, .int .u64 c.di] 25)).alloc (.cells #[.int .i64 s.im, .int .i64 s.us, .int .i64 s.li, .int .i64 s.no] 53)) = w0 at *
  go_loopw [6, 7] (fun m i wr => ∃ j : Nat, j ≤ 256 ∧ i = .int .i64 j ∧ m = .int .u64 (mx c s j) ∧ Bx w wr w.heap.size (w.heap.size + 1) c s) (fun _ i _ => 256 - (iv i).toNat)
  case atStart => exact ⟨0, by omega, rfl, rfl, B0.out⟩
  case round =>
    clear B0
    obtain ⟨j, hj, rfl, rfl, hB⟩ := hrel
    have HB : Hid (Bx w wr w.heap.size (w.heap.size + 1) c s) := hB
    clear hB
    by_cases hlt : j < 256
    · obtain ⟨_, c0, c1, c2, c3, c4, c5⟩ := HB.out.cs
      obtain ⟨_, s0, s1, s2, s3⟩ := HB.out.ss
      have hj1 := hm.out j
      generalize mx c s j = u at *
      have Cj : Hid (∀ w, Calls Tryz.prog 94 #[.agg #[.int .u64 c.l1, .int .u64 c.llc, .int .u64 c.mi, .int .u64 c.fa, .int .u64 c.st, .int .u64 c.di], .agg #[.int .i64 s.im, .int .i64 s.us, .int .i64 s.li, .int .i64 s.no], .int .u8 (j : Int)] w (Two (bd c s j) 0 w)) := C.out j
      generalize bd c s j = v at *
      go_wp2_with fail
      refine (Cj.out _).mono ?_
      rintro e w1 ⟨rfl, k1⟩
      have B1 : Hid (Bx w w1 w.heap.size (w.heap.size + 1) c s) := HB.out.below k1
      clear k1 C Cj HB c0 c1 c2 c3 c4 c5 s0 s1 s2 s3
      go_wp2
      all_goals
        go_roundw
        case rel => exact ⟨j + 1, by omega, by go_num, by rw [hj1]; congr 1; omega, B1.out⟩
        case measure => simp [iv]; omega
    · have hu : mx c s j = y := by rw [show j = 256 by omega]; exact HY.out
      rw [hu]
      go_wp2
      go_ret2
      exact ⟨rfl, HB.out.be⟩
end Go.Proofs.YtcmgjinjfaialaaGreat
