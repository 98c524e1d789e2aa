/- The reference's memory: what its Load, Store, Page, Put, Zero and Copy give back and write. -/
import Derived.Test.YtbfagelmijimeaaRf
import Derived.Test.YtbfagelmijimeaaPcMath
namespace Go.Proofs.Ytbfagelmijimeaa
open Go.ChangeShapes Go.WideShapes Go.ChangeAt Go.RowKit
set_option linter.unusedVariables false

theorem runE_zero {n pa size : Nat} (h1 : 1 ≤ size) (h8 : size ≤ 8) (hl : pa + size ≤ n * 256) : runE n pa size = 0 := by
  unfold runE
  rw [if_neg (by omega), if_neg (by omega), if_neg (by omega)]
theorem num_front (f : Nat → Int) (a d : Nat) : num f a (d + 1) = num f (a + 1) d * 256 + f a := by
  rw [Nat.add_comm d 1, num_split f a 1 d]
  simp [num]
  omega
theorem div_next' (v : Int) (k : Nat) : v / 256 ^ k / 256 = v / 256 ^ (k + 1) := by
  rw [Int.ediv_ediv_of_nonneg (Int.le_of_lt (pow256 k)), Int.pow_succ]
theorem rLoad_nil (w : World) (pa size : Int) :
    Calls Try.prog 28 #[.pointer none, .int .u64 pa, .int .i64 size] w fun e w' => e = .returned (.tuple #[.int .u64 0, .int .i64 1]) ∧ w' = w := by
  go_enter Try.func28, Try.ntmps28
  go_wp2_with fail
  refine (rrun_nil w _ _).mono ?_
  rintro e w' ⟨rfl, rfl⟩
  go_wp2
  go_ret2
  exact ⟨rfl, rfl⟩
theorem rLoad_no {w : World} {p g n : Nat} {f : Nat → Int} (hM : Mem w p g n f) (h1 : 1 ≤ n) (hn : n ≤ 4096) (pa size : Int) (h0 : 0 ≤ pa) (h2 : pa < 18446744073709551616) (hs0 : -9223372036854775808 ≤ size) (hs1 : size < 9223372036854775808) (he : runE n pa size ≠ 0) :
    Calls Try.prog 28 #[.pointer (some ⟨p, 0, none⟩), .int .u64 pa, .int .i64 size] w fun e w' => e = .returned (.tuple #[.int .u64 0, .int .i64 (runE n pa size)]) ∧ w' = w := by
  have C := rrun_any hM h1 hn pa size h0 h2 hs0 hs1
  generalize runE n pa size = r at *
  have hb : (r != 0) = true := by simpa using he
  go_enter Try.func28, Try.ntmps28
  go_wp2_with fail
  refine C.mono ?_
  rintro e w' ⟨rfl, rfl⟩
  go_wp2
  go_ret2
  exact ⟨rfl, rfl⟩
set_option maxRecDepth 100000 in
theorem rLoad_ok {w : World} {p g n : Nat} {f : Nat → Int} (hM : Mem w p g n f) (hn : n ≤ 4096) (pa size : Nat) (h1 : 1 ≤ size) (h8 : size ≤ 8) (hl : pa + size ≤ n * 256) :
    Calls Try.prog 28 #[.pointer (some ⟨p, 0, none⟩), .int .u64 pa, .int .i64 size] w fun e w' => e = .returned (.tuple #[.int .u64 (num f pa size), .int .i64 0]) ∧ w' = w := by
  have C := rrun_any hM (by omega) hn pa size (by omega) (by omega) (by omega) (by omega)
  rw [runE_zero h1 h8 hl] at C
  have HM : Hid (Mem w p g n f) := hM
  have hd := hM.cell
  clear hM
  have HC : Hid (Calls _ _ _ _ _) := C
  clear C
  go_enter Try.func28, Try.ntmps28
  go_wp2_with fail
  refine HC.out.mono ?_
  rintro e w' ⟨rfl, rfl⟩
  clear HC
  go_wp2_with fail
  go_loop [9, 10] (fun v i => ∃ k d : Nat, k + d = size ∧ i = .int .i64 ((k : Int) - 1) ∧ v = .int .u64 (num f (pa + k) d)) (fun _ i => (intOf i + 1).toNat)
  case atStart => exact ⟨size, 0, by omega, rfl, rfl⟩
  case round =>
    obtain ⟨k, d, hk, rfl, rfl⟩ := hrel
    cases k with
    | succ k =>
      have hc := (HM.out.by'.2 (pa + k) (by omega)).1
      obtain ⟨b0, b1⟩ := HM.out.ok (pa + k) (by omega)
      have HE : Hid _ := num_front f (pa + k) d
      obtain ⟨c0, c1⟩ := num_lt f (pa + k) (d + 1) (by omega) (fun i hi => HM.out.ok _ (by omega))
      obtain ⟨c2, c3⟩ := num_lt f (pa + k + 1) d (by omega) (fun i hi => HM.out.ok _ (by omega))
      rw [HE.out] at c0 c1
      rw [show pa + (k + 1) = pa + k + 1 by omega, show ((k + 1 : Nat) : Int) - 1 = k by omega]
      generalize num f (pa + k + 1) d = r at *
      go_wp2
      go_round
      case rel => exact ⟨k, d + 1, by omega, by go_num, by rw [HE.out]⟩
      case measure => simp [intOf]
    | zero =>
      obtain rfl : d = size := by omega
      go_wp2
      go_ret2
      exact ⟨rfl, rfl⟩
theorem rStore_nil (w : World) (pa size v : Int) :
    Calls Try.prog 29 #[.pointer none, .int .u64 pa, .int .i64 size, .int .u64 v] w fun e w' => e = .returned (.int .i64 1) ∧ w' = w := by
  go_enter Try.func29, Try.ntmps29
  go_wp2_with fail
  refine (rrun_nil w _ _).mono ?_
  rintro e w' ⟨rfl, rfl⟩
  go_wp2
  go_ret
  exact ⟨rfl, rfl⟩
theorem rStore_no {w : World} {p g n : Nat} {f : Nat → Int} (hM : Mem w p g n f) (h1 : 1 ≤ n) (hn : n ≤ 4096) (pa size v : Int) (h0 : 0 ≤ pa) (h2 : pa < 18446744073709551616) (hs0 : -9223372036854775808 ≤ size) (hs1 : size < 9223372036854775808) (he : runE n pa size ≠ 0) :
    Calls Try.prog 29 #[.pointer (some ⟨p, 0, none⟩), .int .u64 pa, .int .i64 size, .int .u64 v] w fun e w' => e = .returned (.int .i64 (runE n pa size)) ∧ w' = w := by
  have C := rrun_any hM h1 hn pa size h0 h2 hs0 hs1
  generalize runE n pa size = r at *
  have hb : (r != 0) = true := by simpa using he
  go_enter Try.func29, Try.ntmps29
  go_wp2_with fail
  refine C.mono ?_
  rintro e w' ⟨rfl, rfl⟩
  go_wp2
  go_ret
  exact ⟨rfl, rfl⟩
set_option maxRecDepth 100000 in
theorem rStore_ok {w : World} {p g n : Nat} {f : Nat → Int} (hM : Mem w p g n f) (hn : n ≤ 4096) (pa size : Nat) (h1 : 1 ≤ size) (h8 : size ≤ 8) (hl : pa + size ≤ n * 256) (v : Int) (hv0 : 0 ≤ v) (hv1 : v < 18446744073709551616) :
    Calls Try.prog 29 #[.pointer (some ⟨p, 0, none⟩), .int .u64 pa, .int .i64 size, .int .u64 v] w fun e w' => e = .returned (.int .i64 0) ∧ Mem w' p g n (lay f pa size (byt v)) ∧ w.grownBy w' (some g) := by
  have C := rrun_any hM (by omega) hn pa size (by omega) (by omega) (by omega) (by omega)
  rw [runE_zero h1 h8 hl] at C
  have HM : Hid (Mem w p g n f) := hM
  clear hM
  have HC : Hid (Calls _ _ _ _ _) := C
  clear C
  go_enter Try.func29, Try.ntmps29
  go_wp2_with fail
  refine HC.out.mono ?_
  rintro e w' ⟨rfl, rfl⟩
  clear HC
  go_wp2_with fail
  go_loopw [3, 10] (fun u i wr => ∃ k : Nat, k ≤ size ∧ i = .int .i64 k ∧ u = .int .u64 (v / 256 ^ k) ∧ Mem wr p g n (lay f pa k (byt v)) ∧ w'.grownBy wr (some g)) (fun _ i _ => size - (intOf i).toNat)
  case atStart => exact ⟨0, by omega, rfl, by rw [Int.pow_zero, Int.ediv_one], ⟨HM.out.lt, HM.out.cell, HM.out.by'.congr (fun i _ => (lay_zero f pa _ i).symm), HM.out.ne, HM.out.ok.lay pa (byt_ok 0 v)⟩, World.grownBy.refl _ _⟩
  case round =>
    obtain ⟨k, hk, rfl, rfl, hb, hg⟩ := hrel
    have HB : Hid (Mem wr p g n (lay f pa k (byt v))) := hb
    have HG : Hid (w'.grownBy wr (some g)) := hg
    clear hb hg
    by_cases hlt : k < size
    · obtain ⟨hc, hf⟩ := HB.out.by'.2 (pa + k) (by omega)
      have hd := HB.out.cell
      generalize lay f pa k (byt v) (pa + k) = old at hc
      have HL : Hid (∃ lo : Int, lo = v / 256 ^ k) := ⟨_, rfl⟩
      obtain ⟨lo, hlo⟩ := HL
      have lo0 : 0 ≤ lo := by rw [hlo]; exact Int.ediv_nonneg hv0 (Int.le_of_lt (pow256 k))
      have lo1 : lo ≤ v := by rw [hlo]; exact Int.ediv_le_self _ hv0
      rw [← hlo]
      have HL : Hid (lo = v / 256 ^ k) := hlo
      clear hlo
      go_wp2
      go_roundw
      case rel =>
        have hb : byt v k = lo % 256 := by rw [HL.out]; rfl
        refine ⟨k + 1, by omega, by go_num, by rw [HL.out, div_next'], ?_, ?_⟩
        · rw [← hb]
          exact HB.out.turn (grown_setCell' _ _ _ _) ((HB.out.by'.set (pa + k) (byt v k)).congr (fun i _ => (lay_next f pa k _ i).symm)) (HM.out.ok.lay pa (byt_ok _ v))
        · exact HG.out.trans (grown_setCell' _ _ _ _)
      case measure => simp [intOf]; omega
    · obtain rfl : k = size := by omega
      generalize v / 256 ^ k = lo at *
      go_wp2
      go_ret
      exact ⟨rfl, HB.out, HG.out⟩
end Go.Proofs.Ytbfagelmijimeaa
