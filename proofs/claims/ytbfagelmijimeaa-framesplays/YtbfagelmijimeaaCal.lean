/- What Byte, SetByte, Load and Store of package frames give back and write. -/
import Derived.Test.YtbfagelmijimeaaRun
import Derived.Laws.ShiftsVarLaws
namespace Go.Proofs.Ytbfagelmijimeaa
open Go.ChangeShapes Go.WideShapes Go.ChangeAt Go.RowKit
set_option linter.unusedVariables false

theorem runE_one (n : Nat) (pa : Int) : runE n pa 1 = if pa < n * 256 then 0 else 10 := by
  unfold runE
  by_cases h : pa < n * 256
  · rw [if_neg (by simpa using h), if_neg (by omega), if_neg (by omega), if_pos h]
  · rw [if_pos h, if_neg h]
theorem ret_u8 {a b : Int} {k : IntKind} {v : Int} (h : a = b) : Ending.returned (.tuple #[.int .u8 a, .int k v]) = .returned (.tuple #[.int .u8 b, .int k v]) := by rw [h]
theorem Byte_ok {w : World} {p g n : Nat} {f : Nat → Int} (hM : Mem w p g n f) (hn : n ≤ 4096) (pa : Nat) (hl : pa < n * 256) :
    Calls Try.prog 17 #[.pointer (some ⟨p, 0, none⟩), .int .u64 pa] w fun e w' => e = .returned (.tuple #[.int .u8 (f pa), .int .i64 0]) ∧ w' = w := by
  have hc := (hM.by'.2 pa hl).1
  have HM : Hid (Mem w p g n f) := hM
  clear hM
  go_enter Try.func17, Try.ntmps17
  go_wp2_with (go_at_call 34; refine (run_ok HM.out hn pa 1 (by omega) (by omega) (by omega)).mono ?_; rintro e w' ⟨rfl, rfl⟩)
  go_ret2
  exact ⟨rfl, rfl⟩
theorem Byte_no {w : World} {p g n : Nat} {f : Nat → Int} (hM : Mem w p g n f) (h1 : 1 ≤ n) (hn : n ≤ 4096) (pa : Int) (hl : n * 256 ≤ pa) (h2 : pa < 18446744073709551616) :
    Calls Try.prog 17 #[.pointer (some ⟨p, 0, none⟩), .int .u64 pa] w fun e w' => e = .returned (.tuple #[.int .u8 0, .int .i64 10]) ∧ w' = w := by
  have he : runE n pa 1 = 10 := by rw [runE_one, if_neg (by omega)]
  go_enter Try.func17, Try.ntmps17
  go_wp2_with (go_at_call 34; refine (run_no hM h1 hn pa 1 (by omega) h2 (by omega) (by omega) (by rw [he]; decide)).mono ?_; rintro e w' ⟨rfl, rfl⟩; rw [he])
  go_ret2
  exact ⟨rfl, rfl⟩
theorem Byte_nil {w : World} {q : Option Addr} (hN : NoM w q) (pa : Int) :
    Calls Try.prog 17 #[.pointer q, .int .u64 pa] w fun e w' => e = .returned (.tuple #[.int .u8 0, .int .i64 1]) ∧ w' = w := by
  go_enter Try.func17, Try.ntmps17
  go_wp2_with (go_at_call 34; refine (run_nil hN _ _).mono ?_; rintro e w' ⟨rfl, rfl⟩)
  go_ret2
  exact ⟨rfl, rfl⟩
theorem SetByte_ok {w : World} {p g n : Nat} {f : Nat → Int} (hM : Mem w p g n f) (hn : n ≤ 4096) (pa : Nat) (hl : pa < n * 256) (b : Int) (h0 : 0 ≤ b) (h1 : b < 256) :
    Calls Try.prog 15 #[.pointer (some ⟨p, 0, none⟩), .int .u64 pa, .int .u8 b] w fun e w' => e = .returned (.int .i64 0) ∧ Mem w' p g n (upd f pa b) ∧ w.grownBy w' (some g) := by
  obtain ⟨hc, hf⟩ := hM.by'.2 pa hl
  have HM : Hid (Mem w p g n f) := hM
  clear hM
  go_enter Try.func15, Try.ntmps15
  go_wp2_with (go_at_call 34; refine (run_ok HM.out hn pa 1 (by omega) (by omega) (by omega)).mono ?_; rintro e w' ⟨rfl, rfl⟩)
  go_ret
  exact ⟨rfl, HM.out.turn (grown_setCell' _ _ _ _) (HM.out.by'.set pa b) (HM.out.ok.upd pa b h0 h1), grown_setCell' _ _ _ _⟩
theorem SetByte_no {w : World} {p g n : Nat} {f : Nat → Int} (hM : Mem w p g n f) (h1 : 1 ≤ n) (hn : n ≤ 4096) (pa : Int) (hl : n * 256 ≤ pa) (h2 : pa < 18446744073709551616) (b : Int) :
    Calls Try.prog 15 #[.pointer (some ⟨p, 0, none⟩), .int .u64 pa, .int .u8 b] w fun e w' => e = .returned (.int .i64 10) ∧ w' = w := by
  have he : runE n pa 1 = 10 := by rw [runE_one, if_neg (by omega)]
  go_enter Try.func15, Try.ntmps15
  go_wp2_with (go_at_call 34; refine (run_no hM h1 hn pa 1 (by omega) h2 (by omega) (by omega) (by rw [he]; decide)).mono ?_; rintro e w' ⟨rfl, rfl⟩; rw [he])
  go_ret
  exact ⟨rfl, rfl⟩
theorem SetByte_nil {w : World} {q : Option Addr} (hN : NoM w q) (pa b : Int) :
    Calls Try.prog 15 #[.pointer q, .int .u64 pa, .int .u8 b] w fun e w' => e = .returned (.int .i64 1) ∧ w' = w := by
  go_enter Try.func15, Try.ntmps15
  go_wp2_with (go_at_call 34; refine (run_nil hN _ _).mono ?_; rintro e w' ⟨rfl, rfl⟩)
  go_ret
  exact ⟨rfl, rfl⟩

/-- The number that the first k bytes from a on make, the lowest first. -/
def num (f : Nat → Int) (a : Nat) : Nat → Int
  | 0 => 0
  | k + 1 => num f a k + f (a + k) * 256 ^ k
theorem pow256 (k : Nat) : (0 : Int) < 256 ^ k := Int.pow_pos (by decide)
theorem num_bd (f : Nat → Int) (a m : Nat) (h : ∀ i, i < m → 0 ≤ f (a + i) ∧ f (a + i) < 256) : ∀ k, k ≤ m → 0 ≤ num f a k ∧ num f a k < 256 ^ k
  | 0, _ => by simp [num]
  | k + 1, hk => by
    obtain ⟨i0, i1⟩ := num_bd f a m h k (by omega)
    obtain ⟨j0, j1⟩ := h k (by omega)
    have hp := pow256 k
    simp only [num, Int.pow_succ]
    have h1 : 0 ≤ f (a + k) * 256 ^ k := Int.mul_nonneg j0 (by omega)
    have h2 : (f (a + k) + 1) * 256 ^ k ≤ 256 * 256 ^ k := Int.mul_le_mul_of_nonneg_right (by omega) (by omega)
    rw [Int.add_mul] at h2
    omega
theorem pow8 (k : Nat) : (2 : Int) ^ (8 * k) = 256 ^ k := by rw [Int.pow_mul]; rfl
theorem or_step (x b : Int) (k : Nat) (hk : k < 8) (x0 : 0 ≤ x) (x1 : x < 256 ^ k) (b0 : 0 ≤ b) (b1 : b < 256) : bits .or .u64 x (IntKind.u64.wrap (b * 2 ^ (8 * k))) = x + b * 256 ^ k := by
  obtain ⟨x, rfl⟩ := Int.eq_ofNat_of_zero_le x0
  obtain ⟨b, rfl⟩ := Int.eq_ofNat_of_zero_le b0
  have e : ((256 : Nat) ^ k : Nat) = 2 ^ (8 * k) := by rw [Nat.pow_mul]
  have hx : x < 2 ^ (8 * k) := by
    rw [← e]
    refine Int.ofNat_lt.1 ?_
    rw [Int.natCast_pow]
    exact x1
  have hb : b * 2 ^ (8 * k) < 2 ^ 64 := by
    have h1 : b * 2 ^ (8 * k) < 256 * 2 ^ (8 * k) := Nat.mul_lt_mul_of_pos_right (by omega) (Nat.two_pow_pos _)
    have h2 : 256 * 2 ^ (8 * k) = 2 ^ (8 * k + 8) := by rw [Nat.pow_add]; omega
    have h3 : 2 ^ (8 * k + 8) ≤ 2 ^ 64 := Nat.pow_le_pow_right (by decide) (by omega)
    omega
  have hx6 : x < 2 ^ 64 := Nat.lt_of_lt_of_le hx (Nat.pow_le_pow_right (by decide) (by omega))
  have ew : IntKind.u64.wrap ((b : Int) * 2 ^ (8 * k)) = ((b * 2 ^ (8 * k) : Nat) : Int) := by
    rw [IntKind.wrap_u64]
    push_cast
    rw [Int.emod_eq_of_lt (Int.mul_nonneg (by omega) (Int.le_of_lt (Int.pow_pos (by decide)))) (by
      have := Int.ofNat_lt.2 hb
      rw [Int.natCast_mul, Int.natCast_pow] at this
      exact this)]
  rw [ew, u64_or _ _ (by omega) (by omega) (by omega) (by omega)]
  have := Nat.two_pow_add_eq_or_of_lt hx b
  simp only [Int.toNat_natCast]
  rw [Nat.or_comm, Nat.mul_comm, ← this, ← pow8]
  push_cast
  rw [Int.mul_comm, Int.add_comm]
theorem Load_nil {w : World} {q : Option Addr} (hN : NoM w q) (pa size : Int) :
    Calls Try.prog 18 #[.pointer q, .int .u64 pa, .int .i64 size] w fun e w' => e = .returned (.tuple #[.int .u64 0, .int .i64 1]) ∧ w' = w := by
  go_enter Try.func18, Try.ntmps18
  go_wp2_with (go_at_call 34; refine (run_nil hN _ _).mono ?_; rintro e w' ⟨rfl, rfl⟩)
  go_ret2
  exact ⟨rfl, rfl⟩
theorem Load_no {w : World} {p g n : Nat} {f : Nat → Int} (hM : Mem w p g n f) (h1 : 1 ≤ n) (hn : n ≤ 4096) (pa size : Int) (h0 : 0 ≤ pa) (h2 : pa < 18446744073709551616) (hs0 : -9223372036854775808 ≤ size) (hs1 : size < 9223372036854775808) (he : runE n pa size ≠ 0) :
    Calls Try.prog 18 #[.pointer (some ⟨p, 0, none⟩), .int .u64 pa, .int .i64 size] w fun e w' => e = .returned (.tuple #[.int .u64 0, .int .i64 (runE n pa size)]) ∧ w' = w := by
  have C := run_no hM h1 hn pa size h0 h2 hs0 hs1 he
  generalize runE n pa size = r at *
  have hb : (r != 0) = true := by simpa using he
  go_enter Try.func18, Try.ntmps18
  go_wp2_with (go_at_call 34; refine C.mono ?_; rintro e w' ⟨rfl, rfl⟩)
  go_ret2
  exact ⟨rfl, rfl⟩
theorem Load_ok {w : World} {p g n : Nat} {f : Nat → Int} (hM : Mem w p g n f) (hn : n ≤ 4096) (pa size : Nat) (h1 : 1 ≤ size) (h8 : size ≤ 8) (hl : pa + size ≤ n * 256) :
    Calls Try.prog 18 #[.pointer (some ⟨p, 0, none⟩), .int .u64 pa, .int .i64 size] w fun e w' => e = .returned (.tuple #[.int .u64 (num f pa size), .int .i64 0]) ∧ w' = w := by
  have HM : Hid (Mem w p g n f) := hM
  clear hM
  go_enter Try.func18, Try.ntmps18
  go_wp2_with (go_at_call 34; refine (run_ok HM.out hn pa size h1 h8 hl).mono ?_; rintro e w' ⟨rfl, rfl⟩)
  go_loop [10, 25] (fun v i => ∃ k : Nat, k ≤ size ∧ i = .int .i64 k ∧ v = .int .u64 (num f pa k)) (fun _ i => size - (intOf i).toNat)
  case atStart => exact ⟨0, by omega, rfl, rfl⟩
  case round =>
    obtain ⟨k, hk, rfl, rfl⟩ := hrel
    by_cases hlt : k < size
    · have hc := (HM.out.by'.2 (pa + k) (by omega)).1
      obtain ⟨b0, b1⟩ := HM.out.ok (pa + k) (by omega)
      obtain ⟨c0, c1⟩ := num_bd f pa size (fun i hi => HM.out.ok (pa + i) (by omega)) k hk
      have HE : Hid _ := or_step (num f pa k) (f (pa + k)) k (by omega) c0 c1 b0 b1
      clear c0 c1
      go_wp2
      go_round
      case rel => exact ⟨k + 1, by omega, by go_num, by rw [HE.out]; rfl⟩
      case measure => simp [intOf]; omega
    · obtain rfl : k = size := by omega
      go_wp2
      go_ret2
      exact ⟨rfl, rfl⟩
theorem Store_nil {w : World} {q : Option Addr} (hN : NoM w q) (pa size v : Int) :
    Calls Try.prog 16 #[.pointer q, .int .u64 pa, .int .i64 size, .int .u64 v] w fun e w' => e = .returned (.int .i64 1) ∧ w' = w := by
  go_enter Try.func16, Try.ntmps16
  go_wp2_with (go_at_call 34; refine (run_nil hN _ _).mono ?_; rintro e w' ⟨rfl, rfl⟩)
  go_ret
  exact ⟨rfl, rfl⟩
theorem Store_no {w : World} {p g n : Nat} {f : Nat → Int} (hM : Mem w p g n f) (h1 : 1 ≤ n) (hn : n ≤ 4096) (pa size v : Int) (h0 : 0 ≤ pa) (h2 : pa < 18446744073709551616) (hs0 : -9223372036854775808 ≤ size) (hs1 : size < 9223372036854775808) (he : runE n pa size ≠ 0) :
    Calls Try.prog 16 #[.pointer (some ⟨p, 0, none⟩), .int .u64 pa, .int .i64 size, .int .u64 v] w fun e w' => e = .returned (.int .i64 (runE n pa size)) ∧ w' = w := by
  have C := run_no hM h1 hn pa size h0 h2 hs0 hs1 he
  generalize runE n pa size = r at *
  have hb : (r != 0) = true := by simpa using he
  go_enter Try.func16, Try.ntmps16
  go_wp2_with (go_at_call 34; refine C.mono ?_; rintro e w' ⟨rfl, rfl⟩)
  go_ret
  exact ⟨rfl, rfl⟩
/-- The i-th byte of a number. -/
def byt (v : Int) (i : Nat) : Int := v / 256 ^ i % 256
theorem byt_ok (m : Nat) (v : Int) : okB m (byt v) := fun i _ => ⟨Int.emod_nonneg _ (by decide), Int.emod_lt_of_pos _ (by decide)⟩
theorem lay_next (f : Nat → Int) (a k : Nat) (h : Nat → Int) (i : Nat) : lay f a (k + 1) h i = upd (lay f a k h) (a + k) (h k) i := by
  unfold upd lay
  show (if a ≤ i ∧ i < a + (k + 1) then h (i - a) else f i) = if i = a + k then h k else if a ≤ i ∧ i < a + k then h (i - a) else f i
  by_cases e : i = a + k
  · subst e
    rw [if_pos (by omega), if_pos rfl, Nat.add_sub_cancel_left]
  · rw [if_neg e]
    by_cases e2 : a ≤ i ∧ i < a + k
    · rw [if_pos e2, if_pos (by omega)]
    · rw [if_neg e2, if_neg (by omega)]
theorem lay_zero (f : Nat → Int) (a : Nat) (h : Nat → Int) (i : Nat) : lay f a 0 h i = f i := by
  unfold lay
  rw [if_neg (by omega)]
theorem Store_ok {w : World} {p g n : Nat} {f : Nat → Int} (hM : Mem w p g n f) (hn : n ≤ 4096) (pa size : Nat) (h1 : 1 ≤ size) (h8 : size ≤ 8) (hl : pa + size ≤ n * 256) (v : Int) (hv0 : 0 ≤ v) (hv1 : v < 18446744073709551616) :
    Calls Try.prog 16 #[.pointer (some ⟨p, 0, none⟩), .int .u64 pa, .int .i64 size, .int .u64 v] w fun e w' => e = .returned (.int .i64 0) ∧ Mem w' p g n (lay f pa size (byt v)) ∧ w.grownBy w' (some g) := by
  have HM : Hid (Mem w p g n f) := hM
  clear hM
  go_enter Try.func16, Try.ntmps16
  go_wp2_with (go_at_call 34; refine (run_ok HM.out hn pa size h1 h8 hl).mono ?_; rintro e w' ⟨rfl, rfl⟩)
  go_loopw [24] (fun i wr => ∃ k : Nat, k ≤ size ∧ i = .int .i64 k ∧ By wr g (n * 256) (lay f pa k (byt v)) ∧ w'.grownBy wr (some g)) (fun i _ => size - (intOf i).toNat)
  case atStart => exact ⟨0, by omega, rfl, HM.out.by'.congr (fun i _ => (lay_zero f pa _ i).symm), World.grownBy.refl _ _⟩
  case round =>
    obtain ⟨k, hk, rfl, hb, hg⟩ := hrel
    by_cases hlt : k < size
    · obtain ⟨hc, hf⟩ := hb.2 (pa + k) (by omega)
      have HB : Hid (By wr g (n * 256) (lay f pa k (byt v))) := hb
      have HG : Hid (w'.grownBy wr (some g)) := hg
      clear hb hg
      generalize lay f pa k (byt v) (pa + k) = old at *
      go_wp2
      go_roundw
      case rel =>
        rw [pow8]
        refine ⟨k + 1, by omega, by go_num, (HB.out.set (pa + k) (byt v k)).congr (fun i _ => (lay_next f pa k _ i).symm), HG.out.trans (grown_setCell' _ _ _ _)⟩
      case measure => simp [intOf]; omega
    · obtain rfl : k = size := by omega
      have HB : Hid (By wr g (n * 256) (lay f pa k (byt v))) := hb
      have HG : Hid (w'.grownBy wr (some g)) := hg
      clear hb hg
      go_wp2
      go_ret
      exact ⟨rfl, HM.out.turn HG.out HB.out (HM.out.ok.lay pa (byt_ok _ v)), HG.out⟩
end Go.Proofs.Ytbfagelmijimeaa
