/- EntryNames: words of the lowest ten bits with places at the ends, entries with At at the ends. -/
import Derived.Test.YtinegjobjpmkcaaMk
namespace Go.Proofs.Ytinegjobjpmkcaa
open Go.ChangeShapes Go.WideShapes Go.ChangeAt Go.RowKit
set_option linter.unusedVariables false

theorem or_range (a b : Int) (h0 : 0 ≤ a) (h1 : a < 18446744073709551616) (h2 : 0 ≤ b) (h3 : b < 18446744073709551616) : 0 ≤ bits .or .u64 a b ∧ bits .or .u64 a b < 18446744073709551616 := by
  rw [u64_or a b h0 h1 h2 h3]
  have h : a.toNat ||| b.toNat < 2 ^ 64 := Nat.or_lt_two_pow (by omega) (by omega)
  omega
theorem reads_or (a b : Int) (h0 : 0 ≤ a) (h1 : a < 18446744073709551616) (h2 : 0 ≤ b) (h3 : b < 18446744073709551616) (w : World) : Calls Try.prog 4 #[.int .u64 (bits .or .u64 a b)] w fun e w' => e = .returned (.bool true) ∧ Below w.heap.size w w' :=
  reads_any _ (or_range a b h0 h1 h2 h3).1 (or_range a b h0 h1 h2 h3).2 w
/-- The places that are tried. -/
def ats (k : Nat) : Int := [-1, 0, 1023, 1024, 4095, 4096, 4611686018427387904, -9223372036854775808].getD k 0
/-- The places, in their block. -/
structure Std (w0 : World) (b : Nat) (w : World) : Prop where
  lt : b < w.heap.size
  be : Below w0.heap.size w0 w
  c : ∀ j, j < 8 → w.cell? ⟨b, j, none⟩ = some (.int .i64 (ats j))
theorem Std.below {w0 w w' : World} {b : Nat} (h : Std w0 b w) (k : Below w.heap.size w w') : Std w0 b w' :=
  ⟨Nat.lt_of_lt_of_le h.lt k.size, h.be.trans (k.mono h.be.size), fun j hj => (k.cell (p := ⟨b, j, none⟩) h.lt).trans (h.c j hj)⟩
set_option maxHeartbeats 1000000 in
set_option maxRecDepth 20000 in
theorem names_any (w : World) : Calls Try.prog 6 #[] w fun e w' => e = .returned (.bool true) ∧ Below w.heap.size w w' := by
  go_enter Try.func6, Try.ntmps6
  go_wp2_with fail
  go_loopw [1] (fun i wr => ∃ k : Nat, k ≤ 1024 ∧ i = .int .u64 k ∧ Below w.heap.size w wr) (fun i _ => 1024 - (iv i).toNat)
  case atStart => exact ⟨0, by omega, rfl, Below.refl _ _⟩
  case round =>
    obtain ⟨k, hk, rfl, hB⟩ := hrel
    have HB : Hid (Below w.heap.size w wr) := hB
    clear hB
    by_cases hlt : k < 1024
    · go_wp2_with fail
      refine (reads_any _ (by omega) (by omega) _).mono ?_
      rintro e w1 ⟨rfl, k1⟩
      have B1 : Hid (Below w.heap.size w w1) := HB.out.trans (k1.mono HB.out.size)
      clear k1 HB
      go_wp2_with fail
      refine (reads_or _ _ (by omega) (by omega) (by omega) (by omega) _).mono ?_
      rintro e w2 ⟨rfl, k1⟩
      have B2 : Hid (Below w.heap.size w w2) := B1.out.trans (k1.mono B1.out.size)
      clear k1 B1
      go_wp2_with fail
      refine (reads_or _ _ (by omega) (by omega) (by omega) (by omega) _).mono ?_
      rintro e w3 ⟨rfl, k1⟩
      have B3 : Hid (Below w.heap.size w w3) := B2.out.trans (k1.mono B2.out.size)
      clear k1 B2
      go_wp2_with fail
      refine (reads_or _ _ (by omega) (by omega) (by omega) (by omega) _).mono ?_
      rintro e w4 ⟨rfl, k1⟩
      have B4 : Hid (Below w.heap.size w w4) := B3.out.trans (k1.mono B3.out.size)
      clear k1 B3
      go_wp2_with fail
      refine (reads_or _ _ (by omega) (by omega) (by omega) (by omega) _).mono ?_
      rintro e w5 ⟨rfl, k1⟩
      have B5 : Hid (Below w.heap.size w w5) := B4.out.trans (k1.mono B4.out.size)
      clear k1 B4
      go_wp2_with fail
      refine (reads_or _ _ (by omega) (by omega) (by omega) (by omega) _).mono ?_
      rintro e w6 ⟨rfl, k1⟩
      have B6 : Hid (Below w.heap.size w w6) := B5.out.trans (k1.mono B5.out.size)
      clear k1 B5
      go_wp2_with fail
      go_roundw
      case rel => exact ⟨k + 1, by omega, by go_num, B6.out⟩
      case measure => simp [iv]; omega
    · go_wp2_with fail
      have HC : Hid (∀ j, j < 8 → (wr.alloc (.cells #[.int .i64 (-1), .int .i64 0, .int .i64 1023, .int .i64 1024, .int .i64 4095, .int .i64 4096, .int .i64 4611686018427387904, .int .i64 (-9223372036854775808)] 3)).cell? ⟨wr.heap.size, j, none⟩ = some (.int .i64 (ats j))) := fun j hj => by
        rw [cell_new wr [.int .i64 (-1), .int .i64 0, .int .i64 1023, .int .i64 1024, .int .i64 4095, .int .i64 4096, .int .i64 4611686018427387904, .int .i64 (-9223372036854775808)] 3 j]
        have : j = 0 ∨ j = 1 ∨ j = 2 ∨ j = 3 ∨ j = 4 ∨ j = 5 ∨ j = 6 ∨ j = 7 := by omega
        rcases this with rfl | rfl | rfl | rfl | rfl | rfl | rfl | rfl <;> rfl
      have HB1 : Hid (Below w.heap.size w (wr.alloc (.cells #[.int .i64 (-1), .int .i64 0, .int .i64 1023, .int .i64 1024, .int .i64 4095, .int .i64 4096, .int .i64 4611686018427387904, .int .i64 (-9223372036854775808)] 3))) := HB.out.alloc HB.out.size _
      have hsz : wr.heap.size < (wr.alloc (.cells #[.int .i64 (-1), .int .i64 0, .int .i64 1023, .int .i64 1024, .int .i64 4095, .int .i64 4096, .int .i64 4611686018427387904, .int .i64 (-9223372036854775808)] 3)).heap.size := by simp
      clear HB
      generalize (wr.alloc (.cells #[.int .i64 (-1), .int .i64 0, .int .i64 1023, .int .i64 1024, .int .i64 4095, .int .i64 4096, .int .i64 4611686018427387904, .int .i64 (-9223372036854775808)] 3)) = W at *
      generalize wr.heap.size = b at *
      clear hlt hk
      go_loopw [3] (fun i wx => ∃ j : Nat, j ≤ 8 ∧ i = .int .i64 j ∧ b < wx.heap.size ∧ Below w.heap.size w wx ∧ ∀ j, j < 8 → wx.cell? ⟨b, j, none⟩ = some (.int .i64 (ats j))) (fun i _ => 8 - (iv i).toNat)
      case atStart => exact ⟨0, by omega, rfl, hsz, HB1.out, HC.out⟩
      case round =>
        clear HC HB1 hsz
        obtain ⟨j, hj, rfl, hz, hB, hC⟩ := hrel
        have P0 : Hid (Std w b wr) := ⟨hz, hB, hC⟩
        clear hz hB hC
        by_cases hlt : j < 8
        · have c := P0.out.c j hlt
          go_wp2_with fail
          refine (makes_any _ _ _ _ _ _ _ _).mono ?_
          rintro e w1 ⟨rfl, k1⟩
          have P1 : Hid (Std w b w1) := P0.out.below k1
          clear k1 P0 c
          have c := P1.out.c j hlt
          go_wp2_with fail
          refine (makes_any _ _ _ _ _ _ _ _).mono ?_
          rintro e w2 ⟨rfl, k1⟩
          have P2 : Hid (Std w b w2) := P1.out.below k1
          clear k1 P1 c
          have c := P2.out.c j hlt
          go_wp2_with fail
          refine (makes_any _ _ _ _ _ _ _ _).mono ?_
          rintro e w3 ⟨rfl, k1⟩
          have P3 : Hid (Std w b w3) := P2.out.below k1
          clear k1 P2 c
          have c := P3.out.c j hlt
          go_wp2_with fail
          refine (makes_any _ _ _ _ _ _ _ _).mono ?_
          rintro e w4 ⟨rfl, k1⟩
          have P4 : Hid (Std w b w4) := P3.out.below k1
          clear k1 P3 c
          go_wp2_with fail
          go_roundw
          case rel => exact ⟨j + 1, by omega, by go_num, P4.out.lt, P4.out.be, P4.out.c⟩
          case measure => simp [iv]; omega
        · go_wp2_with fail
          refine (awake_any _).mono ?_
          rintro e w1 ⟨rfl, k1⟩
          have P1 : Hid (Std w b w1) := P0.out.below k1
          clear k1 P0
          go_wp2
          go_ret
          exact ⟨rfl, P1.out.be⟩
end Go.Proofs.Ytinegjobjpmkcaa
