/- The law CachePlays walked. -/
import Derived.Test.YtpedgpaebdoafaaDn
namespace Go.Proofs.Ytpedgpaebdoafaa
open Go.ChangeShapes Go.WideShapes Go.ChangeAt Go.RowKit
set_option linter.unusedVariables false

theorem New_no' (s k : Int) (h : s < 1 ∨ 4096 < s ∨ k < 1 ∨ 16 < k ∨ bits .and .i64 s (s - 1) ≠ 0) (h0 : -9223372036854775808 ≤ s) (w : World) :
    Calls Try.prog 8 #[.int .i64 s, .int .i64 k] w fun e w' => e = .returned (.tuple #[.pointer none, .int .i64 2]) ∧ w' = w := by
  by_cases a1 : s < 1
  · clear h
    go_enter Try.func8, Try.ntmps8
    go_wp2
    all_goals (go_ret2; exact ⟨rfl, rfl⟩)
  · exact New_no s k h (by omega) w
/-- The calls that came in. -/
def Dos (w : World) (ao : Option Addr) (l : Nat) : Prop := ∀ i, i < l → ∃ b off Kind Set Tag, ao = some ⟨b, off, none⟩ ∧ b < w.heap.size ∧
  (∀ j v, (doV Kind Set Tag)[j]? = some v → w.cell? ⟨b, off + i * 3 + j, none⟩ = some v) ∧ -9223372036854775808 ≤ Kind ∧ Kind < 9223372036854775808 ∧ 0 ≤ Tag ∧ Tag < 18446744073709551616
theorem Kpt.toBelow {w w' : World} (h : Kpt (fun k => k < w.heap.size) w w') : Below w.heap.size w w' := ⟨h.os, h.tape, h.output, h.size, h.block⟩
theorem Bth.start {w w1 w2 : World} {p q n m : Nat} {F G : Nat → Prop} {f g : Nat → List Int} (c : Ca w1 F p n m f) (k : Kp (fun _ => False) F w w1) (d : Ca w2 G q n m g) (k' : Kp (fun _ => False) G w1 w2) : Bth (fun k => k < w.heap.size) w w2 p q n m f g := by
  refine ⟨F, G, c.kept k' (fun _ _ q => q), d, fun i hf hg => ?_, fun i hi => ⟨fun z => ?_, fun z => ?_⟩, ?_⟩
  · rcases k'.new i hg with q | q
    · exact q
    · have := c.1 i hf; omega
  · rcases k.new i z with q | q
    · exact q
    · omega
  · have := k.size
    rcases k'.new i z with q | q
    · exact q
    · omega
  · have b1 := k.below w.heap.size (Nat.le_refl _) (fun i q => q.elim)
    have b2 := k'.below w.heap.size k.size (fun i q => q.elim)
    have b := b1.trans b2
    exact ⟨b.os, b.tape, b.output, b.size, b.block, fun i hi => hi⟩
set_option maxRecDepth 100000 in
set_option maxHeartbeats 4000000 in
theorem plays_walk (w : World) (sets ways : Int) (s0 : -9223372036854775808 ≤ sets) (s1 : sets < 9223372036854775808) (y0 : -9223372036854775808 ≤ ways) (y1 : ways < 9223372036854775808) (ao : Option Addr) (l c : Nat) (hl : l ≤ maxLen) (hd : Dos w ao l) :
    Calls Try.prog 3 #[.int .i64 sets, .int .i64 ways, .slice ao l c] w fun e w' => e = .returned (.bool true) ∧ Below w.heap.size w w' := by
  unfold maxLen at hl
  have HD : Hid (Dos w ao l) := hd
  clear hd
  by_cases hf : fit sets ways = true
  · obtain ⟨f1, f2, f3, f4, f5⟩ := fit_t hf
    clear hf
    obtain ⟨n, rfl⟩ := Int.eq_ofNat_of_zero_le (by omega : 0 ≤ sets)
    obtain ⟨m, rfl⟩ := Int.eq_ofNat_of_zero_le (by omega : 0 ≤ ways)
    have C1 : Hid (Calls _ _ _ _ _) := New_ok n m (by omega) (by omega) (by omega) (by omega) f5 w
    have C2 : Hid (∀ W, Calls Try.prog 9 #[.int .i64 n, .int .i64 m] W fun e w' => ∃ p F, e = .returned (.tuple #[.pointer (some ⟨p, 0, none⟩), .bool true]) ∧ Ca w' F p n m (fun _ => []) ∧ Kp (fun _ => False) F W w') := fun W => rNew_ok n m (by omega) (by omega) (by omega) (by omega) f5 W
    clear f5
    go_enter Try.func3, Try.ntmps3
    go_wp2_with fail
    refine C1.out.mono ?_
    rintro e w1 ⟨p, F, rfl, hC, hK⟩
    have CA : Hid (Ca w1 F p n m (fun _ => [])) := hC
    have KA : Hid (Kp (fun _ => False) F w w1) := hK
    clear hC hK
    go_wp2_with fail
    refine (C2.out w1).mono ?_
    rintro e w2 ⟨q, G, rfl, hC, hK⟩
    have B2 : Hid (Bth (fun k => k < w.heap.size) w w2 p q n m (fun _ => []) (fun _ => [])) := Bth.start CA.out KA.out hC hK
    clear hC hK CA KA C1 C2
    go_wp2_with fail
    go_loopw [11] (fun i wr => ∃ k : Nat, k ≤ l ∧ i = .int .i64 k ∧ ∃ f, Bth (fun k => k < w.heap.size) w wr p q n m f f) (fun i _ => l - (intOf i).toNat)
    case atStart => exact ⟨0, by omega, rfl, _, B2.out⟩
    case round =>
      clear B2
      obtain ⟨k, hk, rfl, f, hB⟩ := hrel
      clear f1 f2 f3 f4 s0 s1 y0 y1
      have B3 : Hid (Bth (fun k => k < w.heap.size) w wr p q n m f f) := hB
      clear hB
      by_cases a1 : k < l ∧ k < 300
      · obtain ⟨a1, a2⟩ := a1
        obtain ⟨b, off, Kind, Set, Tag, e1, hb, hc, k0, k1, t0, t1⟩ := HD.out k a1
        subst e1
        have kb := B3.out.kpt.block b hb
        have c0 := (World.cell?_of_block (w := w) (a := ⟨b, off + k * 3, none⟩) kb).trans (hc 0 _ rfl)
        have c1 := (World.cell?_of_block (w := w) (a := ⟨b, off + k * 3 + 1, none⟩) kb).trans (hc 1 _ rfl)
        have c2 := (World.cell?_of_block (w := w) (a := ⟨b, off + k * 3 + 2, none⟩) kb).trans (hc 2 _ rfl)
        clear hc kb
        go_wp2_with fail
        refine (done_any B3.out Kind Set Tag k0 k1 t0 t1).mono ?_
        rintro e w4 ⟨rfl, f', hB⟩
        have B4 : Hid (Bth (fun k => k < w.heap.size) w w4 p q n m f' f') := hB
        clear hB B3 c0 c1 c2
        go_wp2_with fail
        go_roundw
        case rel => exact ⟨k + 1, by omega, by go_num, _, B4.out⟩
        case measure => simp [intOf]; omega
      · have a1' : ¬ k < l ∨ (k < l ∧ ¬ k < 300) := by omega
        clear a1
        rcases a1' with a1 | ⟨a1, a2⟩
        all_goals (
          go_wp2_with fail
          refine (awake_any _).mono ?_
          rintro e w5 ⟨rfl, hb5⟩
          have BL : Hid (Below w.heap.size w w5) := B3.out.kpt.toBelow.trans (hb5.mono B3.out.kpt.size)
          clear hb5
          go_wp2
          go_ret
          exact ⟨rfl, BL.out⟩)
  · have hf : fit sets ways = false := by simpa using hf
    have C2 : Hid (∀ W, Calls Try.prog 9 #[.int .i64 sets, .int .i64 ways] W fun e w' => e = .returned (.tuple #[.pointer none, .bool false]) ∧ w' = W) := fun W => rNew_no sets ways hf s0 s1 W
    have C1 : Hid (Calls Try.prog 8 #[.int .i64 sets, .int .i64 ways] w fun e w' => e = .returned (.tuple #[.pointer none, .int .i64 2]) ∧ w' = w) := New_no' sets ways (fit_f hf) s0 w
    clear hf
    go_enter Try.func3, Try.ntmps3
    go_wp2_with fail
    refine C1.out.mono ?_
    rintro e w' ⟨rfl, rfl⟩
    go_wp2_with fail
    refine (C2.out _).mono ?_
    rintro e w' ⟨rfl, rfl⟩
    go_wp2_with fail
    refine (awake_any _).mono ?_
    rintro e w5 ⟨rfl, hb5⟩
    have BL : Hid (Below _ _ w5) := hb5
    clear hb5
    go_wp2
    go_ret
    exact ⟨rfl, BL.out⟩
end Go.Proofs.Ytpedgpaebdoafaa
