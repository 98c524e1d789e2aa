/- BuddyNames: both ends of the numbers, and buddies that are none; no condition. -/
import Derived.Test.YtdlkmeopiilmdaaPl
namespace Go.Proofs.Ytdlkmeopiilmdaa
open Go.ChangeShapes Go.WideShapes Go.ChangeAt Go.RowKit
set_option linter.unusedVariables false

theorem NoB.none {w w' : World} {q : Option Addr} (h : NoB w q) (g : w.grownBy w' none) : NoB w' q := by
  rcases h with e | ⟨p, e, hc⟩
  · exact Or.inl e
  · exact Or.inr ⟨p, e, (g.cell_far ⟨p, 7, Option.none⟩ (World.block_lt_of_cell? w _ hc) (by simp)).trans hc⟩
/-- The calls that the statement lays out. -/
def dl : List Value := [.int .i64 0, .int .i64 0, .int .i64 6, .int .i64 0, .int .i64 0, .int .i64 7, .int .i64 0, .int .i64 0, .int .i64 (-1), .int .i64 1, .int .i64 64, .int .i64 6, .int .i64 1, .int .i64 (-1), .int .i64 0, .int .i64 1, .int .i64 4611686018427387904, .int .i64 0, .int .i64 0, .int .i64 0, .int .i64 1, .int .i64 1, .int .i64 0, .int .i64 7, .int .i64 2, .int .i64 0, .int .i64 0]
theorem dos_lit {w : World} {b : Nat} (h : Blk w b 34 dl) : Dos w (some ⟨b, 0, none⟩) 9 := by
  intro i hi
  have key : ∀ K A O : Int, dl[i * 3]? = some (.int .i64 K) → dl[i * 3 + 1]? = some (.int .i64 A) → dl[i * 3 + 2]? = some (.int .i64 O) → (-9223372036854775808 ≤ K ∧ K < 9223372036854775808) → (-9223372036854775808 ≤ A ∧ A < 9223372036854775808) → (-9223372036854775808 ≤ O ∧ O < 9223372036854775808) →
      ∃ b' off K A O, some (⟨b, 0, none⟩ : Addr) = some ⟨b', off, none⟩ ∧ b' < w.heap.size ∧ w.cell? ⟨b', off + i * 3, none⟩ = some (.int .i64 K) ∧ w.cell? ⟨b', off + i * 3 + 1, none⟩ = some (.int .i64 A) ∧ w.cell? ⟨b', off + i * 3 + 2, none⟩ = some (.int .i64 O) ∧
        (-9223372036854775808 ≤ K ∧ K < 9223372036854775808) ∧ (-9223372036854775808 ≤ A ∧ A < 9223372036854775808) ∧ (-9223372036854775808 ≤ O ∧ O < 9223372036854775808) := by
    intro K A O h1 h2 h3 r1 r2 r3
    exact ⟨b, 0, K, A, O, rfl, h.lt, by rw [Nat.zero_add, h.cell]; exact h1, by rw [Nat.zero_add, h.cell]; exact h2, by rw [Nat.zero_add, h.cell]; exact h3, r1, r2, r3⟩
  rcases (show i = 0 ∨ i = 1 ∨ i = 2 ∨ i = 3 ∨ i = 4 ∨ i = 5 ∨ i = 6 ∨ i = 7 ∨ i = 8 by omega) with rfl | rfl | rfl | rfl | rfl | rfl | rfl | rfl | rfl <;> exact key _ _ _ rfl rfl rfl (by omega) (by omega) (by omega)
def szs : List Value := [.int .i64 (-1), .int .i64 0, .int .i64 1, .int .i64 2, .int .i64 63, .int .i64 64, .int .i64 65, .int .i64 127, .int .i64 128, .int .i64 4096, .int .i64 4097, .int .i64 4611686018427387904]
theorem szs_at {i : Nat} (hi : i < 12) : ∃ x : Int, szs[i]? = some (.int .i64 x) := by
  rcases (show i = 0 ∨ i = 1 ∨ i = 2 ∨ i = 3 ∨ i = 4 ∨ i = 5 ∨ i = 6 ∨ i = 7 ∨ i = 8 ∨ i = 9 ∨ i = 10 ∨ i = 11 by omega) with rfl | rfl | rfl | rfl | rfl | rfl | rfl | rfl | rfl | rfl | rfl | rfl <;> exact ⟨_, rfl⟩
set_option maxRecDepth 100000 in
set_option maxHeartbeats 2000000 in
theorem names_walk (w : World) : Calls Try.prog 5 #[] w fun e w' => e = .returned (.bool true) ∧ Below w.heap.size w w' := by
  go_enter Try.func5, Try.ntmps5
  go_wp2
  go_loopw [1, 2] (fun y z wr => ∃ i : Nat, i ≤ 2 ∧ z = .int .i64 i ∧ (∃ qa, y = .pointer qa ∧ NoB wr qa) ∧ w.grownBy wr none) (fun _ z _ => 2 - (iv z).toNat)
  case atStart => exact ⟨0, by omega, rfl, ⟨none, rfl, Or.inl rfl⟩, World.grownBy.refl _ _⟩
  case round =>
    obtain ⟨i, hi, rfl, ⟨qa, rfl, hN⟩, hg⟩ := hrel
    have HG : Hid (w.grownBy wr none) := hg
    by_cases hlt : i < 2
    · have hltI : (i : Int) < 2 := by omega
      have C1 : Hid (Calls _ _ _ _ _) := Take_nil hN 9
      have C2 : Hid (Calls _ _ _ _ _) := Give_nil hN (-1) 9
      have C3 : Hid (Calls _ _ _ _ _) := Free_nil hN
      have C4 : Hid (Calls _ _ _ _ _) := Lists_nil hN
      have C5 : Hid (Calls _ _ _ _ _) := Whole_nil hN
      clear hN hg
      go_wp2_with (first | (go_at_call 11; refine C1.out.mono ?_; rintro e w3 ⟨rfl, h3⟩; obtain rfl := h3.symm) | (go_at_call 13; refine C2.out.mono ?_; rintro e w3 ⟨rfl, h3⟩; obtain rfl := h3.symm) | (go_at_call 16; refine C3.out.mono ?_; rintro e w3 ⟨rfl, h3⟩; obtain rfl := h3.symm) | (go_at_call 25; refine C4.out.mono ?_; rintro e w3 ⟨rfl, h3⟩; obtain rfl := h3.symm) | (go_at_call 18; refine C5.out.mono ?_; rintro e w3 ⟨rfl, h3⟩; obtain rfl := h3.symm))
      refine ⟨⟨i + 1, by omega, by go_num, ⟨_, rfl, Or.inr ⟨_, rfl, ?_⟩⟩, HG.out.trans (World.grownBy_alloc _ _ none)⟩, by simp [iv]; omega⟩
      exact (blk_new wr [.slice none 0 0, .slice none 0 0, .slice none 0 0, .slice none 0 0, .slice none 0 0, .slice none 0 0, .slice none 0 0, .map none] 57).cell 7
    · obtain rfl : i = 2 := by omega
      clear hN hg
      rw [show ((2 : Nat) : Int) = 2 from rfl]
      have HZ : Hid (Blk (wr.alloc (.cells szs.toArray 3)) wr.heap.size 3 szs) := blk_new wr szs 3
      have HG1 : Hid (w.grownBy (wr.alloc (.cells szs.toArray 3)) none) := HG.out.trans (World.grownBy_alloc _ _ none)
      go_wp2_with fail
      rw [show (#[Value.int .i64 (-1), .int .i64 0, .int .i64 1, .int .i64 2, .int .i64 63, .int .i64 64, .int .i64 65, .int .i64 127, .int .i64 128, .int .i64 4096, .int .i64 4097, .int .i64 4611686018427387904] : Array Value) = szs.toArray from rfl]
      generalize wr.alloc (.cells szs.toArray 3) = w1 at *
      obtain ⟨gs, hgs⟩ : ∃ gs, gs = wr.heap.size := ⟨_, rfl⟩
      rw [← hgs] at HZ ⊢
      clear hgs HG
      go_loopw [6] (fun z wr => ∃ i : Nat, i ≤ 12 ∧ z = .int .i64 i ∧ Below w1.heap.size w1 wr) (fun z _ => 12 - (iv z).toNat)
      case atStart => exact ⟨0, by omega, rfl, Below.refl _ _⟩
      case round =>
        obtain ⟨i, hi, rfl, hb⟩ := hrel
        have HB : Hid (Below w1.heap.size w1 wr) := hb
        by_cases hlt : i < 12
        · have hltI : (i : Int) < 12 := by omega
          obtain ⟨x, hx⟩ := szs_at hlt
          have d0 : wr.cell? ⟨gs, i, none⟩ = some (.int .i64 x) := (hb.cell (p := ⟨gs, i, none⟩) HZ.out.lt).trans ((HZ.out.cell i).trans hx)
          have CP : Hid (Calls Try.prog 3 #[.int .i64 x, .slice (some ⟨wr.heap.size, 0, none⟩) 9 9] (wr.alloc (.cells dl.toArray 34)) fun e w' => e = .returned (.bool true) ∧ Below (wr.alloc (.cells dl.toArray 34)).heap.size (wr.alloc (.cells dl.toArray 34)) w') := plays_walk _ x _ 9 9 (by unfold maxLen; omega) (dos_lit (blk_new wr dl 34))
          clear hx hb
          go_wp2_with fail
          refine CP.out.mono ?_
          rintro e w3 ⟨rfl, b3⟩
          have HB3 : Hid (Below w1.heap.size w1 w3) := (HB.out.trans ((Below.refl _ wr).alloc HB.out.size _)).trans (b3.mono (by have := HB.out.size; simp; omega))
          clear b3 CP d0
          go_wp2
          go_roundw
          case rel => exact ⟨i + 1, by omega, by go_num, HB3.out⟩
          case measure => simp [iv]; omega
        · obtain rfl : i = 12 := by omega
          clear hb
          have HBF : Hid (Below w.heap.size w wr) := (below_of HG1.out _ (Nat.le_refl _) (by simp)).trans (HB.out.mono HG1.out.size)
          go_wp2_with fail
          refine (awake_ok wr).mono ?_
          rintro e w4 ⟨rfl, g4⟩
          have HB4 : Hid (Below w.heap.size w w4) := HBF.out.trans (below_of g4 _ HBF.out.size (by simp))
          clear g4
          go_wp2
          go_ret
          exact ⟨rfl, HB4.out⟩
end Go.Proofs.Ytdlkmeopiilmdaa
