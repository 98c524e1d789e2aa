/- Numbers held against numbers, seven lists against seven; Within; no condition but the ranges that each theorem names. -/
import Derived.Test.YtdlkmeopiilmdaaRg
namespace Go.Proofs.Ytdlkmeopiilmdaa
open Go.ChangeShapes Go.WideShapes Go.ChangeAt Go.RowKit
set_option linter.unusedVariables false

set_option maxHeartbeats 1000000 in
theorem eq_ok {w : World} {v1 v2 : Value} {l : List Int} (h1 : Own w v1 l) (h2 : Own w v2 l) (hl : l.length ≤ 5000) :
    Calls Try.prog 26 #[v1, v2] w fun e w' => e = .returned (.bool true) ∧ w.grownBy w' none := by
  obtain ⟨a1, c1, rfl⟩ := h1.len
  obtain ⟨a2, c2, rfl⟩ := h2.len
  have H1 : Hid (Own w (.slice a1 l.length c1) l) := h1
  have H2 : Hid (Own w (.slice a2 l.length c2) l) := h2
  clear h1 h2
  obtain ⟨n, hn⟩ : ∃ n, l.length = n := ⟨_, rfl⟩
  have HN : Hid (l.length = n) := hn
  rw [hn] at H1 H2 hl ⊢
  clear hn
  go_enter Try.func26, Try.ntmps26
  go_wp2
  go_loopw [5] (fun i wr => ∃ k : Nat, k ≤ n ∧ i = .int .i64 k ∧ w.grownBy wr none) (fun i _ => n - (iv i).toNat)
  case atStart => exact ⟨0, by omega, rfl, World.grownBy.refl _ _⟩
  case round =>
    obtain ⟨k, hk, rfl, hb⟩ := hrel
    by_cases hlt : k < n
    · obtain ⟨x, hx⟩ : ∃ x, l[k]? = some x := ⟨_, List.getElem?_eq_getElem (by rw [HN.out]; exact hlt)⟩
      obtain ⟨g1, k1, e1, d1⟩ := H1.out.cell hx
      obtain ⟨g2, k2, e2, d2⟩ := H2.out.cell hx
      rw [HN.out] at e1 e2
      cases e1
      cases e2
      have p1 := (hb.cell_far ⟨g1, k, none⟩ (H1.out.lt g1 rfl) (by simp)).trans d1
      have p2 := (hb.cell_far ⟨g2, k, none⟩ (H2.out.lt g2 rfl) (by simp)).trans d2
      clear d1 d2 hx
      go_wp2
      go_quiet (fail)
      go_wp2
      go_roundw
      case rel => exact ⟨k + 1, by omega, by go_num, ⟨hb.os, hb.tape, hb.output, hb.size, hb.block⟩⟩
      case measure => simp [iv]; omega
    · obtain rfl : k = n := by omega
      go_wp2
      go_ret
      exact ⟨rfl, hb⟩
theorem Ls.none {B : Nat} {w w' : World} {v : Value} {M : Nat → List Int} (h : Ls B w v M) (k : w.grownBy w' none) : Ls B w' v M := by
  obtain ⟨g, cap, F, V, rfl, R, hF⟩ := h
  exact ⟨g, cap, F, V, rfl, R.of_eq k.size (fun b hb => k.block b (R.lt b hb) (by simp)), hF⟩
set_option maxHeartbeats 1000000 in
theorem same_ok {B1 B2 : Nat} {w : World} {v1 v2 : Value} {M : Nat → List Int} (h1 : Ls B1 w v1 M) (h2 : Ls B2 w v2 M) (hl : ∀ i, i < 7 → (M i).length ≤ 5000) :
    Calls Try.prog 33 #[v1, v2] w fun e w' => e = .returned (.bool true) ∧ w.grownBy w' none := by
  have H1 : Hid (Ls B1 w v1 M) := h1
  have H2 : Hid (Ls B2 w v2 M) := h2
  have HL : Hid (∀ i, i < 7 → (M i).length ≤ 5000) := hl
  obtain ⟨g1, c1, rfl, _⟩ := h1.cell
  obtain ⟨g2, c2, rfl, _⟩ := h2.cell
  clear h1 h2 hl
  go_enter Try.func33, Try.ntmps33
  go_wp2
  go_loopw [5] (fun i wr => ∃ k : Nat, k ≤ 7 ∧ i = .int .i64 k ∧ w.grownBy wr none) (fun i _ => 7 - (iv i).toNat)
  case atStart => exact ⟨0, by omega, rfl, World.grownBy.refl _ _⟩
  case round =>
    obtain ⟨k, hk, rfl, hb⟩ := hrel
    have HB : Hid (w.grownBy wr none) := hb
    by_cases hlt : k < 7
    · obtain ⟨g1', c1', e1, _, q1⟩ := (H1.out.none hb).cell
      obtain ⟨g2', c2', e2, _, q2⟩ := (H2.out.none hb).cell
      cases e1
      cases e2
      obtain ⟨a1, k1, d1, o1⟩ := q1 k hlt
      obtain ⟨a2, k2, d2, o2⟩ := q2 k hlt
      have hlI : (k : Int) < 7 := by omega
      have hk0 : (0 : Int) ≤ (k : Int) := by omega
      have CE : Hid (∀ W, Below wr.heap.size wr W → Calls Try.prog 26 #[.slice a1 (M k).length k1, .slice a2 (M k).length k2] W fun e w' => e = .returned (.bool true) ∧ W.grownBy w' none) := fun W hW => eq_ok (o1.of_eq (fun g hg => hW.block g (o1.lt g hg))) (o2.of_eq (fun g hg => hW.block g (o2.lt g hg))) (HL.out k hlt)
      clear q1 q2 o1 o2 hb
      generalize (M k).length = m at *
      go_wp2
      go_region_with (first | (go_at_call 26; refine (CE.out _ (by first | exact (Below.refl _ _).drew | exact Below.refl _ _)).mono ?_; rintro e w1 ⟨rfl, g1⟩))
      all_goals (
        have HB1 : Hid (w.grownBy w1 none) := HB.out.trans ((grown_drew _ _).trans g1)
        clear g1 d1 d2
        go_wp2
        exact ⟨⟨k + 1, by omega, by go_num, HB1.out⟩, by simp [iv]; omega⟩)
    · obtain rfl : k = 7 := by omega
      clear hb
      go_wp2
      go_ret
      exact ⟨rfl, HB.out⟩
end Go.Proofs.Ytdlkmeopiilmdaa
