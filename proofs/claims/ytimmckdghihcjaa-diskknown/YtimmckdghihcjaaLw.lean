/- The statements' own small functions: page, EqInts, works; no condition but the ranges. -/
import Derived.Test.YtimmckdghihcjaaRf
namespace Go.Proofs.Ytimmckdghihcjaa
open Go.ChangeShapes Go.WideShapes Go.ChangeAt Go.RowKit
set_option linter.unusedVariables false

/-- 256 bytes out of l. -/
def pg (l : Nat) (f : Nat → Int) (i : Nat) : Int := if i < l then f i else 0
theorem okB.pg {l : Nat} {f : Nat → Int} (h : okB l f) : okB 256 (pg l f) := fun i hi => by
  unfold Proofs.Ytimmckdghihcjaa.pg
  split
  · rename_i h1; exact h i h1
  · exact ⟨by decide, by decide⟩
theorem made_By {w : World} {base g M : Nat} (h : w.ownsRow base 5 1 (.slice (some ⟨g, 0, none⟩) M M) M (madeCells #[.int .u8 0] (M * 1)).toList) : By w g M (fun _ => 0) := by
  rcases h.2 with ⟨hnil, _⟩ | ⟨g', cap', cur, hv, hbase, hb, h1, h2, h3, h4⟩
  · cases hnil
  · cases hv
    rw [toList_madeCells_one] at h4
    refine ⟨(Array.getElem?_eq_some_iff.1 hb).1, fun k hk => ?_⟩
    have hcur : cur[k]? = some (.int .u8 0) := by
      rw [← Array.getElem?_toList, ← List.getElem?_take_of_lt (show k < M * 1 by omega), h4]
      simp [hk]
    simp [World.cell?, World.frozen?, hb, hcur]
/-- What page gives back: a new page. -/
def Pgd (w : World) (u : Nat → Int) (e : Ending) (w' : World) : Prop := ∃ g, e = .returned (.slice (some ⟨g, 0, none⟩) 256 256) ∧ By w' g 256 u ∧ w.heap.size ≤ g ∧ w.grownBy w' none
set_option maxRecDepth 100000 in
set_option maxHeartbeats 1000000 in
theorem page_any {w : World} {ao : Option Addr} {l c : Nat} {f : Nat → Int} (hl : l ≤ maxLen) (hA : Arg w ao l f) :
    Calls Try.prog 18 #[.slice ao l c] w (Pgd w (pg l f)) := by
  obtain ⟨i0, hi, hz0, hz1, hz2⟩ := info_parts Try.infoU
  have HA : Hid (Arg w ao l f) := hA
  clear hA
  unfold maxLen at hl
  go_enter Try.func18, Try.ntmps18
  go_wp2_with (at_make; refine wpList_make_full _ rfl _ _ 32 rfl w.heap.size 5 i0 (.int .u8 0) 1 Try.underlying32 hi hz0 hz1 _ _ _ _ 256 rfl rfl rfl rfl (by rw [hz2]; omega) (by unfold maxLen; omega) (Nat.le_refl _) ?_; intro w1 hown1 hgrow1)
  have HB : Hid (By w1 w.heap.size 256 (fun _ => 0)) := made_By hown1
  have HG : Hid (w.grownBy w1 none) := hgrow1
  clear hown1 hgrow1
  go_loopw [4] (fun i wr => ∃ k : Nat, k ≤ 256 ∧ k ≤ l ∧ i = .int .i64 k ∧ By wr w.heap.size 256 (pg k f) ∧ Below w.heap.size w wr) (fun i _ => 256 - (iv i).toNat)
  case atStart => exact ⟨0, by omega, by omega, rfl, HB.out.congr (fun i _ => by simp [pg]), (Below.refl _ _).grown HG.out (Nat.le_refl _) (by simp)⟩
  case round =>
    clear HB HG
    obtain ⟨k, hk1, hk2, rfl, hB, hb⟩ := hrel
    have HB : Hid (By wr w.heap.size 256 (pg k f)) := hB
    have HL : Hid (Below w.heap.size w wr) := hb
    clear hB hb
    by_cases hlt : k < l ∧ k < 256
    · obtain ⟨t1, t2⟩ := hlt
      obtain ⟨b, o, rfl, hbs, hc⟩ := HA.out.lt (by omega)
      have d1 := (HL.out.cell (p := ⟨b, o + k, none⟩) hbs).trans (hc k t1)
      obtain ⟨x1, x2⟩ := HB.out.2 k t2
      clear hc
      go_wp2
      go_roundw
      case rel =>
        have G := grown_setCell' wr w.heap.size k (.int .u8 (f k))
        refine ⟨k + 1, by omega, by omega, by go_num, ?_, HL.out.grown G HL.out.size (fun t ht => by injection ht; omega)⟩
        refine (HB.out.set k (f k)).congr (fun i _ => ?_)
        unfold upd pg
        by_cases e : i = k
        · subst e; simp
        · rw [if_neg e]
          by_cases e2 : i < k
          · rw [if_pos e2, if_pos (by omega)]
          · rw [if_neg e2, if_neg (by omega)]
      case measure => simp [iv]; omega
    · have HE : Hid (∀ i, i < 256 → pg k f i = pg l f i) := fun i hi => by
        unfold pg
        by_cases e : i < k
        · rw [if_pos e, if_pos (by omega)]
        · rw [if_neg e, if_neg (by omega)]
      rcases (show ¬ k < 256 ∨ (k < 256 ∧ ¬ k < l) by omega) with t | ⟨t1, t2⟩
      · go_wp2
        go_ret
        exact ⟨_, rfl, HB.out.congr HE.out, Nat.le_refl _, below_grow HL.out⟩
      · go_wp2
        go_ret
        exact ⟨_, rfl, HB.out.congr HE.out, Nat.le_refl _, below_grow HL.out⟩
/-- Ints at a block's beginning. -/
def IB (w : World) (g : Nat) (l : List Int) : Prop := g < w.heap.size ∧ ∀ i x, l[i]? = some x → w.cell? ⟨g, i, none⟩ = some (.int .i64 x) ∧ w.frozen? ⟨g, i, none⟩ = false
def IA (w : World) (ao : Option Addr) (l : List Int) : Prop := l = [] ∨ ∃ g, ao = some ⟨g, 0, none⟩ ∧ IB w g l
theorem IB.kept {w w' : World} {g : Nat} {l : List Int} {row : Option Nat} (h : IB w g l) (gr : w.grownBy w' row) (hne : some g ≠ row) : IB w' g l :=
  ⟨Nat.lt_of_lt_of_le h.1 gr.size, fun i x hx => ⟨(gr.cell_far _ h.1 hne).trans (h.2 i x hx).1, (gr.frozen_far _ h.1 hne).trans (h.2 i x hx).2⟩⟩
theorem IA.kept {w w' : World} {ao : Option Addr} {l : List Int} {row : Option Nat} (h : IA w ao l) (gr : w.grownBy w' row) (hne : ∀ g, ao = some ⟨g, 0, none⟩ → some g ≠ row) : IA w' ao l := by
  rcases h with h | ⟨g, e, h⟩
  · exact Or.inl h
  · exact Or.inr ⟨g, e, h.kept gr (hne g e)⟩
theorem Is.form {w : World} {base : Nat} {v : Value} {l : List Int} (h : Is w base v l) : ∃ ao c, v = .slice ao l.length c ∧ c ≤ maxLen ∧ (l = [] ∧ ao = none ∨ ∃ g, ao = some ⟨g, 0, none⟩ ∧ base ≤ g ∧ IB w g l) := by
  rcases h.2 with ⟨rfl, h0⟩ | ⟨g, c, cur, rfl, hbase, hb, h1, h2, h3, h4⟩
  · exact ⟨none, 0, by rw [h0], Nat.zero_le _, Or.inl ⟨List.eq_nil_of_length_eq_zero h0, rfl⟩⟩
  · refine ⟨_, c, rfl, h2, Or.inr ⟨g, rfl, hbase, (Array.getElem?_eq_some_iff.1 hb).1, fun i x hx => ?_⟩⟩
    have hi : i < l.length := (List.getElem?_eq_some_iff.1 hx).1
    have hcur : cur[i]? = some (.int .i64 x) := by
      rw [← Array.getElem?_toList, ← List.getElem?_take_of_lt (show i < l.length * 1 by omega), h4]
      simp [hx]
    simp [World.cell?, World.frozen?, hb, hcur]
theorem eqI_any {w : World} {a1 a2 : Option Addr} {l : List Int} {c1 c2 : Nat} (hl : l.length ≤ 1024) (h1 : IA w a1 l) (h2 : IA w a2 l) :
    Calls Try.prog 12 #[.slice a1 l.length c1, .slice a2 l.length c2] w fun e w' => e = .returned (.bool true) ∧ w.grownBy w' none := by
  have H1 : Hid (IA w a1 l) := h1
  have H2 : Hid (IA w a2 l) := h2
  clear h1 h2
  have HZ : Hid (∃ n, n = l.length) := ⟨_, rfl⟩
  obtain ⟨n, hz⟩ := HZ
  rw [← hz] at hl ⊢
  have HE : Hid (n = l.length) := hz
  clear hz
  go_enter Try.func12, Try.ntmps12
  go_wp2
  go_loopw [5] (fun i wr => ∃ k : Nat, k ≤ n ∧ i = .int .i64 k ∧ w.grownBy wr none) (fun i _ => n - (iv i).toNat)
  case atStart => exact ⟨0, by omega, rfl, World.grownBy.refl _ _⟩
  case round =>
    obtain ⟨k, hk, rfl, hb⟩ := hrel
    by_cases hlt : k < n
    · have hkl : k < l.length := by rw [← HE.out]; exact hlt
      have hx : l[k]? = some l[k] := List.getElem?_eq_getElem hkl
      have hne : l ≠ [] := fun e => by rw [e] at hkl; simp at hkl
      obtain ⟨g, rfl, hg⟩ := H1.out.resolve_left hne
      obtain ⟨g', rfl, hg'⟩ := H2.out.resolve_left hne
      have d1 := (hb.cell_far ⟨g, k, none⟩ hg.1 (by simp)).trans (hg.2 k _ hx).1
      have d2 := (hb.cell_far ⟨g', k, none⟩ hg'.1 (by simp)).trans (hg'.2 k _ hx).1
      clear hg hg' hx hne
      generalize l[k] = v at *
      clear hkl
      go_wp2
      go_quiet (fail)
      go_wp2
      go_roundw
      case rel => exact ⟨k + 1, by omega, by go_num, ⟨hb.os, hb.tape, hb.output, hb.size, hb.block⟩⟩
      case measure => simp [iv]; omega
    · obtain rfl : k = n := by omega
      go_wp2
      go_ret
      exact ⟨rfl, hb⟩
end Go.Proofs.Ytimmckdghihcjaa
