/- The law FramesApart walked. -/
import Derived.Test.YtbfagelmijimeaaPc
namespace Go.Proofs.Ytbfagelmijimeaa
open Go.ChangeShapes Go.WideShapes Go.ChangeAt Go.RowKit
set_option linter.unusedVariables false

theorem copy_arg {w : World} {o l c n : Nat} {a : Option Addr} {u f : Nat → Int} (hb : By w o n u) (hA : Arg w a l f) (ty : TypeId) :
    (Builtin.copy_ #[33, 33] ty #[.slice (some ⟨o, 0, none⟩) n n, .slice a l c]).run Try.prog w = .ok (goInt (Nat.min l n)) (w.setCells o 0 (vals (Nat.min l n) f)) := by
  by_cases h0 : Nat.min l n = 0
  · rw [h0]
    exact run_copy_none w 33 33 ty 5 _ _ _ _ _ _ Try.underlying33 (zero_of_info Try.zeroU).2 h0
  · have hl : Nat.min l n ≤ l := Nat.min_le_left _ _
    have hn : Nat.min l n ≤ n := Nat.min_le_right _ _
    obtain ⟨b, off, rfl, _, hc⟩ := hA.lt (by omega)
    have e : Result.ok (goInt (vals (Nat.min l n) f).length) (w.setCells o 0 (vals (Nat.min l n) f)) = Result.ok (goInt (Nat.min l n)) (w.setCells o 0 (vals (Nat.min l n) f)) := by rw [vals_len]
    rw [← e]
    exact run_copy_cells w 33 33 ty 5 o 0 n n ⟨b, off, none⟩ l c (vals (Nat.min l n) f) Try.underlying33 (zero_of_info Try.zeroU).2 (vals_len _ _)
      (fun i v hv => by
        have hi : i < Nat.min l n := by have := (List.getElem?_eq_some_iff.1 hv).1; rwa [vals_len] at this
        rw [vals_get _ _ _ hi] at hv
        rw [Go.WideShapes.add_plain, ← hv]
        exact hc i (by omega))
      (fun i hi => by rw [vals_len] at hi; rw [Nat.zero_add, (hb.2 i (by omega)).1]; rfl) (fun i hi => by rw [vals_len] at hi; rw [Nat.zero_add]; exact (hb.2 i (by omega)).2) (vals_one _ _)
theorem Pair.turnO {w0 w w' : World} {p g q h n o : Nat} {vs : List Value} {fa fb : Nat → Int} (P : Pair w0 p g q h n vs w fa fb) (gr : w.grownBy w' (some o)) (ho : w0.heap.size < o) (h1 : o ≠ p ∧ o ≠ g ∧ o ≠ q ∧ o ≠ h) : Pair w0 p g q h n vs w' fa fb :=
  ⟨P.a.kept gr (some_ne h1.1.symm) (some_ne h1.2.1.symm), P.b.kept gr (some_ne h1.2.2.1.symm) (some_ne h1.2.2.2.symm), P.bx.kept gr (some_ne (by omega)), P.lt, P.ne, P.bel.grown gr P.bel.size (by intro k hk; injection hk; omega)⟩
theorem Pair.sizes {w0 w : World} {p g q h n : Nat} {vs : List Value} {fa fb : Nat → Int} (P : Pair w0 p g q h n vs w fa fb) : w0.heap.size < w.heap.size ∧ p < w.heap.size ∧ g < w.heap.size ∧ q < w.heap.size ∧ h < w.heap.size :=
  ⟨P.bx.1, P.a.lt, P.a.by'.1, P.b.lt, P.b.by'.1⟩
theorem not_u8_nat : ∀ n : Fin 256, bits .xor .u8 255 (n.val : Int) = 255 - (n.val : Int) := by decide +kernel
theorem not_u8 (x : Int) (h0 : 0 ≤ x) (h1 : x < 256) : bits .xor .u8 (if IntKind.u8.signed = true then -1 else IntKind.u8.max) x = 255 - x := by
  obtain ⟨n, rfl⟩ := Int.eq_ofNat_of_zero_le h0
  exact not_u8_nat ⟨n, by omega⟩
/-- The first k bytes turned over. -/
def flip (u : Nat → Int) (k : Nat) (i : Nat) : Int := if i < k then 255 - u i else u i
theorem flip_zero (u : Nat → Int) (i : Nat) : flip u 0 i = u i := by unfold flip; rw [if_neg (by omega)]
theorem flip_at (u : Nat → Int) (k : Nat) : flip u k k = u k := by unfold flip; rw [if_neg (by omega)]
theorem flip_done (u : Nat → Int) (k i : Nat) (h : i < k) : flip u k i = 255 - u i := by unfold flip; rw [if_pos h]
theorem flip_next (u : Nat → Int) (k i : Nat) : flip u (k + 1) i = upd (flip u k) k (255 - u k) i := by
  unfold upd
  by_cases e : i = k
  · subst e
    rw [if_pos rfl, flip_done _ _ _ (by omega)]
  · rw [if_neg e]
    unfold flip
    by_cases e2 : i < k
    · rw [if_pos e2, if_pos (by omega)]
    · rw [if_neg e2, if_neg (by omega)]
theorem grown_drewN (w : World) (n : Nat) (row : Option Nat) : w.grownBy (w.drewN n) row := ⟨rfl, rfl, rfl, Nat.le_refl _, fun _ _ _ => rfl⟩
set_option maxRecDepth 100000 in
set_option maxHeartbeats 4000000 in
theorem apart_walk (w : World) (aA : Option Addr) (lA cA : Nat) (aB : Option Addr) (lB cB : Nat) (At Size V Fr : Int) (fA fB : Nat → Int) (hA : Arg w aA lA fA) (hB : Arg w aB lB fB) (hokA : okB lA fA) (hokB : okB lB fB) :
    Calls Try.prog 5 #[.agg (twoV aA lA cA aB lB cB At Size V Fr).toArray] w fun e w' => e = .returned (.bool true) ∧ Below w.heap.size w w' := by
  have HA : Hid (Arg w aA lA fA) := hA
  have HB : Hid (Arg w aB lB fB) := hB
  have HOA : Hid (okB lA fA) := hokA
  have HOB : Hid (okB lB fB) := hokB
  clear hA hokA hB hokB
  have m6 : ∀ w, (Instr.makeSlice 33 (.int .i64 256) (.int .i64 256)).run Try.prog w = .ok (.slice (some ⟨w.heap.size, 0, none⟩) 256 256) (w.alloc (.cells (vals 256 (fun _ => 0)).toArray 5)) := make_run 256 (by omega)
  have HN : Hid (∀ w : World, By (w.alloc (.cells (vals 256 (fun _ => 0)).toArray 5)) w.heap.size 256 (fun _ => 0)) := fun w => new_By
  generalize (vals 256 (fun _ => 0)).toArray = C6 at *
  unfold twoV
  go_enter Try.func5, Try.ntmps5
  go_wp2_with fail
  refine (works_any _).mono ?_
  rintro e w1 ⟨rfl, hb1⟩
  go_wp2_with fail
  refine (New_ok 2 (by omega) (by omega) w1).mono ?_
  rintro e w2 ⟨p, g, rfl, hM, gr, hp, hg⟩
  go_wp2_with fail
  refine (New_ok 2 (by omega) (by omega) w2).mono ?_
  rintro e w3 ⟨q, h, rfl, hM2, gr2, hq, hh⟩
  have hP : Pair w p g q h 2 (twoV aA lA cA aB lB cB At Size V Fr) w3 (fun _ => 0) (fun _ => 0) := Pair.start hb1 hM gr hp hg hM2 gr2 hq hh
  clear hb1 hM gr hp hg hM2 gr2 hq hh
  generalize hvs : twoV aA lA cA aB lB cB At Size V Fr = vs at hP
  have g0 : Hid (vs[0]? = some (.slice aA lA cA)) := by rw [← hvs]; rfl
  have g1 : Hid (vs[1]? = some (.slice aB lB cB)) := by rw [← hvs]; rfl
  clear hvs
  have HP : Hid (Pair w p g q h 2 vs w3 (fun _ => 0) (fun _ => 0)) := hP
  clear hP
  have hs := HP.out.sizes
  have HP4 : Hid (Pair w p g q h 2 vs ((w3.alloc (.cells C6 5)).alloc (.cells C6 5)).drew (fun _ => 0) (fun _ => 0)) := ((HP.out.grow (World.grownBy_alloc _ _ none)).grow (World.grownBy_alloc _ _ none)).grow (grown_drewN _ 1 none)
  have hb1 : By ((w3.alloc (.cells C6 5)).alloc (.cells C6 5)).drew w3.heap.size 256 (fun _ => 0) := ((HN.out w3).kept (World.grownBy_alloc _ _ none) (by simp)).kept (grown_drewN _ 1 none) (by simp)
  have hb2 : By ((w3.alloc (.cells C6 5)).alloc (.cells C6 5)).drew (w3.heap.size + 1) 256 (fun _ => 0) := by
    have h := (HN.out (w3.alloc (.cells C6 5))).kept (grown_drewN _ 1 none) (by simp)
    have e : (w3.alloc (.cells C6 5)).heap.size = w3.heap.size + 1 := by simp
    rw [e] at h
    exact h
  have Z : ∀ o1 o2, (o1 = w3.heap.size ∧ o2 = w3.heap.size + 1 ∨ o1 = w3.heap.size + 1 ∧ o2 = w3.heap.size) →
      By ((w3.alloc (.cells C6 5)).alloc (.cells C6 5)).drew o1 256 (fun _ => 0) ∧ By ((w3.alloc (.cells C6 5)).alloc (.cells C6 5)).drew o2 256 (fun _ => 0) ∧ o1 ≠ o2 ∧ (w.heap.size < o1 ∧ w.heap.size < o2) ∧ (o1 ≠ p ∧ o1 ≠ g ∧ o1 ≠ q ∧ o1 ≠ h) ∧ (o2 ≠ p ∧ o2 ≠ g ∧ o2 ≠ q ∧ o2 ≠ h) := by
    rintro o1 o2 (⟨rfl, rfl⟩ | ⟨rfl, rfl⟩)
    · exact ⟨hb1, hb2, by omega, by omega, by omega, by omega⟩
    · exact ⟨hb2, hb1, by omega, by omega, by omega, by omega⟩
  have Z1 : Hid _ := Z _ _ (Or.inl ⟨rfl, rfl⟩)
  have Z2 : Hid _ := Z _ _ (Or.inr ⟨rfl, rfl⟩)
  clear Z hb1 hb2 hs HP HN
  go_wp2_with fail
  go_region
  have Y := Z1
  clear Z1 Z2
  generalize w3.heap.size + 1 = o2 at *
  generalize w3.heap.size = o1 at *
  rotate_left
  have Y := Z2
  clear Z1 Z2
  generalize w3.heap.size + 1 = o1 at *
  generalize w3.heap.size = o2 at *
  all_goals (
    generalize ((w3.alloc (.cells C6 5)).alloc (.cells C6 5)).drew = w4 at *
    obtain ⟨hO1, hO2, n12, ⟨l1, l2⟩, d1, d2⟩ := Y
    have D1 : Hid _ := d1
    have D2 : Hid _ := d2
    have HO2 : Hid (By w4 o2 256 (fun _ => 0)) := hO2
    have c0 := HP4.out.bx.2 0 _ g0.out
    have hm1 : Nat.min lA 256 ≤ lA := Nat.min_le_left _ _
    have hm2 : Nat.min lA 256 ≤ 256 := Nat.min_le_right _ _
    have hcp := copy_arg (c := cA) hO1 (HA.out.below HP4.out.bel)
    have HO1 : Hid (By (w4.setCells o1 0 (vals (Nat.min lA 256) fA)) o1 256 (lay (fun _ => 0) 0 (Nat.min lA 256) fA)) := hO1.cells _ _ _ (by omega)
    have GR : Hid (w4.grownBy (w4.setCells o1 0 (vals (Nat.min lA 256) fA)) (some o1)) := grown_setCells _ _ _ _
    have OK1 : Hid (okB 256 (lay (fun _ => 0) 0 (Nat.min lA 256) fA)) := okB.lay (fun i _ => ⟨by decide, by decide⟩) 0 (fun i hi => HOA.out i (by omega))
    generalize w4.setCells o1 0 (vals (Nat.min lA 256) fA) = w5 at *
    generalize lay (fun _ => 0) 0 (Nat.min lA 256) fA = u1 at *
    have HP5 : Hid (Pair w p g q h 2 vs w5 _ _) := HP4.out.turnO GR.out l1 D1.out
    have HO2' : Hid (By w5 o2 256 (fun _ => 0)) := HO2.out.kept GR.out (some_ne n12.symm)
    clear hO1 hO2 HO2 d1 d2 hm1 hm2
    have c1 := HP5.out.bx.2 1 _ g1.out
    have hm1 : Nat.min lB 256 ≤ lB := Nat.min_le_left _ _
    have hm2 : Nat.min lB 256 ≤ 256 := Nat.min_le_right _ _
    have hcp2 := copy_arg (c := cB) HO2'.out (HB.out.below HP5.out.bel)
    have HO2 : Hid (By (w5.setCells o2 0 (vals (Nat.min lB 256) fB)) o2 256 (lay (fun _ => 0) 0 (Nat.min lB 256) fB)) := HO2'.out.cells _ _ _ (by omega)
    have GR2 : Hid (w5.grownBy (w5.setCells o2 0 (vals (Nat.min lB 256) fB)) (some o2)) := grown_setCells _ _ _ _
    have OK2 : Hid (okB 256 (lay (fun _ => 0) 0 (Nat.min lB 256) fB)) := okB.lay (fun i _ => ⟨by decide, by decide⟩) 0 (fun i hi => HOB.out i (by omega))
    generalize w5.setCells o2 0 (vals (Nat.min lB 256) fB) = w6 at *
    generalize lay (fun _ => 0) 0 (Nat.min lB 256) fB = u2 at *
    have HP6 : Hid (Pair w p g q h 2 vs w6 _ _) := HP5.out.turnO GR2.out l2 D2.out
    have HO1' : Hid (By w6 o1 256 u1) := HO1.out.kept GR2.out (some_ne n12)
    clear GR GR2 HO2' HO1 HP4 hm1 hm2
    go_wp2_with fail
    clear hcp hcp2 c0 c1 HP5
    refine (Put_ok HP6.out.a (by omega) 1 (by omega) o1 0 256 u1 HO1'.out.rd OK1.out).mono ?_
    rintro e w7 ⟨rfl, hM, gr⟩
    have HP7 : Hid (Pair w p g q h 2 vs w7 _ _) := HP6.out.turnA hM gr
    have HX1 : Hid (By w7 o1 256 u1) := HO1'.out.kept gr (some_ne D1.out.2.1)
    have HX2 : Hid (By w7 o2 256 u2) := HO2.out.kept gr (some_ne D2.out.2.1)
    clear hM gr HP6 HO1' HO2
    go_wp2_with fail
    refine (Put_ok HP7.out.b (by omega) 1 (by omega) o2 0 256 u2 HX2.out.rd OK2.out).mono ?_
    rintro e w8 ⟨rfl, hM, gr⟩
    have HP8 : Hid (Pair w p g q h 2 vs w8 _ _) := HP7.out.turnB hM gr
    have HY1 : Hid (By w8 o1 256 u1) := HX1.out.kept gr (some_ne D1.out.2.2.2)
    have HY2 : Hid (By w8 o2 256 u2) := HX2.out.kept gr (some_ne D2.out.2.2.2)
    clear hM gr HP7 HX1 HX2
    go_wp2_with fail
    refine (Put_ok HP8.out.a (by omega) 0 (by omega) o2 0 256 u2 HY2.out.rd OK2.out).mono ?_
    rintro e w9 ⟨rfl, hM, gr⟩
    have HP9 : Hid (Pair w p g q h 2 vs w9 _ _) := HP8.out.turnA hM gr
    have HX1 : Hid (By w9 o1 256 u1) := HY1.out.kept gr (some_ne D1.out.2.1)
    have HX2 : Hid (By w9 o2 256 u2) := HY2.out.kept gr (some_ne D2.out.2.1)
    clear hM gr HP8 HY1 HY2
    go_wp2_with fail
    refine (Zero_ok HP9.out.a (by omega) 0 (by omega)).mono ?_
    rintro e w10 ⟨rfl, hM, gr⟩
    have hP : Pair w p g q h 2 vs w10 _ _ := HP9.out.turnA hM gr
    have HY1 : Hid (By w10 o1 256 u1) := HX1.out.kept gr (some_ne D1.out.2.1)
    have HY2 : Hid (By w10 o2 256 u2) := HX2.out.kept gr (some_ne D2.out.2.1)
    clear hM gr HP9 HX1 HX2
    have EA : Hid (∀ i, i < 256 → lay (lay (lay (fun _ => 0) (1 * 256) 256 u1) (0 * 256) 256 u2) (0 * 256) 256 (fun _ => 0) (1 * 256 + i) = u1 i) := fun i hi => by
      unfold lay
      rw [if_neg (by omega)]
      show (if 0 * 256 ≤ 1 * 256 + i ∧ 1 * 256 + i < 0 * 256 + 256 then _ else _) = _
      rw [if_neg (by omega)]
      show (if 1 * 256 ≤ 1 * 256 + i ∧ 1 * 256 + i < 1 * 256 + 256 then _ else _) = _
      rw [if_pos (by omega), Nat.add_sub_cancel_left]
    have EB : Hid (∀ i, i < 256 → lay (fun _ => 0) (1 * 256) 256 u2 (1 * 256 + i) = u2 i) := fun i hi => by
      unfold lay
      rw [if_pos (by omega), Nat.add_sub_cancel_left]
    generalize lay (lay (lay (fun _ => 0) (1 * 256) 256 u1) (0 * 256) 256 u2) (0 * 256) 256 (fun _ => 0) = fa at *
    generalize lay (fun _ => 0) (1 * 256) 256 u2 = fb at *
    have HP : Hid (Pair w p g q h 2 vs w10 fa fb) := hP
    clear hP
    go_wp2_with fail
    refine (Page_ok HP.out.a (by omega) 1 (by omega)).mono ?_
    rintro e w11 ⟨b1, rfl, hB1, gr, lb1⟩
    have hs := HP.out.sizes
    have ho1 := HY1.out.1
    have ho2 := HY2.out.1
    have HP1 : Hid (Pair w p g q h 2 vs w11 fa fb) := HP.out.grow gr
    have HB1 : Hid (By w11 b1 256 u1) := hB1.congr EA.out
    have HX1 : Hid (By w11 o1 256 u1) := HY1.out.kept gr (by simp)
    have HX2 : Hid (By w11 o2 256 u2) := HY2.out.kept gr (by simp)
    have nb : Hid ((w.heap.size < b1 ∧ b1 ≠ o1) ∧ (b1 ≠ p ∧ b1 ≠ g ∧ b1 ≠ q ∧ b1 ≠ h)) := ⟨⟨by omega, by omega⟩, by omega, by omega, by omega, by omega⟩
    clear hB1 gr HP HY1 HY2 hs ho1 ho2 lb1
    go_wp2_with fail
    refine (Page_ok HP1.out.b (by omega) 1 (by omega)).mono ?_
    rintro e w12 ⟨b2, rfl, hB2, gr, lb2⟩
    have HP2 : Hid (Pair w p g q h 2 vs w12 fa fb) := HP1.out.grow gr
    have HB1' : Hid (By w12 b1 256 u1) := HB1.out.kept gr (by simp)
    have HB2 : Hid (By w12 b2 256 u2) := hB2.congr EB.out
    have HY1 : Hid (By w12 o1 256 u1) := HX1.out.kept gr (by simp)
    have HY2 : Hid (By w12 o2 256 u2) := HX2.out.kept gr (by simp)
    clear hB2 gr HP1 HX1 HX2 lb2 HB1
    go_wp2_with fail
    refine (same_any (by unfold maxLen; omega) HB1'.out.arg HY1.out.arg).mono ?_
    rintro e w13 ⟨rfl, gr⟩
    have HP3 : Hid (Pair w p g q h 2 vs w13 fa fb) := HP2.out.grow gr
    have HB1 : Hid (By w13 b1 256 u1) := HB1'.out.kept gr (by simp)
    have HB2' : Hid (By w13 b2 256 u2) := HB2.out.kept gr (by simp)
    have HX1 : Hid (By w13 o1 256 u1) := HY1.out.kept gr (by simp)
    have HX2 : Hid (By w13 o2 256 u2) := HY2.out.kept gr (by simp)
    clear gr HP2 HY1 HY2 HB1' HB2
    go_wp2_with fail
    refine (same_any (by unfold maxLen; omega) HB2'.out.arg HX2.out.arg).mono ?_
    rintro e w14 ⟨rfl, gr⟩
    have HP4 : Hid (Pair w p g q h 2 vs w14 fa fb) := HP3.out.grow gr
    have HB1' : Hid (By w14 b1 256 u1) := HB1.out.kept gr (by simp)
    have HY1 : Hid (By w14 o1 256 u1) := HX1.out.kept gr (by simp)
    clear gr HP3 HX1 HX2 HB1 HB2'
    go_wp2_with fail
    go_loopw [11] (fun i wr => ∃ (k : Nat) (u : Nat → Int), k ≤ 256 ∧ i = .int .i64 k ∧ Pair w p g q h 2 vs wr fa fb ∧ By wr o1 256 (flip u1 k) ∧ By wr b1 256 u) (fun i _ => 256 - (intOf i).toNat)
    case atStart => exact ⟨0, u1, by omega, rfl, HP4.out, HY1.out.congr (fun i _ => (flip_zero u1 i).symm), HB1'.out⟩
    case round =>
      clear HP4 HB1' HY1
      obtain ⟨k, u, hk, rfl, hP, hX, hB⟩ := hrel
      have HP : Hid (Pair w p g q h 2 vs _ fa fb) := hP
      have HX : Hid (By _ o1 256 _) := hX
      have HBB : Hid (By _ b1 256 u) := hB
      clear hP hX hB
      by_cases hlt : k < 256
      · obtain ⟨x1, x2⟩ := HX.out.2 k hlt
        rw [flip_at] at x1
        obtain ⟨y1, y2⟩ := HBB.out.2 k hlt
        obtain ⟨v0, v1⟩ := OK1.out k hlt
        have y3 : ∀ X, (World.setCell wr ⟨o1, k, none⟩ X).cell? ⟨b1, k, none⟩ = some (.int .u8 (u k)) := fun X => by
          rw [World.cell?_setCell_other _ _ _ _ (by intro h; cases h; exact nb.out.1.2 rfl)]; exact y1
        have y4 : ∀ X, (World.setCell wr ⟨o1, k, none⟩ X).frozen? ⟨b1, k, none⟩ = false := fun X => by
          rw [World.frozen?_setCell]; exact y2
        go_wp2
        rw [not_u8 _ v0 v1]
        go_roundw
        case rel =>
          have G1 := grown_setCell' wr o1 k (.int .u8 (255 - u1 k))
          have G2 := grown_setCell' (wr.setCell ⟨o1, k, none⟩ (.int .u8 (255 - u1 k))) b1 k (.int .u8 9)
          refine ⟨k + 1, upd u k 9, by omega, by go_num, (HP.out.turnO G1 l1 D1.out).turnO G2 nb.out.1.1 nb.out.2, ?_, ?_⟩
          · exact ((HX.out.set k (255 - u1 k)).congr (fun i _ => (flip_next u1 k i).symm)).kept G2 (some_ne nb.out.1.2.symm)
          · exact (HBB.out.kept G1 (some_ne nb.out.1.2)).set k 9
        case measure => simp [intOf]; omega
      · obtain rfl : k = 256 := by omega
        go_wp2_with fail
        refine (Page_ok HP.out.a (by omega) 1 (by omega)).mono ?_
        rintro e w15 ⟨b3, rfl, hB3, gr, lb3⟩
        have HB3 : By w15 b3 256 u1 := hB3.congr EA.out
        have HX3 := (HX.out.kept gr (by simp)).congr (fun i hi => flip_done u1 256 i hi)
        have HP5 : Hid (Pair w p g q h 2 vs w15 fa fb) := HP.out.grow gr
        have q1 := (HB3.2 255 (by omega)).1
        have q2 := (HB3.2 0 (by omega)).1
        have o3 : w15.cell? ⟨o1, 255, none⟩ = some (.int .u8 (255 - u1 255)) := (HX3.2 255 (by omega)).1
        have o4 : w15.cell? ⟨o1, 0, none⟩ = some (.int .u8 (255 - u1 0)) := (HX3.2 0 (by omega)).1
        obtain ⟨v0, v1⟩ := OK1.out 255 (by omega)
        obtain ⟨v2, v3⟩ := OK1.out 0 (by omega)
        have n1 := not_u8 (255 - u1 255) (by omega) (by omega)
        have n2 := not_u8 (255 - u1 0) (by omega) (by omega)
        rw [show 255 - (255 - u1 255) = u1 255 by omega] at n1
        rw [show 255 - (255 - u1 0) = u1 0 by omega] at n2
        clear hB3 gr HB3 HX3 HP HX HBB
        generalize u1 255 = z1 at *
        generalize u1 0 = z2 at *
        go_wp2_with fail
        go_quiet (fail)
        go_wp2
        go_ret
        exact ⟨rfl, HP5.out.bel.grown (grown_drewN _ _ none) HP5.out.bel.size (by simp)⟩)
end Go.Proofs.Ytbfagelmijimeaa
