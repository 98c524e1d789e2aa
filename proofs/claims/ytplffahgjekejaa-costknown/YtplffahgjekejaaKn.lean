/- CostKnown walked: the chapter's examples, both ends of all numbers. -/
import Derived.Test.YtplffahgjekejaaKa
import Derived.Deep.RegionHeld3
import Derived.Deep.Cut
namespace Go.Proofs.Ytplffahgjekejaa
open Go.ChangeShapes Go.WideShapes Go.ChangeAt Go.RowKit
set_option linter.unusedVariables false

theorem wk (k : Nat) (h : k < 12) (w : World) : Calls Try.prog 15 #[.agg #[.int .u64 1, .int .u64 4, .int .u64 20, .int .u64 10, .int .u64 2, .int .u64 100], .agg #[.int .i64 2, .int .i64 8, .int .i64 10, .int .i64 5], .int .u8 (k : Int)] w (Two (wg k) 0 w) := by
  have := Worst_ok c0 s0 c0_ok s0_ok (k : Int) (by omega) w
  rw [Int.toNat_natCast, wg_bd k h] at this
  exact this
set_option maxRecDepth 20000 in
set_option maxHeartbeats 8000000 in
theorem known_any (w : World) : Calls Try.prog 6 #[] w fun e w' => e = .returned (.bool true) ∧ Below w.heap.size w w' := by
  obtain ⟨i0, hi, hz0, hz1, hz2⟩ := info_parts Try.infoU
  have WK : Hid (∀ k : Nat, k < 12 → ∀ w, Calls Try.prog 15 #[.agg #[.int .u64 1, .int .u64 4, .int .u64 20, .int .u64 10, .int .u64 2, .int .u64 100], .agg #[.int .i64 2, .int .i64 8, .int .i64 10, .int .i64 5], .int .u8 (k : Int)] w (Two (wg k) 0 w)) := wk
  have MK : Hid (∀ w, Calls Try.prog 17 #[.agg #[.int .u64 1, .int .u64 4, .int .u64 20, .int .u64 10, .int .u64 2, .int .u64 100], .agg #[.int .i64 2, .int .i64 8, .int .i64 10, .int .i64 5]] w (Two 2728 0 w)) := fun w => by have := Most_ok c0 s0 c0_ok s0_ok w; rwa [mx_c0] at this
  have WB : Hid (∀ w, Calls Try.prog 15 #[.agg #[.int .u64 65536, .int .u64 65536, .int .u64 65536, .int .u64 65536, .int .u64 65536, .int .u64 65536], .agg #[.int .i64 8, .int .i64 4096, .int .i64 5120, .int .i64 4096], .int .u8 3] w (Two 5302190080 0 w)) := fun w => by have := Worst_ok cb ⟨8, 4096, 5120, 4096⟩ cb_ok sb_ok 3 (by decide) w; rwa [show bd cb ⟨8, 4096, 5120, 4096⟩ (Int.toNat 3) = 5302190080 from bd_big] at this
  have SW0 : Hid (∀ w, Calls Try.prog 12 #[.agg #[.int .u64 1, .int .u64 4, .int .u64 20, .int .u64 10, .int .u64 2, .int .u64 100], .int .i64 (-1), .int .i64 0] w (Two 0 2 w)) := fun w => Switch_arg c0 (by decide) (-1) 0 (by decide) w
  have SW1 : Hid (∀ w, Calls Try.prog 12 #[.agg #[.int .u64 1, .int .u64 4, .int .u64 20, .int .u64 10, .int .u64 2, .int .u64 100], .int .i64 65537, .int .i64 0] w (Two 0 2 w)) := fun w => Switch_arg c0 (by decide) 65537 0 (by decide) w
  have SW2 : Hid (∀ w, Calls Try.prog 12 #[.agg #[.int .u64 1, .int .u64 4, .int .u64 20, .int .u64 10, .int .u64 2, .int .u64 100], .int .i64 0, .int .i64 65] w (Two 0 2 w)) := fun w => Switch_arg c0 (by decide) 0 65 (by decide) w
  have SW3 : Hid (∀ w, Calls Try.prog 12 #[.agg #[.int .u64 1, .int .u64 4, .int .u64 20, .int .u64 10, .int .u64 2, .int .u64 100], .int .i64 0, .int .i64 (-1)] w (Two 0 2 w)) := fun w => Switch_arg c0 (by decide) 0 (-1) (by decide) w
  have SW4 : Hid (∀ w, Calls Try.prog 12 #[.agg #[.int .u64 65536, .int .u64 65536, .int .u64 65536, .int .u64 65536, .int .u64 65536, .int .u64 65536], .int .i64 65536, .int .i64 64] w (Two 4299161600 0 w)) := fun w => Switch_ok cb (by decide) 65536 64 (by decide) w
  have CH0 : Hid (∀ w, Calls Try.prog 8 #[.agg #[.int .u64 1, .int .u64 4, .int .u64 20, .int .u64 10, .int .u64 2, .int .u64 100]] w (One (.int .i64 0) w)) := fun w => Check_any c0 w
  have CH1 : Hid (∀ w, Calls Try.prog 8 #[.agg #[.int .u64 65536, .int .u64 65536, .int .u64 65536, .int .u64 65536, .int .u64 65536, .int .u64 65536]] w (One (.int .i64 0) w)) := fun w => Check_any cb w
  go_enter Try.func6, Try.ntmps6
  go_wp2_with fail
  go_loopw [1, 2] (fun v i wr => ∃ (k : Nat) (vv : Value), vv = v ∧ k ≤ 12 ∧ i = .int .i64 k ∧ wr.ownsRow w.heap.size 22 1 v k (enU wg k) ∧ Below w.heap.size w wr) (fun _ i _ => 12 - (iv i).toNat)
  case atStart => exact ⟨0, _, rfl, by omega, rfl, World.ownsRow_nil _ _ _ _, Below.refl _ _⟩
  case round =>
    obtain ⟨k, v, hvv, hk, rfl, hI, hL⟩ := hrel
    subst hvv
    have HL : Hid (Below w.heap.size w wr) := hL
    have HI : Hid (wr.ownsRow w.heap.size 22 1 v k (enU wg k)) := hI
    clear hI hL
    by_cases hlt : k < 12
    · have W1k : Hid (∀ w, Calls Try.prog 15 #[.agg #[.int .u64 1, .int .u64 4, .int .u64 20, .int .u64 10, .int .u64 2, .int .u64 100], .agg #[.int .i64 2, .int .i64 8, .int .i64 10, .int .i64 5], .int .u8 (k : Int)] w (Two (wg k) 0 w)) := WK.out k hlt
      have FE : Hid (enU wg (k + 1) = enU wg k ++ [.int .u64 (wg k)]) := rfl
      generalize wg k = A at *
      go_wp2_with fail
      refine (costs_any _).mono ?_
      rintro e w3 ⟨rfl, k3⟩
      have HL3 : Hid (Below w.heap.size w w3) := HL.out.trans (k3.mono HL.out.size)
      have HI3 : Hid (w3.ownsRow w.heap.size 22 1 v k (enU wg k)) := own_below HI.out k3
      clear k3 HL HI
      go_wp2_with fail
      refine (shape_any _).mono ?_
      rintro e w4 ⟨rfl, k4⟩
      have HL4 : Hid (Below w.heap.size w w4) := HL3.out.trans (k4.mono HL3.out.size)
      have HI4 : Hid (w4.ownsRow w.heap.size 22 1 v k (enU wg k)) := own_below HI3.out k4
      clear k4 HL3 HI3
      go_wp2_with fail
      refine (W1k.out _).mono ?_
      rintro e w5 ⟨rfl, k5⟩
      have HL5 : Hid (Below w.heap.size w w5) := HL4.out.trans (k5.mono HL4.out.size)
      have HI5 : Hid (w5.ownsRow w.heap.size 22 1 v k (enU wg k)) := own_below HI4.out k5
      have hs5 := HL5.out.size
      clear k5 HL4 HI4 W1k
      go_wp2_with (at_builtin; refine wpList_append_own _ rfl (.tmp 54) (.tmp 56) 43 rfl w.heap.size 22 i0 _ 1 8 Try.underlying43 hi hz0 hz1 hz2 rfl (by decide) _ k _ rfl (HI5.out.alloc _) ⟨w5.heap.size, 0, none⟩ 1 1 [.int .u64 A] rfl rfl (cell_one_new _ _ _) (by intro u hu; simp at hu; subst hu; rfl) (by unfold maxLen; omega) (by omega) (by simp; omega) ?_; intro v2 w6 o2 gr2 nil2)
      go_roundw
      case rel =>
        refine ⟨k + 1, _, rfl, by omega, by go_num, ?_, (HL5.out.alloc hs5 _).grown gr2 (by simp; omega) (fun t ht => (HI5.out.lt t ht).1)⟩
        rw [FE.out]
        exact o2
      case measure => simp [iv]; omega
    · obtain rfl : k = 12 := by omega
      obtain ⟨gr, cp, hv, hg1, hg2⟩ := HI.out.form (by omega)
      subst hv
      have hlg : gr < wr.heap.size := (HI.out.lt gr rfl).2
      have hcc : Hid (∀ i, i < 12 → wr.cell? ⟨gr, i, none⟩ = some (.int .u64 (wg i))) := fun i hi => by
        have := HI.out.cells rfl i (.int .u64 (wg i)) (enU_get wg 12 i hi)
        rw [Go.WideShapes.add_plain, Nat.zero_add] at this
        exact this
      have HW : Hid (∀ i, i < 12 → (wr.alloc (.cells #[.int .u64 40, .int .u64 380, .int .u64 480, .int .u64 2080, .int .u64 2300, .int .u64 2728, .int .u64 1448, .int .u64 2728, .int .u64 804, .int .u64 1708, .int .u64 40, .int .u64 40] 22)).cell? ⟨wr.heap.size, i, none⟩ = some (.int .u64 (wg i))) := fun i hi => wn_cells wr i hi _ rfl
      have HG : Hid (∀ i, i < 12 → (wr.alloc (.cells #[.int .u64 40, .int .u64 380, .int .u64 480, .int .u64 2080, .int .u64 2300, .int .u64 2728, .int .u64 1448, .int .u64 2728, .int .u64 804, .int .u64 1708, .int .u64 40, .int .u64 40] 22)).cell? ⟨gr, i, none⟩ = some (.int .u64 (wg i))) := fun i hi => ((below_new wr _).cell hlg).trans (hcc.out i hi)
      have HB : Hid (Below w.heap.size w (wr.alloc (.cells #[.int .u64 40, .int .u64 380, .int .u64 480, .int .u64 2080, .int .u64 2300, .int .u64 2728, .int .u64 1448, .int .u64 2728, .int .u64 804, .int .u64 1708, .int .u64 40, .int .u64 40] 22))) := HL.out.alloc HL.out.size _
      clear hcc HI HL WK hg1 hg2
      go_wp2_with fail
      generalize (wr.alloc (.cells #[.int .u64 40, .int .u64 380, .int .u64 480, .int .u64 2080, .int .u64 2300, .int .u64 2728, .int .u64 1448, .int .u64 2728, .int .u64 804, .int .u64 1708, .int .u64 40, .int .u64 40] 22)) = W at *
      generalize hb : wr.heap.size = b at *
      clear hlg hb
      go_loopw [6] (fun i wr => ∃ k : Nat, k ≤ 12 ∧ i = .int .i64 k ∧ ∃ m, wr = W.drewN m) (fun i _ => 12 - (iv i).toNat)
      case atStart => exact ⟨0, by omega, rfl, 0, rfl⟩
      case round =>
        obtain ⟨k, hk, rfl, m, rfl⟩ := hrel
        by_cases hlt : k < 12
        · have q3 := HG.out k hlt
          have q4 := HW.out k hlt
          have q1 : (W.drewN m).cell? ⟨gr, k, none⟩ = some (.int .u64 (wg k)) := HG.out k hlt
          have q2 : (W.drewN m).cell? ⟨b, k, none⟩ = some (.int .u64 (wg k)) := HW.out k hlt
          generalize wg k = A at *
          go_wp2
          go_quiet (fail)
          go_wp2
          go_roundw
          case rel => exact ⟨k + 1, by omega, by go_num, m + nq, by first | rfl | simp [World.drewN_drewN]⟩
          case measure => simp [iv]; omega
        · obtain rfl : k = 12 := by omega
          have B1 : Hid (Below w.heap.size w (W.drewN m)) := below_drewN HB.out m
          clear HG HW HB
          generalize W.drewN m = V at *
          go_wp2_with fail
          refine (costs_any _).mono ?_
          rintro e w3 ⟨rfl, k3⟩
          have B2 : Hid (Below w.heap.size w w3) := B1.out.trans (k3.mono B1.out.size)
          clear k3 B1
          go_wp2_with fail
          refine (shape_any _).mono ?_
          rintro e w4 ⟨rfl, k4⟩
          have B3 : Hid (Below w.heap.size w w4) := B2.out.trans (k4.mono B2.out.size)
          clear k4 B2
          go_wp2_with fail
          refine (MK.out _).mono ?_
          rintro e X ⟨rfl, k5⟩
          have B4 : Hid (Below w.heap.size w X) := B3.out.trans (k5.mono B3.out.size)
          clear k5 B3 MK
          obtain ⟨j0, hj, hy0, hy1, hy2⟩ := info_parts Try.infoC
          go_wp2_with fail
          go_loopw [9, 10] (fun v i wr => ∃ (k : Nat) (vv : Value), vv = v ∧ k ≤ 10 ∧ i = .int .i64 k ∧ wr.ownsRow X.heap.size 24 6 v k (enC k) ∧ Below X.heap.size X wr) (fun _ i _ => 10 - (iv i).toNat)
          case atStart => exact ⟨0, _, rfl, by omega, rfl, World.ownsRow_nil _ _ _ _, Below.refl _ _⟩
          case round =>
            obtain ⟨k, v, hvv, hk, rfl, hI, hL⟩ := hrel
            subst hvv
            have HL : Hid (Below X.heap.size X wr) := hL
            have HI : Hid (wr.ownsRow X.heap.size 24 6 v k (enC k)) := hI
            clear hI hL
            by_cases hlt : k < 10
            · have hq : k = 0 ∨ k = 1 ∨ k = 2 ∨ k = 3 ∨ k = 4 ∨ k = 5 ∨ k = 6 ∨ k = 7 ∨ k = 8 ∨ k = 9 := by omega
              go_wp2_with fail
              refine (costs_any _).mono ?_
              rintro e w5 ⟨rfl, k5⟩
              have HL5 : Hid (Below X.heap.size X w5) := HL.out.trans (k5.mono HL.out.size)
              have HI5 : Hid (w5.ownsRow X.heap.size 24 6 v k (enC k)) := own_below HI.out k5
              have hs5 := HL5.out.size
              clear k5 HL HI hlt hk
              rcases hq with rfl | rfl | rfl | rfl | rfl | rfl | rfl | rfl | rfl | rfl
              · go_wp2_with (at_builtin; refine wpList_append_own _ rfl (.tmp 114) (.tmp 116) 46 rfl X.heap.size 24 j0 _ 6 48 Try.underlying46 hj hy0 hy1 hy2 rfl (by decide) _ 0 _ rfl ((HI5.out.alloc _).alloc _) ⟨w5.heap.size + 1, 0, none⟩ 1 1 [.int .u64 0, .int .u64 4, .int .u64 20, .int .u64 10, .int .u64 2, .int .u64 100] rfl rfl (by simpa using cells_new (w5.alloc (.cells #[.int .u64 0, .int .u64 4, .int .u64 20, .int .u64 10, .int .u64 2, .int .u64 100] 24)) [.int .u64 0, .int .u64 4, .int .u64 20, .int .u64 10, .int .u64 2, .int .u64 100] 24) (by decide) (by unfold maxLen; omega) (by omega) (by simp; omega) ?_; intro v2 w6 o2 gr2 nil2)
                go_roundw
                case rel => exact ⟨0 + 1, _, rfl, by omega, by go_num, o2, ((HL5.out.alloc hs5 _).alloc (by simp; omega) _).grown gr2 (by simp; omega) (fun t ht => (HI5.out.lt t ht).1)⟩
                case measure => simp [iv]
              · go_wp2_with (at_builtin; refine wpList_append_own _ rfl (.tmp 114) (.tmp 116) 46 rfl X.heap.size 24 j0 _ 6 48 Try.underlying46 hj hy0 hy1 hy2 rfl (by decide) _ 1 _ rfl ((HI5.out.alloc _).alloc _) ⟨w5.heap.size + 1, 0, none⟩ 1 1 [.int .u64 1, .int .u64 0, .int .u64 20, .int .u64 10, .int .u64 2, .int .u64 100] rfl rfl (by simpa using cells_new (w5.alloc (.cells #[.int .u64 1, .int .u64 0, .int .u64 20, .int .u64 10, .int .u64 2, .int .u64 100] 24)) [.int .u64 1, .int .u64 0, .int .u64 20, .int .u64 10, .int .u64 2, .int .u64 100] 24) (by decide) (by unfold maxLen; omega) (by omega) (by simp; omega) ?_; intro v2 w6 o2 gr2 nil2)
                go_roundw
                case rel => exact ⟨1 + 1, _, rfl, by omega, by go_num, o2, ((HL5.out.alloc hs5 _).alloc (by simp; omega) _).grown gr2 (by simp; omega) (fun t ht => (HI5.out.lt t ht).1)⟩
                case measure => simp [iv]
              · go_wp2_with (at_builtin; refine wpList_append_own _ rfl (.tmp 114) (.tmp 116) 46 rfl X.heap.size 24 j0 _ 6 48 Try.underlying46 hj hy0 hy1 hy2 rfl (by decide) _ 2 _ rfl ((HI5.out.alloc _).alloc _) ⟨w5.heap.size + 1, 0, none⟩ 1 1 [.int .u64 1, .int .u64 4, .int .u64 3, .int .u64 10, .int .u64 2, .int .u64 100] rfl rfl (by simpa using cells_new (w5.alloc (.cells #[.int .u64 1, .int .u64 4, .int .u64 3, .int .u64 10, .int .u64 2, .int .u64 100] 24)) [.int .u64 1, .int .u64 4, .int .u64 3, .int .u64 10, .int .u64 2, .int .u64 100] 24) (by decide) (by unfold maxLen; omega) (by omega) (by simp; omega) ?_; intro v2 w6 o2 gr2 nil2)
                go_roundw
                case rel => exact ⟨2 + 1, _, rfl, by omega, by go_num, o2, ((HL5.out.alloc hs5 _).alloc (by simp; omega) _).grown gr2 (by simp; omega) (fun t ht => (HI5.out.lt t ht).1)⟩
                case measure => simp [iv]
              · go_wp2_with (at_builtin; refine wpList_append_own _ rfl (.tmp 114) (.tmp 116) 46 rfl X.heap.size 24 j0 _ 6 48 Try.underlying46 hj hy0 hy1 hy2 rfl (by decide) _ 3 _ rfl ((HI5.out.alloc _).alloc _) ⟨w5.heap.size + 1, 0, none⟩ 1 1 [.int .u64 5, .int .u64 4, .int .u64 20, .int .u64 10, .int .u64 2, .int .u64 100] rfl rfl (by simpa using cells_new (w5.alloc (.cells #[.int .u64 5, .int .u64 4, .int .u64 20, .int .u64 10, .int .u64 2, .int .u64 100] 24)) [.int .u64 5, .int .u64 4, .int .u64 20, .int .u64 10, .int .u64 2, .int .u64 100] 24) (by decide) (by unfold maxLen; omega) (by omega) (by simp; omega) ?_; intro v2 w6 o2 gr2 nil2)
                go_roundw
                case rel => exact ⟨3 + 1, _, rfl, by omega, by go_num, o2, ((HL5.out.alloc hs5 _).alloc (by simp; omega) _).grown gr2 (by simp; omega) (fun t ht => (HI5.out.lt t ht).1)⟩
                case measure => simp [iv]
              · go_wp2_with (at_builtin; refine wpList_append_own _ rfl (.tmp 114) (.tmp 116) 46 rfl X.heap.size 24 j0 _ 6 48 Try.underlying46 hj hy0 hy1 hy2 rfl (by decide) _ 4 _ rfl ((HI5.out.alloc _).alloc _) ⟨w5.heap.size + 1, 0, none⟩ 1 1 [.int .u64 1, .int .u64 4, .int .u64 65537, .int .u64 10, .int .u64 2, .int .u64 100] rfl rfl (by simpa using cells_new (w5.alloc (.cells #[.int .u64 1, .int .u64 4, .int .u64 65537, .int .u64 10, .int .u64 2, .int .u64 100] 24)) [.int .u64 1, .int .u64 4, .int .u64 65537, .int .u64 10, .int .u64 2, .int .u64 100] 24) (by decide) (by unfold maxLen; omega) (by omega) (by simp; omega) ?_; intro v2 w6 o2 gr2 nil2)
                go_roundw
                case rel => exact ⟨4 + 1, _, rfl, by omega, by go_num, o2, ((HL5.out.alloc hs5 _).alloc (by simp; omega) _).grown gr2 (by simp; omega) (fun t ht => (HI5.out.lt t ht).1)⟩
                case measure => simp [iv]
              · go_wp2_with (at_builtin; refine wpList_append_own _ rfl (.tmp 114) (.tmp 116) 46 rfl X.heap.size 24 j0 _ 6 48 Try.underlying46 hj hy0 hy1 hy2 rfl (by decide) _ 5 _ rfl ((HI5.out.alloc _).alloc _) ⟨w5.heap.size + 1, 0, none⟩ 1 1 [.int .u64 1, .int .u64 4, .int .u64 20, .int .u64 0, .int .u64 2, .int .u64 100] rfl rfl (by simpa using cells_new (w5.alloc (.cells #[.int .u64 1, .int .u64 4, .int .u64 20, .int .u64 0, .int .u64 2, .int .u64 100] 24)) [.int .u64 1, .int .u64 4, .int .u64 20, .int .u64 0, .int .u64 2, .int .u64 100] 24) (by decide) (by unfold maxLen; omega) (by omega) (by simp; omega) ?_; intro v2 w6 o2 gr2 nil2)
                go_roundw
                case rel => exact ⟨5 + 1, _, rfl, by omega, by go_num, o2, ((HL5.out.alloc hs5 _).alloc (by simp; omega) _).grown gr2 (by simp; omega) (fun t ht => (HI5.out.lt t ht).1)⟩
                case measure => simp [iv]
              · go_wp2_with (at_builtin; refine wpList_append_own _ rfl (.tmp 114) (.tmp 116) 46 rfl X.heap.size 24 j0 _ 6 48 Try.underlying46 hj hy0 hy1 hy2 rfl (by decide) _ 6 _ rfl ((HI5.out.alloc _).alloc _) ⟨w5.heap.size + 1, 0, none⟩ 1 1 [.int .u64 1, .int .u64 4, .int .u64 20, .int .u64 10, .int .u64 0, .int .u64 100] rfl rfl (by simpa using cells_new (w5.alloc (.cells #[.int .u64 1, .int .u64 4, .int .u64 20, .int .u64 10, .int .u64 0, .int .u64 100] 24)) [.int .u64 1, .int .u64 4, .int .u64 20, .int .u64 10, .int .u64 0, .int .u64 100] 24) (by decide) (by unfold maxLen; omega) (by omega) (by simp; omega) ?_; intro v2 w6 o2 gr2 nil2)
                go_roundw
                case rel => exact ⟨6 + 1, _, rfl, by omega, by go_num, o2, ((HL5.out.alloc hs5 _).alloc (by simp; omega) _).grown gr2 (by simp; omega) (fun t ht => (HI5.out.lt t ht).1)⟩
                case measure => simp [iv]
              · go_wp2_with (at_builtin; refine wpList_append_own _ rfl (.tmp 114) (.tmp 116) 46 rfl X.heap.size 24 j0 _ 6 48 Try.underlying46 hj hy0 hy1 hy2 rfl (by decide) _ 7 _ rfl ((HI5.out.alloc _).alloc _) ⟨w5.heap.size + 1, 0, none⟩ 1 1 [.int .u64 1, .int .u64 4, .int .u64 20, .int .u64 10, .int .u64 2, .int .u64 0] rfl rfl (by simpa using cells_new (w5.alloc (.cells #[.int .u64 1, .int .u64 4, .int .u64 20, .int .u64 10, .int .u64 2, .int .u64 0] 24)) [.int .u64 1, .int .u64 4, .int .u64 20, .int .u64 10, .int .u64 2, .int .u64 0] 24) (by decide) (by unfold maxLen; omega) (by omega) (by simp; omega) ?_; intro v2 w6 o2 gr2 nil2)
                go_roundw
                case rel => exact ⟨7 + 1, _, rfl, by omega, by go_num, o2, ((HL5.out.alloc hs5 _).alloc (by simp; omega) _).grown gr2 (by simp; omega) (fun t ht => (HI5.out.lt t ht).1)⟩
                case measure => simp [iv]
              · go_wp2_with (at_builtin; refine wpList_append_own _ rfl (.tmp 114) (.tmp 116) 46 rfl X.heap.size 24 j0 _ 6 48 Try.underlying46 hj hy0 hy1 hy2 rfl (by decide) _ 8 _ rfl ((HI5.out.alloc _).alloc _) ⟨w5.heap.size + 1, 0, none⟩ 1 1 [.int .u64 1, .int .u64 4, .int .u64 20, .int .u64 10, .int .u64 2, .int .u64 65537] rfl rfl (by simpa using cells_new (w5.alloc (.cells #[.int .u64 1, .int .u64 4, .int .u64 20, .int .u64 10, .int .u64 2, .int .u64 65537] 24)) [.int .u64 1, .int .u64 4, .int .u64 20, .int .u64 10, .int .u64 2, .int .u64 65537] 24) (by decide) (by unfold maxLen; omega) (by omega) (by simp; omega) ?_; intro v2 w6 o2 gr2 nil2)
                go_roundw
                case rel => exact ⟨8 + 1, _, rfl, by omega, by go_num, o2, ((HL5.out.alloc hs5 _).alloc (by simp; omega) _).grown gr2 (by simp; omega) (fun t ht => (HI5.out.lt t ht).1)⟩
                case measure => simp [iv]
              · go_wp2_with (at_builtin; refine wpList_append_own _ rfl (.tmp 114) (.tmp 116) 46 rfl X.heap.size 24 j0 _ 6 48 Try.underlying46 hj hy0 hy1 hy2 rfl (by decide) _ 9 _ rfl ((HI5.out.alloc _).alloc _) ⟨w5.heap.size + 1, 0, none⟩ 1 1 [.int .u64 1, .int .u64 4, .int .u64 20, .int .u64 10, .int .u64 18446744073709551615, .int .u64 100] rfl rfl (by simpa using cells_new (w5.alloc (.cells #[.int .u64 1, .int .u64 4, .int .u64 20, .int .u64 10, .int .u64 18446744073709551615, .int .u64 100] 24)) [.int .u64 1, .int .u64 4, .int .u64 20, .int .u64 10, .int .u64 18446744073709551615, .int .u64 100] 24) (by decide) (by unfold maxLen; omega) (by omega) (by simp; omega) ?_; intro v2 w6 o2 gr2 nil2)
                go_roundw
                case rel => exact ⟨9 + 1, _, rfl, by omega, by go_num, o2, ((HL5.out.alloc hs5 _).alloc (by simp; omega) _).grown gr2 (by simp; omega) (fun t ht => (HI5.out.lt t ht).1)⟩
                case measure => simp [iv]
            · obtain rfl : k = 10 := by omega
              obtain ⟨gw, cw, hv, hg1, hg2⟩ := HI.out.form (by omega)
              subst hv
              have hlw : gw < wr.heap.size := (HI.out.lt gw rfl).2
              have HC : Hid (∀ i, i < 10 → ∀ j, j < 6 → wr.cell? ⟨gw, i * 6 + j, none⟩ = (en6 (wc i))[j]?) := fun i hi j hj => by
                have h1 := enC_get 10 i j hi hj
                cases hq : (en6 (wc i))[j]? with
                | none => simp [en6] at hq; omega
                | some u =>
                  have := HI.out.cells rfl (i * 6 + j) u (h1.trans hq)
                  rw [Go.WideShapes.add_plain, Nat.zero_add] at this
                  exact this
              have B5 : Hid (Below w.heap.size w wr) := B4.out.trans (HL.out.mono B4.out.size)
              clear HI HL B4 hg1 hg2 hj hy0 hy1 hy2
              go_wp2_with fail
              generalize hY : wr = Y0 at *
              clear hY
              go_loopw [12] (fun i wr => ∃ k : Nat, k ≤ 10 ∧ i = .int .i64 k ∧ Below Y0.heap.size Y0 wr) (fun i _ => 10 - (iv i).toNat)
              case atStart => exact ⟨0, by omega, rfl, Below.refl _ _⟩
              case round =>
                obtain ⟨k, hk, rfl, hL⟩ := hrel
                have HL : Hid (Below Y0.heap.size Y0 wr) := hL
                clear hL
                by_cases hlt : k < 10
                · obtain ⟨y, hy⟩ : ∃ y, wc k = y := ⟨_, rfl⟩
                  have hno : okC y = false := by rw [← hy]; exact wc_no k hlt
                  have he : ers y ⟨0, 0, 0, 0⟩ = 100 := ers_f hno
                  have HY : Hid (∀ j, j < 6 → Y0.cell? ⟨gw, k * 6 + j, none⟩ = (en6 y)[j]?) := fun j hj => by rw [← hy]; exact HC.out k hlt j hj
                  have T1 : Hid (∀ w, Calls Try.prog 10 #[.agg #[.int .u64 y.l1, .int .u64 y.llc, .int .u64 y.mi, .int .u64 y.fa, .int .u64 y.st, .int .u64 y.di], .agg #[.bool false, .bool false]] w (Two 0 100 w)) := fun w => Touch_no y hno false false w
                  have T2 : Hid (∀ w, Calls Try.prog 15 #[.agg #[.int .u64 y.l1, .int .u64 y.llc, .int .u64 y.mi, .int .u64 y.fa, .int .u64 y.st, .int .u64 y.di], .agg #[.int .i64 0, .int .i64 0, .int .i64 0, .int .i64 0], .int .u8 1] w (Two 0 100 w)) := fun w => by have := Worst_no y ⟨0, 0, 0, 0⟩ 1 (by rw [he]; decide) w; rwa [he] at this
                  have T3 : Hid (∀ w, Calls Try.prog 17 #[.agg #[.int .u64 y.l1, .int .u64 y.llc, .int .u64 y.mi, .int .u64 y.fa, .int .u64 y.st, .int .u64 y.di], .agg #[.int .i64 0, .int .i64 0, .int .i64 0, .int .i64 0]] w (Two 0 100 w)) := fun w => by have := Most_no y ⟨0, 0, 0, 0⟩ (by rw [he]; decide) w; rwa [he] at this
                  have T4 : Hid (∀ w, Calls Try.prog 12 #[.agg #[.int .u64 y.l1, .int .u64 y.llc, .int .u64 y.mi, .int .u64 y.fa, .int .u64 y.st, .int .u64 y.di], .int .i64 (-1), .int .i64 0] w (Two 0 100 w)) := fun w => Switch_cost y hno (-1) 0 w
                  have T5 : Hid (∀ w, Calls Try.prog 8 #[.agg #[.int .u64 y.l1, .int .u64 y.llc, .int .u64 y.mi, .int .u64 y.fa, .int .u64 y.st, .int .u64 y.di]] w (One (.int .i64 100) w)) := fun w => by have := Check_any y w; rwa [er_f hno] at this
                  clear hno he hy
                  have y0 : _ = some (Value.int .u64 y.l1) := (HL.out.cell (p := ⟨gw, k * 6, none⟩) hlw).trans (HY.out 0 (by omega))
                  have y1 : _ = some (Value.int .u64 y.llc) := (HL.out.cell (p := ⟨gw, k * 6 + 1, none⟩) hlw).trans (HY.out 1 (by omega))
                  have y2 : _ = some (Value.int .u64 y.mi) := (HL.out.cell (p := ⟨gw, k * 6 + 2, none⟩) hlw).trans (HY.out 2 (by omega))
                  have y3 : _ = some (Value.int .u64 y.fa) := (HL.out.cell (p := ⟨gw, k * 6 + 3, none⟩) hlw).trans (HY.out 3 (by omega))
                  have y4 : _ = some (Value.int .u64 y.st) := (HL.out.cell (p := ⟨gw, k * 6 + 4, none⟩) hlw).trans (HY.out 4 (by omega))
                  have y5 : _ = some (Value.int .u64 y.di) := (HL.out.cell (p := ⟨gw, k * 6 + 5, none⟩) hlw).trans (HY.out 5 (by omega))
                  go_wp2_with fail
                  refine (T1.out _).mono ?_
                  rintro e z0 ⟨rfl, j0⟩
                  have L0 : Hid (Below Y0.heap.size Y0 z0) := HL.out.trans (j0.mono HL.out.size)
                  clear j0 HL T1 y0 y1 y2 y3 y4 y5
                  have y0 : _ = some (Value.int .u64 y.l1) := (L0.out.cell (p := ⟨gw, k * 6, none⟩) hlw).trans (HY.out 0 (by omega))
                  have y1 : _ = some (Value.int .u64 y.llc) := (L0.out.cell (p := ⟨gw, k * 6 + 1, none⟩) hlw).trans (HY.out 1 (by omega))
                  have y2 : _ = some (Value.int .u64 y.mi) := (L0.out.cell (p := ⟨gw, k * 6 + 2, none⟩) hlw).trans (HY.out 2 (by omega))
                  have y3 : _ = some (Value.int .u64 y.fa) := (L0.out.cell (p := ⟨gw, k * 6 + 3, none⟩) hlw).trans (HY.out 3 (by omega))
                  have y4 : _ = some (Value.int .u64 y.st) := (L0.out.cell (p := ⟨gw, k * 6 + 4, none⟩) hlw).trans (HY.out 4 (by omega))
                  have y5 : _ = some (Value.int .u64 y.di) := (L0.out.cell (p := ⟨gw, k * 6 + 5, none⟩) hlw).trans (HY.out 5 (by omega))
                  go_wp2_with fail
                  refine (T2.out _).mono ?_
                  rintro e z1 ⟨rfl, j1⟩
                  have L1 : Hid (Below Y0.heap.size Y0 z1) := L0.out.trans (j1.mono L0.out.size)
                  clear j1 L0 T2 y0 y1 y2 y3 y4 y5
                  have y0 : _ = some (Value.int .u64 y.l1) := (L1.out.cell (p := ⟨gw, k * 6, none⟩) hlw).trans (HY.out 0 (by omega))
                  have y1 : _ = some (Value.int .u64 y.llc) := (L1.out.cell (p := ⟨gw, k * 6 + 1, none⟩) hlw).trans (HY.out 1 (by omega))
                  have y2 : _ = some (Value.int .u64 y.mi) := (L1.out.cell (p := ⟨gw, k * 6 + 2, none⟩) hlw).trans (HY.out 2 (by omega))
                  have y3 : _ = some (Value.int .u64 y.fa) := (L1.out.cell (p := ⟨gw, k * 6 + 3, none⟩) hlw).trans (HY.out 3 (by omega))
                  have y4 : _ = some (Value.int .u64 y.st) := (L1.out.cell (p := ⟨gw, k * 6 + 4, none⟩) hlw).trans (HY.out 4 (by omega))
                  have y5 : _ = some (Value.int .u64 y.di) := (L1.out.cell (p := ⟨gw, k * 6 + 5, none⟩) hlw).trans (HY.out 5 (by omega))
                  go_wp2_with fail
                  refine (T3.out _).mono ?_
                  rintro e z2 ⟨rfl, j2⟩
                  have L2 : Hid (Below Y0.heap.size Y0 z2) := L1.out.trans (j2.mono L1.out.size)
                  clear j2 L1 T3 y0 y1 y2 y3 y4 y5
                  have y0 : _ = some (Value.int .u64 y.l1) := (L2.out.cell (p := ⟨gw, k * 6, none⟩) hlw).trans (HY.out 0 (by omega))
                  have y1 : _ = some (Value.int .u64 y.llc) := (L2.out.cell (p := ⟨gw, k * 6 + 1, none⟩) hlw).trans (HY.out 1 (by omega))
                  have y2 : _ = some (Value.int .u64 y.mi) := (L2.out.cell (p := ⟨gw, k * 6 + 2, none⟩) hlw).trans (HY.out 2 (by omega))
                  have y3 : _ = some (Value.int .u64 y.fa) := (L2.out.cell (p := ⟨gw, k * 6 + 3, none⟩) hlw).trans (HY.out 3 (by omega))
                  have y4 : _ = some (Value.int .u64 y.st) := (L2.out.cell (p := ⟨gw, k * 6 + 4, none⟩) hlw).trans (HY.out 4 (by omega))
                  have y5 : _ = some (Value.int .u64 y.di) := (L2.out.cell (p := ⟨gw, k * 6 + 5, none⟩) hlw).trans (HY.out 5 (by omega))
                  go_wp2_with fail
                  refine (T4.out _).mono ?_
                  rintro e z3 ⟨rfl, j3⟩
                  have L3 : Hid (Below Y0.heap.size Y0 z3) := L2.out.trans (j3.mono L2.out.size)
                  clear j3 L2 T4 y0 y1 y2 y3 y4 y5
                  have y0 : _ = some (Value.int .u64 y.l1) := (L3.out.cell (p := ⟨gw, k * 6, none⟩) hlw).trans (HY.out 0 (by omega))
                  have y1 : _ = some (Value.int .u64 y.llc) := (L3.out.cell (p := ⟨gw, k * 6 + 1, none⟩) hlw).trans (HY.out 1 (by omega))
                  have y2 : _ = some (Value.int .u64 y.mi) := (L3.out.cell (p := ⟨gw, k * 6 + 2, none⟩) hlw).trans (HY.out 2 (by omega))
                  have y3 : _ = some (Value.int .u64 y.fa) := (L3.out.cell (p := ⟨gw, k * 6 + 3, none⟩) hlw).trans (HY.out 3 (by omega))
                  have y4 : _ = some (Value.int .u64 y.st) := (L3.out.cell (p := ⟨gw, k * 6 + 4, none⟩) hlw).trans (HY.out 4 (by omega))
                  have y5 : _ = some (Value.int .u64 y.di) := (L3.out.cell (p := ⟨gw, k * 6 + 5, none⟩) hlw).trans (HY.out 5 (by omega))
                  go_wp2_with fail
                  refine (T5.out _).mono ?_
                  rintro e z4 ⟨rfl, j4⟩
                  have L4 : Hid (Below Y0.heap.size Y0 z4) := L3.out.trans (j4.mono L3.out.size)
                  clear j4 L3 T5 y0 y1 y2 y3 y4 y5
                  go_wp2
                  go_roundw
                  case rel => (repeat apply Exists.intro); exact ⟨⟨k + 1, by omega, by go_num, L4.out⟩, rfl⟩
                  case measure => simp [iv]; omega
                · have B6 : Hid (Below w.heap.size w wr) := B5.out.trans (HL.out.mono B5.out.size)
                  clear B5 HL HC hlw
                  go_wp2_with fail
                  have HX : Hid (Six (wr.alloc (.cells #[.int .u64 65536, .int .u64 65536, .int .u64 65536, .int .u64 65536, .int .u64 65536, .int .u64 65536] 24)) wr.heap.size cb) := six_new wr cb
                  have B7 : Hid (Below w.heap.size w (wr.alloc (.cells #[.int .u64 65536, .int .u64 65536, .int .u64 65536, .int .u64 65536, .int .u64 65536, .int .u64 65536] 24))) := B6.out.alloc B6.out.size _
                  generalize (wr.alloc (.cells #[.int .u64 65536, .int .u64 65536, .int .u64 65536, .int .u64 65536, .int .u64 65536, .int .u64 65536] 24)) = Z0 at *
                  generalize wr.heap.size = b2 at *
                  clear B6
                  refine (WB.out _).mono ?_
                  rintro e Z1 ⟨rfl, k1⟩
                  have B8 : Hid (Below w.heap.size w Z1) := B7.out.trans (k1.mono B7.out.size)
                  have HX1 : Hid (Six Z1 b2 cb) := HX.out.below k1
                  clear k1 B7 HX WB
                  have HS : Hid (∀ i, i < 9 → (Z1.alloc (.cells #[.int .i64 3, .int .i64 8, .int .i64 10, .int .i64 5, .int .i64 0, .int .i64 8, .int .i64 10, .int .i64 5, .int .i64 16, .int .i64 8, .int .i64 10, .int .i64 5, .int .i64 1, .int .i64 1, .int .i64 10, .int .i64 5, .int .i64 1, .int .i64 4097, .int .i64 10, .int .i64 5, .int .i64 1, .int .i64 2, .int .i64 0, .int .i64 5, .int .i64 1, .int .i64 2, .int .i64 5121, .int .i64 5, .int .i64 1, .int .i64 2, .int .i64 1, .int .i64 0, .int .i64 1, .int .i64 2, .int .i64 1, .int .i64 4097] 35)).cell? ⟨Z1.heap.size, i * 4, none⟩ = some (.int .i64 (ws i).im) ∧ (Z1.alloc (.cells #[.int .i64 3, .int .i64 8, .int .i64 10, .int .i64 5, .int .i64 0, .int .i64 8, .int .i64 10, .int .i64 5, .int .i64 16, .int .i64 8, .int .i64 10, .int .i64 5, .int .i64 1, .int .i64 1, .int .i64 10, .int .i64 5, .int .i64 1, .int .i64 4097, .int .i64 10, .int .i64 5, .int .i64 1, .int .i64 2, .int .i64 0, .int .i64 5, .int .i64 1, .int .i64 2, .int .i64 5121, .int .i64 5, .int .i64 1, .int .i64 2, .int .i64 1, .int .i64 0, .int .i64 1, .int .i64 2, .int .i64 1, .int .i64 4097] 35)).cell? ⟨Z1.heap.size, i * 4 + 1, none⟩ = some (.int .i64 (ws i).us) ∧ (Z1.alloc (.cells #[.int .i64 3, .int .i64 8, .int .i64 10, .int .i64 5, .int .i64 0, .int .i64 8, .int .i64 10, .int .i64 5, .int .i64 16, .int .i64 8, .int .i64 10, .int .i64 5, .int .i64 1, .int .i64 1, .int .i64 10, .int .i64 5, .int .i64 1, .int .i64 4097, .int .i64 10, .int .i64 5, .int .i64 1, .int .i64 2, .int .i64 0, .int .i64 5, .int .i64 1, .int .i64 2, .int .i64 5121, .int .i64 5, .int .i64 1, .int .i64 2, .int .i64 1, .int .i64 0, .int .i64 1, .int .i64 2, .int .i64 1, .int .i64 4097] 35)).cell? ⟨Z1.heap.size, i * 4 + 2, none⟩ = some (.int .i64 (ws i).li) ∧ (Z1.alloc (.cells #[.int .i64 3, .int .i64 8, .int .i64 10, .int .i64 5, .int .i64 0, .int .i64 8, .int .i64 10, .int .i64 5, .int .i64 16, .int .i64 8, .int .i64 10, .int .i64 5, .int .i64 1, .int .i64 1, .int .i64 10, .int .i64 5, .int .i64 1, .int .i64 4097, .int .i64 10, .int .i64 5, .int .i64 1, .int .i64 2, .int .i64 0, .int .i64 5, .int .i64 1, .int .i64 2, .int .i64 5121, .int .i64 5, .int .i64 1, .int .i64 2, .int .i64 1, .int .i64 0, .int .i64 1, .int .i64 2, .int .i64 1, .int .i64 4097] 35)).cell? ⟨Z1.heap.size, i * 4 + 3, none⟩ = some (.int .i64 (ws i).no)) := fun i hi => sh_cells Z1 _ (by rw [enS_all]) i hi
                  have hl3 : Z1.heap.size < (Z1.alloc (.cells #[.int .i64 3, .int .i64 8, .int .i64 10, .int .i64 5, .int .i64 0, .int .i64 8, .int .i64 10, .int .i64 5, .int .i64 16, .int .i64 8, .int .i64 10, .int .i64 5, .int .i64 1, .int .i64 1, .int .i64 10, .int .i64 5, .int .i64 1, .int .i64 4097, .int .i64 10, .int .i64 5, .int .i64 1, .int .i64 2, .int .i64 0, .int .i64 5, .int .i64 1, .int .i64 2, .int .i64 5121, .int .i64 5, .int .i64 1, .int .i64 2, .int .i64 1, .int .i64 0, .int .i64 1, .int .i64 2, .int .i64 1, .int .i64 4097] 35)).heap.size := by simp
                  have HX2 : Hid (Six (Z1.alloc (.cells #[.int .i64 3, .int .i64 8, .int .i64 10, .int .i64 5, .int .i64 0, .int .i64 8, .int .i64 10, .int .i64 5, .int .i64 16, .int .i64 8, .int .i64 10, .int .i64 5, .int .i64 1, .int .i64 1, .int .i64 10, .int .i64 5, .int .i64 1, .int .i64 4097, .int .i64 10, .int .i64 5, .int .i64 1, .int .i64 2, .int .i64 0, .int .i64 5, .int .i64 1, .int .i64 2, .int .i64 5121, .int .i64 5, .int .i64 1, .int .i64 2, .int .i64 1, .int .i64 0, .int .i64 1, .int .i64 2, .int .i64 1, .int .i64 4097] 35)) b2 cb) := HX1.out.below (below_new _ _)
                  have B9 : Hid (Below w.heap.size w (Z1.alloc (.cells #[.int .i64 3, .int .i64 8, .int .i64 10, .int .i64 5, .int .i64 0, .int .i64 8, .int .i64 10, .int .i64 5, .int .i64 16, .int .i64 8, .int .i64 10, .int .i64 5, .int .i64 1, .int .i64 1, .int .i64 10, .int .i64 5, .int .i64 1, .int .i64 4097, .int .i64 10, .int .i64 5, .int .i64 1, .int .i64 2, .int .i64 0, .int .i64 5, .int .i64 1, .int .i64 2, .int .i64 5121, .int .i64 5, .int .i64 1, .int .i64 2, .int .i64 1, .int .i64 0, .int .i64 1, .int .i64 2, .int .i64 1, .int .i64 4097] 35))) := B8.out.alloc B8.out.size _
                  clear B8 HX1
                  go_wp2_with fail
                  generalize (Z1.alloc (.cells #[.int .i64 3, .int .i64 8, .int .i64 10, .int .i64 5, .int .i64 0, .int .i64 8, .int .i64 10, .int .i64 5, .int .i64 16, .int .i64 8, .int .i64 10, .int .i64 5, .int .i64 1, .int .i64 1, .int .i64 10, .int .i64 5, .int .i64 1, .int .i64 4097, .int .i64 10, .int .i64 5, .int .i64 1, .int .i64 2, .int .i64 0, .int .i64 5, .int .i64 1, .int .i64 2, .int .i64 5121, .int .i64 5, .int .i64 1, .int .i64 2, .int .i64 1, .int .i64 0, .int .i64 1, .int .i64 2, .int .i64 1, .int .i64 4097] 35)) = Z2 at *
                  generalize Z1.heap.size = b3 at *
                  go_loopw [25] (fun i wr => ∃ k : Nat, k ≤ 9 ∧ i = .int .i64 k ∧ Below Z2.heap.size Z2 wr) (fun i _ => 9 - (iv i).toNat)
                  case atStart => exact ⟨0, by omega, rfl, Below.refl _ _⟩
                  case round =>
                    obtain ⟨k, hk, rfl, hL⟩ := hrel
                    have HL : Hid (Below Z2.heap.size Z2 wr) := hL
                    clear hL
                    by_cases hlt : k < 9
                    · obtain ⟨t, ht⟩ : ∃ t, ws k = t := ⟨_, rfl⟩
                      have hno : okS t = false := by rw [← ht]; exact ws_no k hlt
                      have he : ers c0 t = 2 := ers_s (okC_iff.2 c0_ok) hno
                      have HT : Hid (Z2.cell? ⟨b3, k * 4, none⟩ = some (.int .i64 t.im) ∧ Z2.cell? ⟨b3, k * 4 + 1, none⟩ = some (.int .i64 t.us) ∧ Z2.cell? ⟨b3, k * 4 + 2, none⟩ = some (.int .i64 t.li) ∧ Z2.cell? ⟨b3, k * 4 + 3, none⟩ = some (.int .i64 t.no)) := by rw [← ht]; exact HS.out k hlt
                      have HK : Hid (∀ W, Below Z2.heap.size Z2 W → W.cell? ⟨b3, k * 4, none⟩ = some (.int .i64 t.im) ∧ W.cell? ⟨b3, k * 4 + 1, none⟩ = some (.int .i64 t.us) ∧ W.cell? ⟨b3, k * 4 + 2, none⟩ = some (.int .i64 t.li) ∧ W.cell? ⟨b3, k * 4 + 3, none⟩ = some (.int .i64 t.no)) := fun W hW => ⟨(hW.cell hl3).trans HT.out.1, (hW.cell hl3).trans HT.out.2.1, (hW.cell hl3).trans HT.out.2.2.1, (hW.cell hl3).trans HT.out.2.2.2⟩
                      have T1 : Hid (∀ w, Calls Try.prog 15 #[.agg #[.int .u64 1, .int .u64 4, .int .u64 20, .int .u64 10, .int .u64 2, .int .u64 100], .agg #[.int .i64 t.im, .int .i64 t.us, .int .i64 t.li, .int .i64 t.no], .int .u8 0] w (Two 0 2 w)) := fun w => by have := Worst_no c0 t 0 (by rw [he]; decide) w; rwa [he] at this
                      have T2 : Hid (∀ w, Calls Try.prog 17 #[.agg #[.int .u64 1, .int .u64 4, .int .u64 20, .int .u64 10, .int .u64 2, .int .u64 100], .agg #[.int .i64 t.im, .int .i64 t.us, .int .i64 t.li, .int .i64 t.no]] w (Two 0 2 w)) := fun w => by have := Most_no c0 t (by rw [he]; decide) w; rwa [he] at this
                      clear hno he ht HT HS
                      go_wp2_with fail
                      go_region_held3 (fun W => W.cell? ⟨b3, k * 4, none⟩ = some (.int .i64 t.im) ∧ W.cell? ⟨b3, k * 4 + 1, none⟩ = some (.int .i64 t.us) ∧ W.cell? ⟨b3, k * 4 + 2, none⟩ = some (.int .i64 t.li) ∧ W.cell? ⟨b3, k * 4 + 3, none⟩ = some (.int .i64 t.no))
                        (first | exact HK.out _ L2.out | exact HK.out _ L1.out | exact HK.out _ (HL.out.trans ((below_drew _ _).mono HL.out.size)))
                        (first
                          | (go_at_call 20; refine (costs_any _).mono ?_; rintro e z1 ⟨rfl, j1⟩; have L1 : Hid (Below Z2.heap.size Z2 z1) := (HL.out.trans ((below_drew _ _).mono HL.out.size)).trans (j1.mono (HL.out.trans ((below_drew _ _).mono HL.out.size)).size); clear j1)
                          | (go_at_call 15; refine (T1.out _).mono ?_; rintro e z2 ⟨rfl, j2⟩; have L2 : Hid (Below Z2.heap.size Z2 z2) := L1.out.trans (j2.mono L1.out.size); clear j2))
                      clear L1 HL T1
                      go_wp2_with fail
                      go_region_held3 (fun W => W.cell? ⟨b3, k * 4, none⟩ = some (.int .i64 t.im) ∧ W.cell? ⟨b3, k * 4 + 1, none⟩ = some (.int .i64 t.us) ∧ W.cell? ⟨b3, k * 4 + 2, none⟩ = some (.int .i64 t.li) ∧ W.cell? ⟨b3, k * 4 + 3, none⟩ = some (.int .i64 t.no))
                        (first | exact HK.out _ L4.out | exact HK.out _ L3.out | exact HK.out _ (L2.out.trans ((below_drew _ _).mono L2.out.size)))
                        (first
                          | (go_at_call 20; refine (costs_any _).mono ?_; rintro e z3 ⟨rfl, j3⟩; have L3 : Hid (Below Z2.heap.size Z2 z3) := (L2.out.trans ((below_drew _ _).mono L2.out.size)).trans (j3.mono (L2.out.trans ((below_drew _ _).mono L2.out.size)).size); clear j3)
                          | (go_at_call 17; refine (T2.out _).mono ?_; rintro e z4 ⟨rfl, j4⟩; have L4 : Hid (Below Z2.heap.size Z2 z4) := L3.out.trans (j4.mono L3.out.size); clear j4))
                      clear L2 L3 T2
                      go_wp2
                      go_roundw
                      case rel => first | exact ⟨k + 1, by omega, by go_num, L4.out⟩ | ((repeat apply Exists.intro); exact ⟨⟨k + 1, by omega, by go_num, L4.out⟩, rfl⟩)
                      case measure => simp [iv]; omega
                    · have F0 : Hid (Below w.heap.size w wr) := B9.out.trans (HL.out.mono B9.out.size)
                      have HX3 : Hid (Six wr b2 cb) := HX2.out.below HL.out
                      clear B9 HL HX2 HS hl3
                      clear hi hz0 hz1 hz2
                      go_wp2_with fail
                      refine (costs_any _).mono ?_
                      rintro e p1 ⟨rfl, i1⟩
                      have G1 : Hid (Below w.heap.size w p1) := F0.out.trans (i1.mono F0.out.size)
                      have X1 : Hid (Six p1 b2 cb) := HX3.out.below i1
                      clear i1 F0 HX3
                      go_wp2_with fail
                      refine (SW0.out _).mono ?_
                      rintro e p2 ⟨rfl, i2⟩
                      have G2 : Hid (Below w.heap.size w p2) := G1.out.trans (i2.mono G1.out.size)
                      have X2 : Hid (Six p2 b2 cb) := X1.out.below i2
                      clear i2 G1 X1
                      go_wp2_with fail
                      refine (costs_any _).mono ?_
                      rintro e p3 ⟨rfl, i3⟩
                      have G3 : Hid (Below w.heap.size w p3) := G2.out.trans (i3.mono G2.out.size)
                      have X3 : Hid (Six p3 b2 cb) := X2.out.below i3
                      clear i3 G2 X2
                      go_wp2_with fail
                      refine (SW1.out _).mono ?_
                      rintro e p4 ⟨rfl, i4⟩
                      have G4 : Hid (Below w.heap.size w p4) := G3.out.trans (i4.mono G3.out.size)
                      have X4 : Hid (Six p4 b2 cb) := X3.out.below i4
                      clear i4 G3 X3
                      go_wp2_with fail
                      refine (costs_any _).mono ?_
                      rintro e p5 ⟨rfl, i5⟩
                      have G5 : Hid (Below w.heap.size w p5) := G4.out.trans (i5.mono G4.out.size)
                      have X5 : Hid (Six p5 b2 cb) := X4.out.below i5
                      clear i5 G4 X4
                      go_wp2_with fail
                      refine (SW2.out _).mono ?_
                      rintro e p6 ⟨rfl, i6⟩
                      have G6 : Hid (Below w.heap.size w p6) := G5.out.trans (i6.mono G5.out.size)
                      have X6 : Hid (Six p6 b2 cb) := X5.out.below i6
                      clear i6 G5 X5
                      go_wp2_with fail
                      refine (costs_any _).mono ?_
                      rintro e p7 ⟨rfl, i7⟩
                      have G7 : Hid (Below w.heap.size w p7) := G6.out.trans (i7.mono G6.out.size)
                      have X7 : Hid (Six p7 b2 cb) := X6.out.below i7
                      clear i7 G6 X6
                      go_wp2_with fail
                      refine (SW3.out _).mono ?_
                      rintro e p8 ⟨rfl, i8⟩
                      have G8 : Hid (Below w.heap.size w p8) := G7.out.trans (i8.mono G7.out.size)
                      have X8 : Hid (Six p8 b2 cb) := X7.out.below i8
                      clear i8 G7 X7
                      have c0' : _ = some (Value.int .u64 65536) := X8.out.c0
                      have c1' : _ = some (Value.int .u64 65536) := X8.out.c1
                      have c2' : _ = some (Value.int .u64 65536) := X8.out.c2
                      have c3' : _ = some (Value.int .u64 65536) := X8.out.c3
                      have c4' : _ = some (Value.int .u64 65536) := X8.out.c4
                      have c5' : _ = some (Value.int .u64 65536) := X8.out.c5
                      go_wp2_with fail
                      refine (SW4.out _).mono ?_
                      rintro e p9 ⟨rfl, i9⟩
                      have G9 : Hid (Below w.heap.size w p9) := G8.out.trans (i9.mono G8.out.size)
                      have X9 : Hid (Six p9 b2 cb) := X8.out.below i9
                      clear i9 G8 X8
                      clear c0' c1' c2' c3' c4' c5'
                      go_wp2_with fail
                      refine (works_any _).mono ?_
                      rintro e p10 ⟨rfl, i10⟩
                      have G10 : Hid (Below w.heap.size w p10) := G9.out.trans (i10.mono G9.out.size)
                      have X10 : Hid (Six p10 b2 cb) := X9.out.below i10
                      clear i10 G9 X9
                      go_wp2_with fail
                      refine (costs_any _).mono ?_
                      rintro e p11 ⟨rfl, i11⟩
                      have G11 : Hid (Below w.heap.size w p11) := G10.out.trans (i11.mono G10.out.size)
                      have X11 : Hid (Six p11 b2 cb) := X10.out.below i11
                      clear i11 G10 X10
                      go_wp2_with fail
                      refine (CH0.out _).mono ?_
                      rintro e p12 ⟨rfl, i12⟩
                      have G12 : Hid (Below w.heap.size w p12) := G11.out.trans (i12.mono G11.out.size)
                      have X12 : Hid (Six p12 b2 cb) := X11.out.below i12
                      clear i12 G11 X11
                      have c0' : _ = some (Value.int .u64 65536) := X12.out.c0
                      have c1' : _ = some (Value.int .u64 65536) := X12.out.c1
                      have c2' : _ = some (Value.int .u64 65536) := X12.out.c2
                      have c3' : _ = some (Value.int .u64 65536) := X12.out.c3
                      have c4' : _ = some (Value.int .u64 65536) := X12.out.c4
                      have c5' : _ = some (Value.int .u64 65536) := X12.out.c5
                      go_wp2_with fail
                      refine (CH1.out _).mono ?_
                      rintro e p13 ⟨rfl, i13⟩
                      have G13 : Hid (Below w.heap.size w p13) := G12.out.trans (i13.mono G12.out.size)
                      have X13 : Hid (Six p13 b2 cb) := X12.out.below i13
                      clear i13 G12 X12
                      clear c0' c1' c2' c3' c4' c5'
                      go_wp2
                      go_ret
                      exact ⟨rfl, G13.out⟩
end Go.Proofs.Ytplffahgjekejaa
