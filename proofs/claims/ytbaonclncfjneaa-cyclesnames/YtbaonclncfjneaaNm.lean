/- The law CyclesNames walked: the numbers; both ends; counters that are none. -/
import Derived.Test.YtbaonclncfjneaaNn
namespace Go.Proofs.Ytbaonclncfjneaa
open Go.ChangeShapes Go.WideShapes Go.ChangeAt Go.RowKit Go.Deep
set_option linter.unusedVariables false

theorem okN : Ok 4194304 4194304 1099511627775 0 := ⟨by omega, by omega, by omega, by omega, by omega, by omega, by omega, by omega, by omega⟩
theorem okE : Ok 4194304 4194304 1099511627776 0 := ⟨by omega, by omega, by omega, by omega, by omega, by omega, by omega, by omega, by omega⟩
set_option maxRecDepth 100000 in
set_option maxHeartbeats 4000000 in
theorem names_walk (w : World) : Calls Try.prog 6 #[] w fun e w' => e = .returned (.bool true) ∧ Below w.heap.size w w' := by
  go_enter Try.func6, Try.ntmps6
  go_wp2_with fail
  go_loopw [1, 2] (fun v i wr => ∃ (k : Nat) (z : Option Addr), k ≤ 2 ∧ i = .int .i64 k ∧ v = .pointer z ∧ NoC wr z ∧ Below w.heap.size w wr) (fun _ i _ => 2 - (intOf i).toNat)
  case atStart => exact ⟨0, none, by omega, rfl, rfl, Or.inl rfl, Below.refl _ _⟩
  case round =>
    obtain ⟨k, z, hk, rfl, rfl, hN, hB⟩ := hrel
    have HN : Hid (NoC wr z) := hN
    have HB : Hid (Below w.heap.size w wr) := hB
    clear hN hB
    by_cases hlt : k < 2
    · go_wp2_with fail
      refine (Now_nil HN.out).mono ?_
      rintro e w1 ⟨rfl, rfl⟩
      go_wp2_with fail
      refine (Number_nil HN.out).mono ?_
      rintro e w1 ⟨rfl, rfl⟩
      go_wp2_with fail
      refine (Left_nil HN.out).mono ?_
      rintro e w1 ⟨rfl, rfl⟩
      go_wp2_with fail
      refine (Spend_nil HN.out 0).mono ?_
      rintro e w1 ⟨rfl, rfl⟩
      go_wp2_with fail
      refine (Switch_nil HN.out 0).mono ?_
      rintro e w1 ⟨rfl, rfl⟩
      go_wp2_with fail
      go_roundw
      case rel =>
        refine ⟨k + 1, _, by omega, by go_num, rfl, Or.inr ⟨_, rfl, ?_⟩, HB.out.grown (World.grownBy_alloc _ _ none) HB.out.size (by simp)⟩
        exact (blk_new _ [.int .u64 0, .int .u64 0, .int .u64 0, .int .u64 0] 58).cell 0
      case measure => simp [intOf]; omega
    · clear HN
      go_wp2_with fail
      refine (New_ok 4194304 4194304 1099511627775 (by decide) _).mono ?_
      rintro e w1 ⟨p, rfl, hC, hG, hp⟩
      have O1 : Hid (One w w1 p 4194304 4194304 1099511627775 0) := ⟨hC, okN, Nat.le_trans HB.out.size hp, HB.out.grown hG HB.out.size (by simp)⟩
      clear hC hG hp HB
      go_wp2_with fail
      refine (O1.out.now (by decide : nw 4194304 4194304 1099511627775 0 = 9223372036846387200)).mono ?_
      rintro e w2 ⟨rfl, hO⟩
      have O2 : Hid (One w w2 p 4194304 4194304 1099511627775 0) := hO
      clear hO O1
      go_wp2_with fail
      refine (O2.out.switch (by omega) (by omega)).mono ?_
      rintro e w3 ⟨rfl, hO⟩
      have O3 : Hid (One w w3 p 4194304 4194304 1099511627776 0) := hO
      clear hO O2
      go_wp2_with fail
      refine (O3.out.now (by decide : nw 4194304 4194304 1099511627776 0 = 9223372036854775808)).mono ?_
      rintro e w4 ⟨rfl, hO⟩
      have O4 : Hid (One w w4 p 4194304 4194304 1099511627776 0) := hO
      clear hO O3
      go_wp2_with fail
      refine (Spend_ok O4.out.a okE 0 (by omega) (by decide)).mono ?_
      rintro e w5 hT
      have O5 : Hid (One w w5 p 4194304 4194304 1099511627776 0) := O4.out.turn hT okE
      obtain rfl := hT.1
      clear hT O4
      go_wp2_with fail
      refine (Spend_no O5.out.a okE 1 (by decide)).mono ?_
      rintro e w6 hT
      have O6 : Hid (One w w6 p 4194304 4194304 1099511627776 0) := O5.out.turn hT okE
      obtain rfl := hT.1
      clear hT O5
      go_wp2_with fail
      refine (Switch_halt O6.out.a okE 0 rfl).mono ?_
      rintro e w7 hT
      have O7 : Hid (One w w7 p 4194304 4194304 1099511627776 0) := O6.out.turn hT okE
      obtain rfl := hT.1
      clear hT O6
      have m6 := make_run w7
      have HM : Hid (∀ w', w' = (w7.alloc (.cells (List.replicate 65 (.int .i64 0)).toArray 3)).alloc (.cells #[.int .u64 0, .int .u64 1099511627775, .int .u64 1099511627776, .int .u64 1099511627777, .int .u64 18446744073709551615] 22) → Std w w' p w7.heap.size (w7.heap.size + 1)) := by
        rintro w' rfl
        have g1 := World.grownBy_alloc w7 (.cells (List.replicate 65 (.int .i64 0)).toArray 3) none
        have g2 := World.grownBy_alloc (w7.alloc (.cells (List.replicate 65 (.int .i64 0)).toArray 3)) (.cells #[.int .u64 0, .int .u64 1099511627775, .int .u64 1099511627776, .int .u64 1099511627777, .int .u64 18446744073709551615] 22) none
        refine ⟨(O7.out.a.kept g1 (by simp)).kept g2 (by simp), (blk_new w7 _ 3).kept g2 (by simp), ?_, (O7.out.bel.grown g1 O7.out.bel.size (by simp)).grown g2 (Nat.le_trans O7.out.bel.size g1.size) (by simp)⟩
        have := blk_new (w7.alloc (.cells (List.replicate 65 (.int .i64 0)).toArray 3)) [.int .u64 0, .int .u64 1099511627775, .int .u64 1099511627776, .int .u64 1099511627777, .int .u64 18446744073709551615] 22
        simpa using this
      generalize (List.replicate 65 (Value.int .i64 0)).toArray = C6 at *
      clear O7
      go_wp2_with fail
      go_loopw [14] (fun i wr => ∃ j : Nat, j ≤ 5 ∧ i = .int .i64 j ∧ Std w wr p w7.heap.size (w7.heap.size + 1)) (fun i _ => 5 - (intOf i).toNat)
      case atStart => exact ⟨0, by omega, rfl, HM.out _ rfl⟩
      case round =>
        clear HM m6
        obtain ⟨j, hj, rfl, hS⟩ := hrel
        generalize w7.heap.size + 1 = fb at *
        generalize w7.heap.size = mb at *
        by_cases hl5 : j < 5
        · have HS : Hid (Std w wr.drew p mb fb) := hS.drew
          have HF : Hid (∀ W, Std w W p mb fb → W.cell? ⟨fb, j, none⟩ = some (.int .u64 (fst j))) := fun W h => h.first hl5
          have f0 := fst_pos j
          generalize fst j = x at *
          have HK : Hid (wr.drew.cell? ⟨fb, j, none⟩ = some (.int .u64 x)) := HF.out _ HS.out
          clear hS
          go_wp2_with fail
          go_region_held3 (fun w' => w'.cell? ⟨fb, j, none⟩ = some (.int .u64 x))
            (first | exact HK.out | exact HF.out _ (HS.out.alloc _))
            (first
              | (go_at_call 3; refine ((HS.out.alloc _).plays 1 0 x (by omega) f0 _ 3 (blk_new _ [.int .i64 0, .int .u64 1, .int .i64 1, .int .u64 0, .int .i64 1, .int .u64 0] 38)).mono ?_; rintro e w8 ⟨rfl, hY⟩; have HT : Hid (Std w w8 p mb fb) := hY; clear hY HS HK; have HS : Hid (Std w w8 p mb fb) := HT.out; clear HT; have HK : Hid (w8.cell? ⟨fb, j, none⟩ = some (.int .u64 x)) := HF.out _ HS.out)
              | (go_at_call 4; refine (HS.out.begins x _ _ f0 (by first | omega | decide) _ _ (by omega)).mono ?_; rintro e w9 ⟨rfl, hY⟩; have HT : Hid (Std w w9 p mb fb) := hY; clear hY HS HK; have HS : Hid (Std w w9 p mb fb) := HT.out; clear HT; have HK : Hid (w9.cell? ⟨fb, j, none⟩ = some (.int .u64 x)) := HF.out _ HS.out))
          go_wp2_with fail
          go_roundw
          case rel => exact ⟨j + 1, by omega, by go_num, HS.out⟩
          case measure => simp [intOf]; omega
        · have HS : Hid (Std w wr p mb fb) := hS
          clear hS
          go_wp2_with fail
          refine (awake_any _).mono ?_
          rintro e w8 ⟨rfl, hb⟩
          have HT : Hid (Std w w8 p mb fb) := HS.out.below hb
          clear hb HS
          go_wp2_with fail
          refine (Number_any HT.out.a (by omega)).mono ?_
          rintro e w9 ⟨rfl, rfl⟩
          have CL : Hid (Calls Try.prog 13 #[.pointer (some ⟨p, 0, none⟩)] w9 fun e w' => e = .returned (.int .u64 0) ∧ ∃ m, w' = w9.drewN m) := Left_any HT.out.a okE
          go_wp2_with fail
          refine CL.out.mono ?_
          rintro e w10 ⟨rfl, m, rfl⟩
          go_wp2
          go_ret
          exact ⟨rfl, below_drewN HT.out.bel m⟩
end Go.Proofs.Ytbaonclncfjneaa
