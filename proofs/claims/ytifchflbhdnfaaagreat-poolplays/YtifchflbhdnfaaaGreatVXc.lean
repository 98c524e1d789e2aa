/- What Counts of the document's pool gives back; no condition but those that each theorem names. -/
import Derived.Test.YtifchflbhdnfaaaGreatVXa
import Derived.Test.YtifchflbhdnfaaaGreatVBw
import Derived.Test.YtifchflbhdnfaaaGreatVFa
namespace Go.Proofs.YtifchflbhdnfaaaGreat.P
open B Go.ChangeShapes Go.WideShapes Go.ChangeAt Go.RowKit
set_option linter.unusedVariables false
set_option maxRecDepth 8192

theorem load7 {w : World} {g : Nat} {L : List Value} (h : B.Blk w g 58 L) (hl : L.length = 7) : (Instr.loadAt 58 (.pointer (some ⟨g, 0, none⟩))).run Tryz.prog w = .ok (.agg L.toArray) w := by
  simp only [Instr.loadAt, Instr.sureAddr, Sem.run_bind, Sem.run_pure, Result.andThen]
  exact run_loadVar_row _ _ 58 58 L.toArray (0, 0) _ h Tryz.underlying58 rfl (by rw [List.size_toArray, hl]; kernel_rfl)
theorem store7 {w : World} {g : Nat} {L M : List Value} (h : B.Blk w g 58 L) (hl : L.length = 7) (hm : M.length = 7) (h1 : M.all (·.oneCell') = true) :
    (Instr.storeAt 58 (.pointer (some ⟨g, 0, none⟩)) (.agg M.toArray)).run Tryz.prog w = .ok () (w.setRow g M.toArray) := by
  simp only [Instr.storeAt, Instr.sureAddr, Sem.run_bind, Sem.run_pure, Result.andThen]
  exact run_storeVar_row w g 58 58 L.toArray M.toArray h (by rw [List.size_toArray, hm]; kernel_rfl) (by simp [hl, hm]) (by rw [← h1]; simp)
theorem res7 {w : World} {g : Nat} {L : List Value} {tmps : Array Value} (h : B.Blk w g 58 L) (hl : L.length = 7) (hp : tmps.getD 2 undef = .pointer (some ⟨g, 0, none⟩)) : (results Tryz.f36 tmps).run Tryz.prog w = .ok (.agg L.toArray) w :=
  results_cell_row Tryz.results36 tmps w g 58 L.toArray (0, 0) _ hp h Tryz.underlying58 rfl (by rw [List.size_toArray, hl]; kernel_rfl)
theorem n7L_len (k : Nat → Nat) : (n7L k).length = 7 := rfl
theorem n7L_one (k : Nat → Nat) : (n7L k).all (·.oneCell') = true := rfl
/-- Where Counts stands: the result's block, the counts' block. -/
structure Cw (w wr : World) (g1 g2 : Nat) (k : Nat → Nat) : Prop where
  be : Below w.heap.size w wr
  l1 : w.heap.size ≤ g1
  l2 : w.heap.size ≤ g2
  ne : g1 ≠ g2
  b1 : ∃ L, B.Blk wr g1 58 L ∧ L.length = 7
  b2 : B.Blk wr g2 58 (n7L k)
theorem cw_new (w : World) (us : Us) : Cw w ((w.alloc (.cells #[.int .i64 0, .int .i64 0, .int .i64 0, .int .i64 0, .int .i64 0, .int .i64 0, .int .i64 0] 58)).alloc (.cells #[.int .i64 0, .int .i64 0, .int .i64 0, .int .i64 0, .int .i64 0, .int .i64 0, .int .i64 0] 58)) w.heap.size (w.heap.size + 1) (cF us 0 0) := by
  have k2 := B.blk_new (w.alloc (.cells #[.int .i64 0, .int .i64 0, .int .i64 0, .int .i64 0, .int .i64 0, .int .i64 0, .int .i64 0] 58)) (n7L (cF us 0 0)) 58
  rw [show (w.alloc (.cells #[.int .i64 0, .int .i64 0, .int .i64 0, .int .i64 0, .int .i64 0, .int .i64 0, .int .i64 0] 58)).heap.size = w.heap.size + 1 by simp] at k2
  exact ⟨below_two _ _ _, Nat.le_refl _, by omega, by omega, ⟨[.int .i64 0, .int .i64 0, .int .i64 0, .int .i64 0, .int .i64 0, .int .i64 0, .int .i64 0], (B.blk_new w [.int .i64 0, .int .i64 0, .int .i64 0, .int .i64 0, .int .i64 0, .int .i64 0, .int .i64 0] 58).of_eq ((below_new _ _).block _ (by simp)), rfl⟩, k2⟩
theorem Cw.set {w wr : World} {g1 g2 : Nat} {k : Nat → Nat} (h : Cw w wr g1 g2 k) {u : Nat} (hu : u < 7) (x : Nat) : Cw w (wr.setCell ⟨g2, u, none⟩ (.int .i64 (x : Nat))) g1 g2 (put k u x) := by
  obtain ⟨L, h1, h2⟩ := h.b1
  refine ⟨h.be.trans (below_setCell h.l2 h.be.size u _), h.l1, h.l2, h.ne, ⟨L, h1.of_eq ((grown_setCell' _ _ _ _).block _ h1.lt (some_ne h.ne)), h2⟩, ?_⟩
  rw [← n7L_set k hu]
  exact h.b2.set u _
theorem Cw.drew {w wr : World} {g1 g2 : Nat} {k : Nat → Nat} (h : Cw w wr g1 g2 k) : Cw w wr.drew g1 g2 k := ⟨h.be.drew, h.l1, h.l2, h.ne, h.b1, h.b2⟩
theorem rCounts_nop {w : World} : Calls Tryz.prog 36 #[.pointer none] w fun e w' => e = .returned (.agg #[.int .i64 0, .int .i64 0, .int .i64 0, .int .i64 0, .int .i64 0, .int .i64 0, .int .i64 0]) ∧ Below w.heap.size w w' := by
  have C1 : Hid (∀ W, Calls Tryz.prog 44 #[.pointer none] W fun e w' => e = .returned (.bool false) ∧ w' = W) := fun W => rthere_nop
  have HC : Hid (Cw w _ w.heap.size (w.heap.size + 1) (cF (fun _ => none) 0 0)) := cw_new w (fun _ => none)
  go_enter Tryz.func36, Tryz.ntmps36
  go_wp2_with fail
  refine (C1.out _).mono ?_
  rintro e w1 ⟨rfl, rfl⟩
  obtain ⟨W, hW⟩ : ∃ W, ((w.alloc (.cells #[.int .i64 0, .int .i64 0, .int .i64 0, .int .i64 0, .int .i64 0, .int .i64 0, .int .i64 0] 58)).alloc (.cells #[.int .i64 0, .int .i64 0, .int .i64 0, .int .i64 0, .int .i64 0, .int .i64 0, .int .i64 0] 58)) = W := ⟨_, rfl⟩
  rw [hW] at HC ⊢
  clear hW
  generalize w.heap.size + 1 = g2 at *
  obtain ⟨g1, hg1⟩ : ∃ g1, w.heap.size = g1 := ⟨_, rfl⟩
  have HG1 : Hid (w.heap.size = g1) := hg1
  rw [hg1] at HC ⊢
  clear hg1
  obtain ⟨L, k1, k2⟩ := HC.out.b1
  have hld := load7 HC.out.b2 (n7L_len _)
  have hst := store7 (M := n7L (cF (fun _ => none) 0 0)) k1 k2 (n7L_len _) (n7L_one _)
  have HR : Hid (B.Blk (W.setRow g1 (n7L (cF (fun _ => none) 0 0)).toArray) g1 58 (n7L (cF (fun _ => none) 0 0))) := setRow_heap _ _ _ _ _ _ k1
  have HB : Hid (Below w.heap.size w (W.setRow g1 (n7L (cF (fun _ => none) 0 0)).toArray)) := below_row HC.out.be HC.out.l1
  clear k1 k2
  go_wp2_with (first | (refine wpList_load_at rfl 58 (.tmp 3) rfl _ _ rfl hld ?_) | (refine wpList_store_at rfl 58 (.tmp 2) (.tmp 9) rfl _ _ rfl rfl hst ?_))
  refine bodyPost_ret (v := .agg (n7L (cF (fun _ => none) 0 0)).toArray) ?_ rfl ⟨rfl, HB.out⟩
  exact res7 HR.out (n7L_len _) rfl
theorem sf_bound {P : Par} (hP : P.Ok) (us : Us) {j : Nat} (hj : j ≤ P.k) : sf P us j ≤ 65536 := by
  have h1 := sf_le P us j
  have h2 := Nat.mul_le_mul (Nat.le_trans hj hP.k2) hP.N2
  omega
set_option maxHeartbeats 1000000 in
theorem rCounts_p {w : World} {F : Nat → Prop} {q : Nat} {P : Par} {us : Us} (h : Ro w F q P us) : Calls Tryz.prog 36 #[.pointer (some ⟨q, 0, none⟩)] w fun e w' => e = .returned (.agg #[.int .i64 (cN P us 0 : Nat), .int .i64 (cN P us 1 : Nat), .int .i64 (cN P us 2 : Nat), .int .i64 (cN P us 3 : Nat), .int .i64 (cN P us 4 : Nat), .int .i64 (cN P us 5 : Nat), .int .i64 (cN P us 6 : Nat)]) ∧ Below w.heap.size w w' := by
  obtain ⟨gc, cc, gu, vl, G, bp, L, tk, x1, x2, x3⟩ := h.me
  have hP := h.ok
  have C1 : Hid (∀ W, Below w.heap.size w W → Calls Tryz.prog 44 #[.pointer (some ⟨q, 0, none⟩)] W fun e w' => e = .returned (.bool true) ∧ w' = W) := fun W hW => rthere_p (x1.below hW)
  obtain ⟨gl, cl, rfl, hcl⟩ := x1.at hP.k1
  have HP1 : Hid (∀ W, Below w.heap.size w W → Xp W P.k q gc cc gu (.slice (some ⟨gl, 0, none⟩) P.k cl) (decide (0 < cU us 1 4096)) G bp P (opn P us) tk us) := fun W hW => x1.below hW
  have HCL : Hid (∀ W, Below w.heap.size w W → ∀ i, i < P.k → W.cell? ⟨gl, i, none⟩ = some (.pointer (some ⟨bp i, 0, none⟩))) := fun W hW i hi => (hW.cell (p := ⟨gl, i, none⟩) (rw_lt x1.row gl rfl)).trans (hcl i hi)
  have CF : Hid (∀ W, Below w.heap.size w W → ∀ i, i < P.k → Calls Tryz.prog 46 #[.pointer (some ⟨bp i, 0, none⟩)] W fun e w' => e = .returned (.int .i64 (fre P us i : Nat)) ∧ w' = W) := fun W hW i hi => reFree ((x1.below hW).bu i hi)
  have HD : Hid (cF us (sf P us P.k) (P.N * P.C) = cN P us) := cF_done hP h.va
  have HV : Hid (∀ g u, us g = some u → 1 ≤ u ∧ u ≤ 6) := fun g u hu => ⟨(h.va.us1 g u hu).1, (h.va.us1 g u hu).2.1⟩
  have hn4 := hP.NF
  have hk2 := hP.k2
  obtain ⟨n, hn⟩ : ∃ n, P.N * P.C = n := ⟨_, rfl⟩
  have HN : Hid (P.N * P.C = n) := hn
  rw [hn] at HD hn4
  have HC : Hid (Cw w _ w.heap.size (w.heap.size + 1) (cF us 0 0)) := cw_new w us
  clear h x1 x2 x3 hn hcl
  go_enter Tryz.func36, Tryz.ntmps36
  go_wp2_with fail
  refine (C1.out _ HC.out.be).mono ?_
  rintro e w1 ⟨rfl, rfl⟩
  obtain ⟨W, hW⟩ : ∃ W, ((w.alloc (.cells #[.int .i64 0, .int .i64 0, .int .i64 0, .int .i64 0, .int .i64 0, .int .i64 0, .int .i64 0] 58)).alloc (.cells #[.int .i64 0, .int .i64 0, .int .i64 0, .int .i64 0, .int .i64 0, .int .i64 0, .int .i64 0] 58)) = W := ⟨_, rfl⟩
  rw [hW] at HC ⊢
  clear hW
  generalize w.heap.size + 1 = g2 at *
  obtain ⟨g1, hg1⟩ : ∃ g1, w.heap.size = g1 := ⟨_, rfl⟩
  have HCW : Hid (Cw w W g1 g2 (cF us 0 0)) := by rw [← hg1]; exact HC.out
  rw [hg1]
  clear hg1 HC
  go_wp2
  go_loopw [4] (fun z wr => ∃ j : Nat, j ≤ n ∧ z = .int .i64 j ∧ Cw w wr g1 g2 (cF us 0 j)) (fun z _ => n - (iv z).toNat)
  case atStart => exact ⟨0, by omega, rfl, HCW.out⟩
  case round =>
    clear HCW
    obtain ⟨j, hj, rfl, hc⟩ := hrel
    have HC : Hid (Cw w wr g1 g2 (cF us 0 j)) := hc
    clear hc
    have hcu := (HP1.out wr HC.out.be).cu
    rw [HN.out] at hcu
    by_cases hlt : j < n
    · have hcg := (HP1.out wr HC.out.be).ut (g := j) (by rw [HN.out]; exact hlt)
      have hjI : (j : Int) < (n : Int) := by omega
      cases hu : us j with
      | none =>
        rw [hu] at hcg
        have HS : Hid (cF us 0 (j + 1) = cF us 0 j) := cF_skip hu
        have hcg : wr.cell? ⟨gu, j, none⟩ = some (.int .u8 0) := hcg
        clear hu
        go_wp2
        go_roundw
        case rel => exact ⟨j + 1, by omega, by go_num, by rw [HS.out]; exact HC.out⟩
        case measure => simp [iv]; omega
      | some u =>
        rw [hu] at hcg
        have hv := HV.out j u hu
        have HS : Hid (cF us 0 (j + 1) = put (cF us 0 j) u (cF us 0 j u + 1)) := cF_step hv.1 hu
        have hcg : wr.cell? ⟨gu, j, none⟩ = some (.int .u8 (u : Nat)) := hcg
        have q0 : ((u : Int) != 0) = true := by simp; omega
        have hc2 : wr.cell? ⟨g2, u, none⟩ = some (.int .i64 (cF us 0 j u : Nat)) := by rw [HC.out.b2.cell, n7L_get _ (by omega)]
        have hf2 := HC.out.b2.frozen u
        have hx : cF us 0 j u ≤ 4096 := by
          unfold cF
          rw [if_neg (by omega)]
          have := cU_le us u j
          omega
        have HC2 : Hid (Cw w (wr.setCell ⟨g2, u, none⟩ (.int .i64 ((cF us 0 j u + 1 : Nat)))) g1 g2 (put (cF us 0 j) u (cF us 0 j u + 1))) := HC.out.set (by omega) _
        have i1 : (0 : Int) ≤ (u : Int) := by omega
        have i2 : (u : Int) < 7 := by omega
        rw [← HS.out] at HC2
        clear hu HS
        generalize cF us 0 j u = x at *
        go_wp2
        go_roundw
        case rel => exact ⟨j + 1, by omega, by go_num, HC2.out⟩
        case measure => simp [iv]; omega
    · obtain rfl : j = n := by omega
      go_wp2
      go_loopw [5] (fun z wr => ∃ i : Nat, i ≤ P.k ∧ z = .int .i64 i ∧ Cw w wr g1 g2 (cF us (sf P us i) j)) (fun z _ => P.k - (iv z).toNat)
      case atStart => exact ⟨0, by omega, rfl, HC.out⟩
      case round =>
        clear HC hcu
        obtain ⟨i, hi, rfl, hc⟩ := hrel
        have HC : Hid (Cw w wr g1 g2 (cF us (sf P us i) j)) := hc
        clear hc
        have ccl := (HP1.out wr HC.out.be).cl
        by_cases hlt : i < P.k
        · have hcb := HCL.out wr HC.out.be i hlt
          have CF2 : Hid (∀ m, Calls Tryz.prog 46 #[.pointer (some ⟨bp i, 0, none⟩)] (wr.drewN m) fun e w' => e = .returned (.int .i64 (fre P us i : Nat)) ∧ w' = wr.drewN m) := fun m => CF.out _ (below_drewN HC.out.be m) i hlt
          have hiI : (i : Int) < (P.k : Int) := by omega
          have hx := sf_bound hP us (Nat.le_of_lt hlt)
          have hy := sf_bound hP us (show i + 1 ≤ P.k from hlt)
          have HS : Hid (sf P us (i + 1) = sf P us i + fre P us i) := rfl
          rw [HS.out] at hy
          have hc2 : wr.cell? ⟨g2, 0, none⟩ = some (.int .i64 (sf P us i : Nat)) := by rw [HC.out.b2.cell, n7L_get _ (by omega)]; rfl
          have hf2 := HC.out.b2.frozen 0
          have HC2 : Hid (Cw w (wr.setCell ⟨g2, 0, none⟩ (.int .i64 ((sf P us i + fre P us i : Nat)))) g1 g2 (cF us (sf P us i + fre P us i) j)) := by
            have := HC.out.set (u := 0) (by omega) (sf P us i + fre P us i)
            rw [cF_free] at this
            exact this
          have HBe : Hid (Below w.heap.size w wr) := HC.out.be
          have CF3 : Hid (∀ W, Below w.heap.size w W → Calls Tryz.prog 46 #[.pointer (some ⟨bp i, 0, none⟩)] W fun e w' => e = .returned (.int .i64 (fre P us i : Nat)) ∧ w' = W) := fun W hW => CF.out W hW i hlt
          clear CF2 HC
          generalize fre P us i = y at *
          generalize sf P us i = x at *
          go_wp2
          go_region_with (go_at_call 46; refine (CF3.out _ (by first | exact HBe.out.drew | exact HBe.out)).mono ?_; rintro e w' ⟨rfl, h⟩; obtain rfl := h.symm)
          all_goals (
            go_wp2
            go_roundw
            case rel => exact ⟨i + 1, by omega, by go_num, by rw [HS.out]; first | exact HC2.out | exact HC2.out.drew⟩
            case measure => simp [iv]; omega)
        · obtain rfl : i = P.k := by omega
          rw [HD.out] at HC
          obtain ⟨L, k1, k2⟩ := HC.out.b1
          have hld := load7 HC.out.b2 (n7L_len _)
          have hst := store7 (M := n7L (cN P us)) k1 k2 (n7L_len _) (n7L_one _)
          have HR : Hid (B.Blk (wr.setRow g1 (n7L (cN P us)).toArray) g1 58 (n7L (cN P us))) := setRow_heap _ _ _ _ _ _ k1
          have HB : Hid (Below w.heap.size w (wr.setRow g1 (n7L (cN P us)).toArray)) := below_row HC.out.be HC.out.l1
          clear k1 k2
          go_wp2_with (first | (refine wpList_load_at rfl 58 (.tmp 3) rfl _ _ rfl hld ?_) | (refine wpList_store_at rfl 58 (.tmp 2) (.tmp 59) rfl _ _ rfl rfl hst ?_))
          refine bodyPost_ret (v := .agg (n7L (cN P us)).toArray) ?_ rfl ⟨rfl, HB.out⟩
          exact res7 HR.out (n7L_len _) rfl
end Go.Proofs.YtifchflbhdnfaaaGreat.P
