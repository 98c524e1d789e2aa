/- What Counts of the document's pool gives back; no condition but those that each theorem names. -/
import Derived.Test.YtdempgjhjcjklaaGreatVXa
import Derived.Test.YtdempgjhjcjklaaGreatVBw
import Derived.Test.YtdempgjhjcjklaaGreatVFa
import Derived.Test.YtdempgjhjcjklaaGreatVCa
namespace Go.Proofs.YtdempgjhjcjklaaGreat.P
open B Go.ChangeShapes Go.WideShapes Go.ChangeAt Go.RowKit
set_option linter.unusedVariables false
set_option maxRecDepth 8192

theorem load7 {w : World} {g : Nat} {L : List Value} (h : B.Blk w g 66 L) (hl : L.length = 7) : (Instr.loadAt 66 (.pointer (some ⟨g, 0, none⟩))).run Tryz.prog w = .ok (.agg L.toArray) w := by
  simp only [Instr.loadAt, Instr.sureAddr, Sem.run_bind, Sem.run_pure, Result.andThen]
  exact run_loadVar_row _ _ 66 66 L.toArray (0, 0) _ h Tryz.underlying66 rfl (by rw [List.size_toArray, hl]; kernel_rfl)
theorem store7 {w : World} {g : Nat} {L M : List Value} (h : B.Blk w g 66 L) (hl : L.length = 7) (hm : M.length = 7) (h1 : M.all (·.oneCell') = true) :
    (Instr.storeAt 66 (.pointer (some ⟨g, 0, none⟩)) (.agg M.toArray)).run Tryz.prog w = .ok () (w.setRow g M.toArray) := by
  simp only [Instr.storeAt, Instr.sureAddr, Sem.run_bind, Sem.run_pure, Result.andThen]
  exact run_storeVar_row w g 66 66 L.toArray M.toArray h (by rw [List.size_toArray, hm]; kernel_rfl) (by simp [hl, hm]) (by rw [← h1]; simp)
theorem res7 {w : World} {g : Nat} {L : List Value} {tmps : Array Value} (h : B.Blk w g 66 L) (hl : L.length = 7) (hp : tmps.getD 2 undef = .pointer (some ⟨g, 0, none⟩)) : (results Tryz.f40 tmps).run Tryz.prog w = .ok (.agg L.toArray) w :=
  results_cell_row Tryz.results40 tmps w g 66 L.toArray (0, 0) _ hp h Tryz.underlying66 rfl (by rw [List.size_toArray, hl]; kernel_rfl)
theorem n7L_len (k : Nat → Nat) : (n7L k).length = 7 := rfl
theorem n7L_one (k : Nat → Nat) : (n7L k).all (·.oneCell') = true := rfl
structure Cw (w wr : World) (g1 g2 : Nat) (k : Nat → Nat) : Prop where
  be : Below w.heap.size w wr
  l1 : w.heap.size ≤ g1
  l2 : w.heap.size ≤ g2
  ne : g1 ≠ g2
  b1 : ∃ L, B.Blk wr g1 66 L ∧ L.length = 7
  b2 : B.Blk wr g2 66 (n7L k)
theorem cw_new (w : World) (us : Us) : Cw w ((w.alloc (.cells #[.int .i64 0, .int .i64 0, .int .i64 0, .int .i64 0, .int .i64 0, .int .i64 0, .int .i64 0] 66)).alloc (.cells #[.int .i64 0, .int .i64 0, .int .i64 0, .int .i64 0, .int .i64 0, .int .i64 0, .int .i64 0] 66)) w.heap.size (w.heap.size + 1) (cF us 0 0) := by
  have k2 := B.blk_new (w.alloc (.cells #[.int .i64 0, .int .i64 0, .int .i64 0, .int .i64 0, .int .i64 0, .int .i64 0, .int .i64 0] 66)) (n7L (cF us 0 0)) 66
  rw [show (w.alloc (.cells #[.int .i64 0, .int .i64 0, .int .i64 0, .int .i64 0, .int .i64 0, .int .i64 0, .int .i64 0] 66)).heap.size = w.heap.size + 1 by simp] at k2
  exact ⟨below_two _ _ _, Nat.le_refl _, by omega, by omega, ⟨[.int .i64 0, .int .i64 0, .int .i64 0, .int .i64 0, .int .i64 0, .int .i64 0, .int .i64 0], (B.blk_new w [.int .i64 0, .int .i64 0, .int .i64 0, .int .i64 0, .int .i64 0, .int .i64 0, .int .i64 0] 66).of_eq ((below_new _ _).block _ (by simp)), rfl⟩, k2⟩
theorem Cw.set {w wr : World} {g1 g2 : Nat} {k : Nat → Nat} (h : Cw w wr g1 g2 k) {u : Nat} (hu : u < 7) (x : Nat) : Cw w (wr.setCell ⟨g2, u, none⟩ (.int .i64 (x : Nat))) g1 g2 (put k u x) := by
  obtain ⟨L, h1, h2⟩ := h.b1
  refine ⟨h.be.trans (below_setCell h.l2 h.be.size u _), h.l1, h.l2, h.ne, ⟨L, h1.of_eq ((grown_setCell' _ _ _ _).block _ h1.lt (some_ne h.ne)), h2⟩, ?_⟩
  rw [← n7L_set k hu]
  exact h.b2.set u _
theorem Cw.drew {w wr : World} {g1 g2 : Nat} {k : Nat → Nat} (h : Cw w wr g1 g2 k) : Cw w wr.drew g1 g2 k := ⟨h.be.drew, h.l1, h.l2, h.ne, h.b1, h.b2⟩
theorem sf_bound {P : Par} (hP : P.Ok) (us : Us) {j : Nat} (hj : j ≤ P.k) : sf P us j ≤ 65536 := by
  have h1 := sf_le P us j
  have h2 := Nat.mul_le_mul (Nat.le_trans hj hP.k2) hP.N2
  omega
set_option maxHeartbeats 1000000 in
theorem rCounts_p {w : World} {F : Nat → Prop} {q : Nat} {P : Par} {us : Us} (h : Ro w F q P us) : Calls Tryz.prog 40 #[.pointer (some ⟨q, 0, none⟩)] w fun e w' => e = .returned (.agg #[.int .i64 (cN P us 0 : Nat), .int .i64 (cN P us 1 : Nat), .int .i64 (cN P us 2 : Nat), .int .i64 (cN P us 3 : Nat), .int .i64 (cN P us 4 : Nat), .int .i64 (cN P us 5 : Nat), .int .i64 (cN P us 6 : Nat)]) ∧ Below w.heap.size w w' := by
  obtain ⟨gc, cc, gu, vl, G, bp, L, tk, x1, x2, x3⟩ := h.me
  have hP := h.ok
  have C1 : Hid (∀ W, Below w.heap.size w W → Calls Tryz.prog 61 #[.pointer (some ⟨q, 0, none⟩)] W fun e w' => e = .returned (.bool true) ∧ w' = W) := fun W hW => rthere_p (x1.below hW)
  obtain ⟨gl, cl, rfl, hcl⟩ := x1.at hP.k1
  have HP1 : Hid (∀ W, Below w.heap.size w W → Xp W P.k q gc cc gu (.slice (some ⟨gl, 0, none⟩) P.k cl) (decide (0 < cU us 1 4096)) G bp P (opn P us) tk us) := fun W hW => x1.below hW
  have HCL : Hid (∀ W, Below w.heap.size w W → ∀ i, i < P.k → W.cell? ⟨gl, i, none⟩ = some (.pointer (some ⟨bp i, 0, none⟩))) := fun W hW i hi => (hW.cell (p := ⟨gl, i, none⟩) (rw_lt x1.row gl rfl)).trans (hcl i hi)
  have CF : Hid (∀ W, Below w.heap.size w W → ∀ i, i < P.k → Calls Tryz.prog 76 #[.pointer (some ⟨bp i, 0, none⟩)] W fun e w' => e = .returned (.int .i64 (fre P us i : Nat)) ∧ w' = W) := fun W hW i hi => reFree ((x1.below hW).bu i hi)
  have HD : Hid (cF us (sf P us P.k) (P.N * P.C) = cN P us) := cF_done hP h.va
  have HV : Hid (∀ g u, us g = some u → 1 ≤ u ∧ u ≤ 6) := fun g u hu => ⟨(h.va.us1 g u hu).1, (h.va.us1 g u hu).2.1⟩
  have hn4 := hP.NF
  have hk2 := hP.k2
  obtain ⟨n, hn⟩ : ∃ n, P.N * P.C = n := ⟨_, rfl⟩
  have HN : Hid (P.N * P.C = n) := hn
  rw [hn] at HD hn4
  have HC : Hid (Cw w _ w.heap.size (w.heap.size + 1) (cF us 0 0)) := cw_new w us
  clear h x1 x2 x3 hn hcl
  go_enter Tryz.func40, Tryz.ntmps40
  go_wp2_with fail
  refine (C1.out _ HC.out.be).mono ?_
  rintro e w1 ⟨rfl, rfl⟩
  obtain ⟨W, hW⟩ : ∃ W, ((w.alloc (.cells #[.int .i64 0, .int .i64 0, .int .i64 0, .int .i64 0, .int .i64 0, .int .i64 0, .int .i64 0] 66)).alloc (.cells #[.int .i64 0, .int .i64 0, .int .i64 0, .int .i64 0, .int .i64 0, .int .i64 0, .int .i64 0] 66)) = W := ⟨_, rfl⟩
  rw [hW] at HC ⊢
  clear hW
  generalize w.heap.size + 1 = g2 at *
  obtain ⟨g1, hg1⟩ : ∃ g1, w.heap.size = g1 := ⟨_, rfl⟩
  have HCW : Hid (Cw w W g1 g2 (cF us 0 0)) := by rw [← hg1]; exact HC.out
  rw [hg1]
  clear hg1 HC
  go_wp2
  go_loopw [4] (fun z wr => ∃ j : Nat, j ≤ n ∧ z = .int .i64 j ∧ Cw w wr g1 g2 (cF us 0 j)) (fun z _ => n - (iv z).toNat)
  case atStart => exact ⟨0, by omega, rfl, HCW.out⟩
  case round =>
    clear HCW
    obtain ⟨j, hj, rfl, hc⟩ := hrel
    have HC : Hid (Cw w wr g1 g2 (cF us 0 j)) := hc
    clear hc
    have hcu := (HP1.out wr HC.out.be).cu
    rw [HN.out] at hcu
    by_cases hlt : j < n
    · have hcg := (HP1.out wr HC.out.be).ut (g := j) (by rw [HN.out]; exact hlt)
      have hjI : (j : Int) < (n : Int) := by omega
      cases hu : us j with
      | none =>
        rw [hu] at hcg
        have HS : Hid (cF us 0 (j + 1) = cF us 0 j) := cF_skip hu
        have hcg : wr.cell? ⟨gu, j, none⟩ = some (.int .u8 0) := hcg
        clear hu
        go_wp2
        go_roundw
        case rel => exact ⟨j + 1, by omega, by go_num, by rw [HS.out]; exact HC.out⟩
        case measure => simp [iv]; omega
      | some u =>
        rw [hu] at hcg
        have hv := HV.out j u hu
        have HS : Hid (cF us 0 (j + 1) = put (cF us 0 j) u (cF us 0 j u + 1)) := cF_step hv.1 hu
        have hcg : wr.cell? ⟨gu, j, none⟩ = some (.int .u8 (u : Nat)) := hcg
        have q0 : ((u : Int) != 0) = true := by simp; omega
        have hc2 : wr.cell? ⟨g2, u, none⟩ = some (.int .i64 (cF us 0 j u : Nat)) := by rw [HC.out.b2.cell, n7L_get _ (by omega)]
        have hf2 := HC.out.b2.frozen u
        have hx : cF us 0 j u ≤ 4096 := by
          unfold cF
          rw [if_neg (by omega)]
          have := cU_le us u j
          omega
        have HC2 : Hid (Cw w (wr.setCell ⟨g2, u, none⟩ (.int .i64 ((cF us 0 j u + 1 : Nat)))) g1 g2 (put (cF us 0 j) u (cF us 0 j u + 1))) := HC.out.set (by omega) _
        have i1 : (0 : Int) ≤ (u : Int) := by omega
        have i2 : (u : Int) < 7 := by omega
        rw [← HS.out] at HC2
        clear hu HS
        generalize cF us 0 j u = x at *
        go_wp2
        go_roundw
        case rel => exact ⟨j + 1, by omega, by go_num, HC2.out⟩
        case measure => simp [iv]; omega
    · obtain rfl : j = n := by omega
      go_wp2
      go_loopw [5] (fun z wr => ∃ i : Nat, i ≤ P.k ∧ z = .int .i64 i ∧ Cw w wr g1 g2 (cF us (sf P us i) j)) (fun z _ => P.k - (iv z).toNat)
      case atStart => exact ⟨0, by omega, rfl, HC.out⟩
      case round =>
        clear HC hcu
        obtain ⟨i, hi, rfl, hc⟩ := hrel
        have HC : Hid (Cw w wr g1 g2 (cF us (sf P us i) j)) := hc
        clear hc
        have ccl := (HP1.out wr HC.out.be).cl
        by_cases hlt : i < P.k
        · have hcb := HCL.out wr HC.out.be i hlt
          have CF2 : Hid (∀ m, Calls Tryz.prog 76 #[.pointer (some ⟨bp i, 0, none⟩)] (wr.drewN m) fun e w' => e = .returned (.int .i64 (fre P us i : Nat)) ∧ w' = wr.drewN m) := fun m => CF.out _ (below_drewN HC.out.be m) i hlt
          have hiI : (i : Int) < (P.k : Int) := by omega
          have hx := sf_bound hP us (Nat.le_of_lt hlt)
          have hy := sf_bound hP us (show i + 1 ≤ P.k from hlt)
          have HS : Hid (sf P us (i + 1) = sf P us i + fre P us i) := rfl
          rw [HS.out] at hy
          have hc2 : wr.cell? ⟨g2, 0, none⟩ = some (.int .i64 (sf P us i : Nat)) := by rw [HC.out.b2.cell, n7L_get _ (by omega)]; rfl
          have hf2 := HC.out.b2.frozen 0
          have HC2 : Hid (Cw w (wr.setCell ⟨g2, 0, none⟩ (.int .i64 ((sf P us i + fre P us i : Nat)))) g1 g2 (cF us (sf P us i + fre P us i) j)) := by
            have := HC.out.set (u := 0) (by omega) (sf P us i + fre P us i)
            rw [cF_free] at this
            exact this
          have HBe : Hid (Below w.heap.size w wr) := HC.out.be
          have CF3 : Hid (∀ W, Below w.heap.size w W → Calls Tryz.prog 76 #[.pointer (some ⟨bp i, 0, none⟩)] W fun e w' => e = .returned (.int .i64 (fre P us i : Nat)) ∧ w' = W) := fun W hW => CF.out W hW i hlt
          clear CF2 HC
          generalize fre P us i = y at *
          generalize sf P us i = x at *
          go_wp2
          go_region_with (go_at_call 76; refine (CF3.out _ (by first | exact HBe.out.drew | exact HBe.out)).mono ?_; rintro e w' ⟨rfl, h⟩; obtain rfl := h.symm)
          all_goals (
            go_wp2
            go_roundw
            case rel => exact ⟨i + 1, by omega, by go_num, by rw [HS.out]; first | exact HC2.out | exact HC2.out.drew⟩
            case measure => simp [iv]; omega)
        · obtain rfl : i = P.k := by omega
          rw [HD.out] at HC
          obtain ⟨L, k1, k2⟩ := HC.out.b1
          have hld := load7 HC.out.b2 (n7L_len _)
          have hst := store7 (M := n7L (cN P us)) k1 k2 (n7L_len _) (n7L_one _)
          have HR : Hid (B.Blk (wr.setRow g1 (n7L (cN P us)).toArray) g1 66 (n7L (cN P us))) := setRow_heap _ _ _ _ _ _ k1
          have HB : Hid (Below w.heap.size w (wr.setRow g1 (n7L (cN P us)).toArray)) := below_row HC.out.be HC.out.l1
          clear k1 k2
          go_wp2_with (first | (refine wpList_load_at rfl 66 (.tmp 3) rfl _ _ rfl hld ?_) | (refine wpList_store_at rfl 66 (.tmp 2) (.tmp 59) rfl _ _ rfl rfl hst ?_))
          refine bodyPost_ret (v := .agg (n7L (cN P us)).toArray) ?_ rfl ⟨rfl, HB.out⟩
          exact res7 HR.out (n7L_len _) rfl
end Go.Proofs.YtdempgjhjcjklaaGreat.P
namespace Go.Proofs.YtdempgjhjcjklaaGreat.P
open B Go.ChangeShapes Go.WideShapes Go.ChangeAt Go.RowKit
set_option linter.unusedVariables false
set_option maxRecDepth 8192

theorem run_ix7 (w : World) (cs : Array Value) (j : Nat) (hj : j < 7) (v : Value) (hv : cs[j]? = some v) : (Instr.index 66 (.agg cs) (.int .u8 j)).run Tryz.prog w = .ok v w := by
  have h1 : (0 : Int) ≤ (j : Int) ∧ (j : Int) < 7 := by omega
  simp [Instr.index, run_underlying Tryz.underlying66, asIntOf, h1, Tryz.sizeOf3]
  rw [if_pos hj]
  simp [part, Tryz.isAgg3, Tryz.sizeOf3, hv]
theorem rasked {w : World} {F : Nat → Prop} {q : Nat} {P : Par} {us : Us} (h : Ro w F q P us) (u : Nat) (h2 : 2 ≤ u) (h6 : u ≤ 6) :
    (∀ W, Below w.heap.size w W → Calls Tryz.prog 40 #[.pointer (some ⟨q, 0, none⟩)] W (One (.agg (n7L (cN P us)).toArray) W)) ∧ (∀ W, Below w.heap.size w W → Calls Tryz.prog 75 #[.pointer (some ⟨q, 0, none⟩), .int .u8 u] W (One (.int .i64 (P.q u : Nat)) W)) ∧ ∀ W : World, (Instr.index 66 (.agg (n7L (cN P us)).toArray) (.int .u8 u)).run Tryz.prog W = .ok (.int .i64 (cU us u 4096 : Nat)) W := by
  refine ⟨fun W hW => rCounts_p (h.below hW), fun W hW => ?_, fun W => run_ix7 W _ u (by omega) _ ?_⟩
  · obtain ⟨gc, cc, gu, vl, G, bp, L, tk, g1, g2, g3⟩ := (h.below hW).me
    exact (rquota_p g1 u h2 h6).mono (fun e w' he => ⟨he.1, he.2 ▸ Below.refl _ _⟩)
  · have := n7L_get (cN P us) (u := u) (by omega)
    rw [show cN P us u = cU us u 4096 from if_neg (by omega)] at this
    simpa using this
set_option maxHeartbeats 1000000 in
theorem rTake_mem {w : World} {F : Nat → Prop} {q : Nat} {P : Par} {us : Us} (h : Ro w F q P us) (u : Nat) (h2 : 2 ≤ u) (h6 : u ≤ 6) (hq : P.q u ≤ cU us u 4096) : Calls Tryz.prog 37 #[.pointer (some ⟨q, 0, none⟩), .int .u8 u] w fun e w' => e = .returned (.tuple #[.int .i64 0, .int .i64 4]) ∧ Below w.heap.size w w' := by
  obtain ⟨gc, cc, gu, vl, G, bp, L, tk, g1, g2, g3⟩ := h.me
  have C1 : Hid (Calls _ _ _ _ _) := rthere_p g1
  obtain ⟨a1, a2, a3⟩ := rasked h u h2 h6
  have CC : Hid (∀ W, Below w.heap.size w W → _) := a1
  have CQ : Hid (∀ W, Below w.heap.size w W → _) := a2
  have hne : Nonempty (Idx (fun W => Below w.heap.size w W)) := ⟨⟨w, Below.refl _ _⟩⟩
  generalize cU us u 4096 = x at *
  generalize P.q u = y at *
  have i3 : decide ((y : Int) ≤ (x : Int)) = true := by simp; omega
  have i4 : decide (y ≤ x) = true := by simp; omega
  have i5 : (y : Int) ≤ (x : Int) := by omega
  clear h g1 g2 g3 a1 a2
  go_enter Tryz.func37, Tryz.ntmps37
  go_wp2_with (go_at_call 61; refine C1.out.mono ?_; rintro e w' ⟨rfl, h⟩; obtain rfl := h.symm)
  refine wp_region_cls (fun W => Below w.heap.size w W) (by kernel_rfl) (by kernel_rfl) ((Below.refl _ _).drew) ?_
  repeat (go_big_quiet_step (first | (go_at_call 40; exact Calls.cls (CC.out _ (Idx.h _)) (fun _ _ h k => h.trans (k.mono h.size))) | (go_at_call 75; exact Calls.cls (CQ.out _ (Idx.h _)) (fun _ _ h k => h.trans (k.mono h.size)))))
  refine wpQuiet_nil ?_
  rintro w5 ⟨⟨_, hS5⟩, rfl⟩
  have HB5 : Hid (Below w.heap.size w w5) := hS5
  clear hS5 hne
  go_wp2
  go_ret2
  exact ⟨rfl, HB5.out⟩
theorem Xp.ro_take {w : World} {q gc cc gu : Nat} {vl : Value} {G : Nat → Nat → Prop} {bp : Nat → Nat} {P : Par} {L : Nat → Nat → List Nat} {tk : Nat → Nat → Option Nat} {us : Us} {F : Nat → Prop} (hP : P.Ok) (hv : Va P us) (g2 : Pq P us L tk (cN P us)) {i a k u : Nat} {r : List Nat} (hi : i < P.k) (hk : k ≤ 6) (he : ∀ j, 0 ≤ j → j < k → L i j = []) (hL : L i k = a :: r) (hao : opn P us i a = true) (h2 : 2 ≤ u) (h6 : u ≤ 6) (hq : cU us u 4096 < P.q u) (g3 : ∀ x, F x ↔ xfoot P.k q gc gu vl G x)
    (h : Xp w P.k q gc cc gu vl (decide (0 < cU us 1 4096)) G bp P (put (opn P us) i (shut (opn P us i) 0 (a / 2 ^ 0))) (put tk i (pt (tk i) a (some 0))) (pt us (fm P i a) (some u))) : Ro w F q P (pt us (fm P i a) (some u)) := by
  obtain ⟨hn, hg⟩ := opn_iff.1 hao
  have hlt := fm_lt hP hi hn
  have pq := g2.take hP hi hk he hL (u := u) (by omega)
  refine ⟨hP, hv.take hP hi hao h2 h6 hq, gc, cc, gu, vl, G, bp, _, _, ?_, ⟨pq.st, pq.t0, fun _ => rfl⟩, g3⟩
  have e1 : cU (pt us (fm P i a) (some u)) 1 4096 = cU us 1 4096 := by rw [cU_take hg u 1 hlt, if_neg (by omega), Nat.add_zero]
  rw [e1]
  refine h.congr (fun j hj => ?_)
  by_cases e : j = i
  · subst e
    rw [put_same, opn_same hP hj u, Nat.pow_zero, Nat.div_one]
  · rw [put_other _ _ _ _ e, opn_other hP hi hj e]
theorem kp_use {w : World} {F : Nat → Prop} {gu g : Nat} {v : Value} (h : F gu) : Kp F F w (w.setCell ⟨gu, g, none⟩ v) := Kp.of_grown (grown_setCell' _ _ _ _) (by rintro g e; injection e with e; exact e ▸ h) (fun _ h => Or.inl h)
set_option maxHeartbeats 2000000 in
theorem rTake_p {w : World} {F : Nat → Prop} {q : Nat} {P : Par} {us : Us} (h : Ro w F q P us) (u : Nat) (h2 : 2 ≤ u) (h6 : u ≤ 6) (hq : cU us u 4096 < P.q u) :
    Calls Tryz.prog 37 #[.pointer (some ⟨q, 0, none⟩), .int .u8 u] w fun e w' => ∃ g us', e = .returned (.tuple #[.int .i64 (g : Nat), .int .i64 0]) ∧ Tkn P us u g us' ∧ Ro w' F q P us' ∧ Kp F F w w' := by
  obtain ⟨gc, cc, gu, vl, G, bp, L, tk, g1, g2, g3⟩ := h.me
  have hP := h.ok
  have hi := best_lt hP us
  obtain ⟨x0, hx0⟩ := h.va.best_open hP h2 h6 hq
  obtain ⟨a0, ha0⟩ := nx_of_open (g2.st _ hi) hx0
  rcases take_case (L (best P us)) 0 with he | ⟨k, a, r, q1, q2, q3, q4⟩
  · exact absurd ha0 (st_no_nx (g2.st _ hi) he a0)
  have hnx := st_nx (g2.st _ hi) q1 q2 q3 q4
  have hao := hnx.open
  have haN := (opn_iff.1 hao).1
  have C1 : Hid (Calls _ _ _ _ _) := rthere_p g1
  obtain ⟨a1, a2, a3⟩ := rasked h u h2 h6
  have CC : Hid (∀ W, Below w.heap.size w W → _) := a1
  have CQ : Hid (∀ W, Below w.heap.size w W → _) := a2
  have hne : Nonempty (Idx (fun W => Below w.heap.size w W)) := ⟨⟨w, Below.refl _ _⟩⟩
  obtain ⟨gl, cl, rfl, hcl⟩ := g1.at hP.k1
  have HP1 : Hid (∀ W, Below w.heap.size w W → Xp W P.k q gc cc gu (.slice (some ⟨gl, 0, none⟩) P.k cl) (decide (0 < cU us 1 4096)) G bp P (opn P us) tk us) := fun W hW => g1.below hW
  have HCL : Hid (∀ W, Below w.heap.size w W → ∀ i, i < P.k → W.cell? ⟨gl, i, none⟩ = some (.pointer (some ⟨bp i, 0, none⟩))) := fun W hW i hi => (hW.cell (p := ⟨gl, i, none⟩) (rw_lt g1.row gl rfl)).trans (hcl i hi)
  have CF : Hid (∀ W, Below w.heap.size w W → ∀ i, i < P.k → Calls Tryz.prog 76 #[.pointer (some ⟨bp i, 0, none⟩)] W fun e w' => e = .returned (.int .i64 (fre P us i : Nat)) ∧ w' = W) := fun W hW i hi => reFree ((g1.below hW).bu i hi)
  have CT : Hid (∀ W, Below w.heap.size w W → Calls Tryz.prog 62 #[.pointer (some ⟨bp (best P us), 0, none⟩), .int .i64 0] W fun e w' => e = .returned (.tuple #[.int .i64 (a : Nat), .int .i64 0]) ∧ Re w' (G (best P us)) (bp (best P us)) P.N (shut (opn P us (best P us)) 0 (a / 2 ^ 0)) (pt (tk (best P us)) a (some 0)) ∧ Kp (G (best P us)) (G (best P us)) W w') := fun W hW =>
    reTake_ok ((g1.below hW).bu _ hi) opn_lt (fun k hk => (g2.st _ hi).fit k hk) 0 k a r q1 q2 q3 q4 (by rw [Nat.pow_zero]; exact Nat.mod_one a) (by rw [Nat.pow_zero]; omega)
  have HPost : Hid (∀ W, Xp W P.k q gc cc gu (.slice (some ⟨gl, 0, none⟩) P.k cl) (decide (0 < cU us 1 4096)) G bp P (put (opn P us) (best P us) (shut (opn P us (best P us)) 0 (a / 2 ^ 0))) (put tk (best P us) (pt (tk (best P us)) a (some 0))) (pt us (fm P (best P us) a) (some u)) → ∃ us', Tkn P us u (fm P (best P us) a) us' ∧ Ro W F q P us') := fun W hW =>
    ⟨_, ⟨a, hnx, rfl, rfl⟩, hW.ro_take hP h.va g2 hi q2 q3 q4 hao h2 h6 hq g3⟩
  have HFW : Hid (∀ x, G (best P us) x → F x) := fun x hx => (g3 x).2 (Or.inr (Or.inr (Or.inr (Or.inr ⟨_, hi, hx⟩))))
  have HFU : Hid (F gu) := (g3 gu).2 (Or.inr (Or.inr (Or.inl rfl)))
  have hlt := fm_lt' hP hi haN
  have hNF := hP.NF
  have HFR : Hid (∀ i, fre P us i ≤ 4096) := fun i => Nat.le_trans (fre_le P us i) hP.N2
  have HBE : Hid (best P us = bs (fun i => fre P us i) (P.k - 1)) := rfl
  have HBL : Hid (best P us < P.k) := hi
  have hk1 := hP.k1
  have hk2 := hP.k2
  have HOK : Hid P.Ok := hP
  have HaN : Hid (a < P.N) := haN
  generalize cU us u 4096 = x at *
  generalize P.q u = y at *
  have i3 : decide ((y : Int) ≤ (x : Int)) = false := by simp; omega
  have i4 : decide (y ≤ x) = false := by simp; omega
  have i5 : (x : Int) < (y : Int) := by omega
  clear h g1 g2 g3 a1 a2 q1 q2 q3 q4 hnx hao ha0 hx0 hcl hP hi haN
  go_enter Tryz.func37, Tryz.ntmps37
  go_wp2_with (go_at_call 61; refine C1.out.mono ?_; rintro e w' ⟨rfl, h⟩; obtain rfl := h.symm)
  refine wp_region_cls (fun W => Below w.heap.size w W) (by kernel_rfl) (by kernel_rfl) ((Below.refl _ _).drew) ?_
  repeat (go_big_quiet_step (first | (go_at_call 40; exact Calls.cls (CC.out _ (Idx.h _)) (fun _ _ h k => h.trans (k.mono h.size))) | (go_at_call 75; exact Calls.cls (CQ.out _ (Idx.h _)) (fun _ _ h k => h.trans (k.mono h.size)))))
  refine wpQuiet_nil ?_
  rintro w5 ⟨⟨_, hS5⟩, rfl⟩
  have HB5 : Hid (Below w.heap.size w w5) := hS5
  clear hS5 hne a3 C1 CC CQ
  obtain ⟨v, hv⟩ : ∃ v : Nat → Nat, v = fun i => fre P us i := ⟨_, rfl⟩
  have HV : Hid (∀ i, fre P us i = v i) := fun i => by rw [hv]
  rw [← hv] at HBE
  clear hv
  go_wp2
  go_loopw [6, 7] (fun y z wr => ∃ i : Nat, 1 ≤ i ∧ i ≤ P.k ∧ z = .int .i64 i ∧ y = .int .i64 (bs v (i - 1) : Nat) ∧ Below w.heap.size w wr) (fun _ z _ => P.k - (iv z).toNat)
  case atStart => exact ⟨1, by omega, by omega, rfl, rfl, HB5.out⟩
  case round =>
    obtain ⟨i, hi1, hik, rfl, rfl, hw⟩ := hrel
    have HW : Hid (Below w.heap.size w wr) := hw
    clear hw HB5
    have ccl := (HP1.out wr HW.out).cl
    by_cases hlt : i < P.k
    · have hb1 := bs_le v (i - 1)
      have hcb1 := HCL.out wr HW.out i hlt
      have hcb2 := HCL.out wr HW.out (bs v (i - 1)) (by omega)
      have HS : Hid (bs v (i + 1 - 1) = if v (bs v (i - 1)) < v i then i else bs v (i - 1)) := by
        obtain ⟨j, rfl⟩ : ∃ j, i = j + 1 := ⟨i - 1, by omega⟩
        rfl
      have r1 : v i ≤ 4096 := by rw [← HV.out]; exact HFR.out _
      have r2 : v (bs v (i - 1)) ≤ 4096 := by rw [← HV.out]; exact HFR.out _
      have CF2 : Hid (∀ p r, (p = bp i ∧ r = v i) ∨ (p = bp (bs v (i - 1)) ∧ r = v (bs v (i - 1))) → ∀ m, Calls Tryz.prog 76 #[.pointer (some ⟨p, 0, none⟩)] (wr.drewN m) fun e w' => e = .returned (.int .i64 (r : Nat)) ∧ w' = wr.drewN m) := by
        rintro p r (⟨rfl, rfl⟩ | ⟨rfl, rfl⟩) m
        · rw [← HV.out]
          exact CF.out _ (below_drewN HW.out m) _ hlt
        · rw [← HV.out]
          exact CF.out _ (below_drewN HW.out m) _ (by omega)
      have hiI : (i : Int) < (P.k : Int) := by omega
      have hzI : (bs v (i - 1) : Int) < (P.k : Int) := by omega
      by_cases hlv : v (bs v (i - 1)) < v i
      · rw [if_pos hlv] at HS
        generalize bs v (i - 1) = z at *
        generalize v i = v1 at *
        generalize v z = v2 at *
        generalize bp i = b1 at *
        generalize bp z = b2 at *
        have hltI : (v2 : Int) < (v1 : Int) := by omega
        go_wp2_with fail
        go_quiet ((go_at_call 76; exact Calls.quiet_of_same (CF2.out _ _ (by first | exact Or.inl ⟨rfl, rfl⟩ | exact Or.inr ⟨rfl, rfl⟩) _)))
        go_wp2
        go_roundw
        case rel => exact ⟨i + 1, by omega, by omega, by go_num, by rw [HS.out], below_drewN HW.out _⟩
        case measure => simp [iv]; omega
      · rw [if_neg hlv] at HS
        generalize bs v (i - 1) = z at *
        generalize v i = v1 at *
        generalize v z = v2 at *
        generalize bp i = b1 at *
        generalize bp z = b2 at *
        have hltI : ¬ (v2 : Int) < (v1 : Int) := by omega
        go_wp2_with fail
        go_quiet ((go_at_call 76; exact Calls.quiet_of_same (CF2.out _ _ (by first | exact Or.inl ⟨rfl, rfl⟩ | exact Or.inr ⟨rfl, rfl⟩) _)))
        go_wp2
        go_roundw
        case rel => exact ⟨i + 1, by omega, by omega, by go_num, by rw [HS.out], below_drewN HW.out _⟩
        case measure => simp [iv]; omega
    · obtain rfl : i = P.k := by omega
      rw [← HBE.out]
      have hcb := HCL.out wr HW.out _ HBL.out
      have HX : Hid (Xp wr P.k q gc cc gu (.slice (some ⟨gl, 0, none⟩) P.k cl) (decide (0 < cU us 1 4096)) G bp P (opn P us) tk us) := HP1.out wr HW.out
      have CT2 : Hid (Calls _ _ _ _ _) := CT.out wr HW.out
      clear CT CF HP1 HCL HFR HV HBE
      generalize best P us = b at *
      have hbI : (b : Int) < (P.k : Int) := by have := HBL.out; omega
      go_wp2_with fail
      refine CT2.out.mono ?_
      rintro e w6 ⟨rfl, hR6, hK6⟩
      have HX6 : Hid (Xp w6 P.k q gc cc gu (.slice (some ⟨gl, 0, none⟩) P.k cl) (decide (0 < cU us 1 4096)) G bp P (put (opn P us) b (shut (opn P us b) 0 (a / 2 ^ 0))) (put tk b (pt (tk b) a (some 0))) us) := HX.out.buddy b HBL.out hK6 hR6
      have HK6 : Hid (Kp F F w w6) := (below_kp HW.out).trans (Kp.wide hK6 HFW.out)
      have CFR : Hid (Calls _ _ _ _ _) := rframe_p HX6.out HOK.out b a HBL.out HaN.out
      clear HX hR6 hK6 CT2 hcb ccl
      go_wp2_with fail
      refine CFR.out.mono ?_
      rintro e w7 ⟨rfl, hb7⟩
      have HX7 := HX6.out.below hb7
      have HK7 : Hid (Kp F F w w7) := HK6.out.trans (below_kp hb7)
      have cu := HX7.cu
      have HX8 : Hid (Xp _ P.k q gc cc gu (.slice (some ⟨gl, 0, none⟩) P.k cl) (decide (0 < cU us 1 4096)) G bp P (put (opn P us) b (shut (opn P us b) 0 (a / 2 ^ 0))) (put tk b (pt (tk b) a (some 0))) (pt us (fm P b a) (some u))) := HX7.used (fm P b a) hlt (some u)
      have cg := HX7.ut hlt
      have cf := HX7.use.frozen (fm P b a)
      have HF8 := HPost.out _ HX8.out
      clear HX6 HX7 HX8 CFR HPost hb7
      generalize fm P b a = g at *
      generalize P.N * P.C = n at *
      have hgI : (g : Int) < (n : Int) := by omega
      have HF9 : Hid (∃ us', Tkn P us u g us' ∧ Ro (w7.setCell ⟨gu, g, none⟩ (.int .u8 (u : Nat))) F q P us') := HF8
      clear HF8
      go_wp2
      go_ret2
      obtain ⟨us', t1, t2⟩ := HF9.out
      exact ⟨g, us', rfl, t1, t2, HK7.out.trans (kp_use HFU.out)⟩
end Go.Proofs.YtdempgjhjcjklaaGreat.P
