/- What Take of the document's pool gives back and leaves; no condition but those that each theorem names. -/
import Derived.Test.YtifchflbhdnfaaaGreatVXc
import Derived.Test.YtifchflbhdnfaaaGreatVCa
namespace Go.Proofs.YtifchflbhdnfaaaGreat.P
open B Go.ChangeShapes Go.WideShapes Go.ChangeAt Go.RowKit
set_option linter.unusedVariables false
set_option maxRecDepth 8192

theorem run_ix7 (w : World) (cs : Array Value) (j : Nat) (hj : j < 7) (v : Value) (hv : cs[j]? = some v) : (Instr.index 58 (.agg cs) (.int .u8 j)).run Tryz.prog w = .ok v w := by
  have h1 : (0 : Int) ≤ (j : Int) ∧ (j : Int) < 7 := by omega
  simp [Instr.index, run_underlying Tryz.underlying58, asIntOf, h1, Tryz.sizeOf3]
  rw [if_pos hj]
  simp [part, Tryz.isAgg3, Tryz.sizeOf3, hv]
theorem rTake_nop {w : World} (u : Int) : Calls Tryz.prog 12 #[.pointer none, .int .u8 u] w fun e w' => e = .returned (.tuple #[.int .i64 0, .int .i64 1]) ∧ w' = w := by
  have C1 : Hid (Calls _ _ _ _ _) := rthere_nop (w := w)
  go_enter Tryz.func12, Tryz.ntmps12
  go_wp2_with (go_at_call 44; refine C1.out.mono ?_; rintro e w' ⟨rfl, rfl⟩)
  go_ret2
  exact ⟨rfl, rfl⟩
theorem rTake_arg {w : World} {F : Nat → Prop} {q : Nat} {P : Par} {us : Us} (h : Ro w F q P us) (u : Int) (hu : u < 2 ∨ 6 < u) : Calls Tryz.prog 12 #[.pointer (some ⟨q, 0, none⟩), .int .u8 u] w fun e w' => e = .returned (.tuple #[.int .i64 0, .int .i64 2]) ∧ w' = w := by
  obtain ⟨gc, cc, gu, vl, G, bp, L, tk, g1, g2, g3⟩ := h.me
  have C1 : Hid (Calls _ _ _ _ _) := rthere_p g1
  clear h g1 g2 g3
  go_enter Tryz.func12, Tryz.ntmps12
  go_wp2_with (go_at_call 44; refine C1.out.mono ?_; rintro e w' ⟨rfl, h⟩; obtain rfl := h.symm)
  all_goals (go_ret2; exact ⟨rfl, rfl⟩)
/-- Counts and quota, asked in whatever order. -/
theorem rasked {w : World} {F : Nat → Prop} {q : Nat} {P : Par} {us : Us} (h : Ro w F q P us) (u : Nat) (h2 : 2 ≤ u) (h6 : u ≤ 6) :
    (∀ W, Below w.heap.size w W → Calls Tryz.prog 36 #[.pointer (some ⟨q, 0, none⟩)] W (One (.agg (n7L (cN P us)).toArray) W)) ∧ (∀ W, Below w.heap.size w W → Calls Tryz.prog 45 #[.pointer (some ⟨q, 0, none⟩), .int .u8 u] W (One (.int .i64 (P.q u : Nat)) W)) ∧ ∀ W : World, (Instr.index 58 (.agg (n7L (cN P us)).toArray) (.int .u8 u)).run Tryz.prog W = .ok (.int .i64 (cU us u 4096 : Nat)) W := by
  refine ⟨fun W hW => rCounts_p (h.below hW), fun W hW => ?_, fun W => run_ix7 W _ u (by omega) _ ?_⟩
  · obtain ⟨gc, cc, gu, vl, G, bp, L, tk, g1, g2, g3⟩ := (h.below hW).me
    exact (rquota_p g1 u h2 h6).mono (fun e w' he => ⟨he.1, he.2 ▸ Below.refl _ _⟩)
  · have := n7L_get (cN P us) (u := u) (by omega)
    rw [show cN P us u = cU us u 4096 from if_neg (by omega)] at this
    simpa using this
set_option maxHeartbeats 1000000 in
theorem rTake_mem {w : World} {F : Nat → Prop} {q : Nat} {P : Par} {us : Us} (h : Ro w F q P us) (u : Nat) (h2 : 2 ≤ u) (h6 : u ≤ 6) (hq : P.q u ≤ cU us u 4096) : Calls Tryz.prog 12 #[.pointer (some ⟨q, 0, none⟩), .int .u8 u] w fun e w' => e = .returned (.tuple #[.int .i64 0, .int .i64 4]) ∧ Below w.heap.size w w' := by
  obtain ⟨gc, cc, gu, vl, G, bp, L, tk, g1, g2, g3⟩ := h.me
  have C1 : Hid (Calls _ _ _ _ _) := rthere_p g1
  obtain ⟨a1, a2, a3⟩ := rasked h u h2 h6
  have CC : Hid (∀ W, Below w.heap.size w W → _) := a1
  have CQ : Hid (∀ W, Below w.heap.size w W → _) := a2
  have hne : Nonempty (Idx (fun W => Below w.heap.size w W)) := ⟨⟨w, Below.refl _ _⟩⟩
  generalize cU us u 4096 = x at *
  generalize P.q u = y at *
  have i3 : decide ((y : Int) ≤ (x : Int)) = true := by simp; omega
  have i4 : decide (y ≤ x) = true := by simp; omega
  have i5 : (y : Int) ≤ (x : Int) := by omega
  clear h g1 g2 g3 a1 a2
  go_enter Tryz.func12, Tryz.ntmps12
  go_wp2_with (go_at_call 44; refine C1.out.mono ?_; rintro e w' ⟨rfl, h⟩; obtain rfl := h.symm)
  refine wp_region_cls (fun W => Below w.heap.size w W) (by kernel_rfl) (by kernel_rfl) ((Below.refl _ _).drew) ?_
  repeat (go_big_quiet_step (first | (go_at_call 36; exact Calls.cls (CC.out _ (Idx.h _)) (fun _ _ h k => h.trans (k.mono h.size))) | (go_at_call 45; exact Calls.cls (CQ.out _ (Idx.h _)) (fun _ _ h k => h.trans (k.mono h.size)))))
  refine wpQuiet_nil ?_
  rintro w5 ⟨⟨_, hS5⟩, rfl⟩
  have HB5 : Hid (Below w.heap.size w w5) := hS5
  clear hS5 hne
  go_wp2
  go_ret2
  exact ⟨rfl, HB5.out⟩
/-- The document's pool behind a Take. -/
theorem Xp.ro_take {w : World} {q gc cc gu : Nat} {vl : Value} {G : Nat → Nat → Prop} {bp : Nat → Nat} {P : Par} {L : Nat → Nat → List Nat} {tk : Nat → Nat → Option Nat} {us : Us} {F : Nat → Prop} (hP : P.Ok) (hv : Va P us) (g2 : Pq P us L tk (cN P us)) {i a k u : Nat} {r : List Nat} (hi : i < P.k) (hk : k ≤ 6) (he : ∀ j, 0 ≤ j → j < k → L i j = []) (hL : L i k = a :: r) (hao : opn P us i a = true) (h2 : 2 ≤ u) (h6 : u ≤ 6) (hq : cU us u 4096 < P.q u) (g3 : ∀ x, F x ↔ xfoot P.k q gc gu vl G x)
    (h : Xp w P.k q gc cc gu vl (decide (0 < cU us 1 4096)) G bp P (put (opn P us) i (shut (opn P us i) 0 (a / 2 ^ 0))) (put tk i (pt (tk i) a (some 0))) (pt us (fm P i a) (some u))) : Ro w F q P (pt us (fm P i a) (some u)) := by
  obtain ⟨hn, hg⟩ := opn_iff.1 hao
  have hlt := fm_lt hP hi hn
  have pq := g2.take hP hi hk he hL (u := u) (by omega)
  refine ⟨hP, hv.take hP hi hao h2 h6 hq, gc, cc, gu, vl, G, bp, _, _, ?_, ⟨pq.st, pq.t0, fun _ => rfl⟩, g3⟩
  have e1 : cU (pt us (fm P i a) (some u)) 1 4096 = cU us 1 4096 := by rw [cU_take hg u 1 hlt, if_neg (by omega), Nat.add_zero]
  rw [e1]
  refine h.congr (fun j hj => ?_)
  by_cases e : j = i
  · subst e
    rw [put_same, opn_same hP hj u, Nat.pow_zero, Nat.div_one]
  · rw [put_other _ _ _ _ e, opn_other hP hi hj e]
theorem kp_use {w : World} {F : Nat → Prop} {gu g : Nat} {v : Value} (h : F gu) : Kp F F w (w.setCell ⟨gu, g, none⟩ v) := Kp.of_grown (grown_setCell' _ _ _ _) (by rintro g e; injection e with e; exact e ▸ h) (fun _ h => Or.inl h)
set_option maxHeartbeats 2000000 in
theorem rTake_p {w : World} {F : Nat → Prop} {q : Nat} {P : Par} {us : Us} (h : Ro w F q P us) (u : Nat) (h2 : 2 ≤ u) (h6 : u ≤ 6) (hq : cU us u 4096 < P.q u) :
    Calls Tryz.prog 12 #[.pointer (some ⟨q, 0, none⟩), .int .u8 u] w fun e w' => ∃ g us', e = .returned (.tuple #[.int .i64 (g : Nat), .int .i64 0]) ∧ Tkn P us u g us' ∧ Ro w' F q P us' ∧ Kp F F w w' := by
  obtain ⟨gc, cc, gu, vl, G, bp, L, tk, g1, g2, g3⟩ := h.me
  have hP := h.ok
  have hi := best_lt hP us
  obtain ⟨x0, hx0⟩ := h.va.best_open hP h2 h6 hq
  obtain ⟨a0, ha0⟩ := nx_of_open (g2.st _ hi) hx0
  rcases take_case (L (best P us)) 0 with he | ⟨k, a, r, q1, q2, q3, q4⟩
  · exact absurd ha0 (st_no_nx (g2.st _ hi) he a0)
  have hnx := st_nx (g2.st _ hi) q1 q2 q3 q4
  have hao := hnx.open
  have haN := (opn_iff.1 hao).1
  have C1 : Hid (Calls _ _ _ _ _) := rthere_p g1
  obtain ⟨a1, a2, a3⟩ := rasked h u h2 h6
  have CC : Hid (∀ W, Below w.heap.size w W → _) := a1
  have CQ : Hid (∀ W, Below w.heap.size w W → _) := a2
  have hne : Nonempty (Idx (fun W => Below w.heap.size w W)) := ⟨⟨w, Below.refl _ _⟩⟩
  obtain ⟨gl, cl, rfl, hcl⟩ := g1.at hP.k1
  have HP1 : Hid (∀ W, Below w.heap.size w W → Xp W P.k q gc cc gu (.slice (some ⟨gl, 0, none⟩) P.k cl) (decide (0 < cU us 1 4096)) G bp P (opn P us) tk us) := fun W hW => g1.below hW
  have HCL : Hid (∀ W, Below w.heap.size w W → ∀ i, i < P.k → W.cell? ⟨gl, i, none⟩ = some (.pointer (some ⟨bp i, 0, none⟩))) := fun W hW i hi => (hW.cell (p := ⟨gl, i, none⟩) (rw_lt g1.row gl rfl)).trans (hcl i hi)
  have CF : Hid (∀ W, Below w.heap.size w W → ∀ i, i < P.k → Calls Tryz.prog 46 #[.pointer (some ⟨bp i, 0, none⟩)] W fun e w' => e = .returned (.int .i64 (fre P us i : Nat)) ∧ w' = W) := fun W hW i hi => reFree ((g1.below hW).bu i hi)
  have CT : Hid (∀ W, Below w.heap.size w W → Calls Tryz.prog 47 #[.pointer (some ⟨bp (best P us), 0, none⟩), .int .i64 0] W fun e w' => e = .returned (.tuple #[.int .i64 (a : Nat), .int .i64 0]) ∧ Re w' (G (best P us)) (bp (best P us)) P.N (shut (opn P us (best P us)) 0 (a / 2 ^ 0)) (pt (tk (best P us)) a (some 0)) ∧ Kp (G (best P us)) (G (best P us)) W w') := fun W hW =>
    reTake_ok ((g1.below hW).bu _ hi) opn_lt (fun k hk => (g2.st _ hi).fit k hk) 0 k a r q1 q2 q3 q4 (by rw [Nat.pow_zero]; exact Nat.mod_one a) (by rw [Nat.pow_zero]; omega)
  have HPost : Hid (∀ W, Xp W P.k q gc cc gu (.slice (some ⟨gl, 0, none⟩) P.k cl) (decide (0 < cU us 1 4096)) G bp P (put (opn P us) (best P us) (shut (opn P us (best P us)) 0 (a / 2 ^ 0))) (put tk (best P us) (pt (tk (best P us)) a (some 0))) (pt us (fm P (best P us) a) (some u)) → ∃ us', Tkn P us u (fm P (best P us) a) us' ∧ Ro W F q P us') := fun W hW =>
    ⟨_, ⟨a, hnx, rfl, rfl⟩, hW.ro_take hP h.va g2 hi q2 q3 q4 hao h2 h6 hq g3⟩
  have HFW : Hid (∀ x, G (best P us) x → F x) := fun x hx => (g3 x).2 (Or.inr (Or.inr (Or.inr (Or.inr ⟨_, hi, hx⟩))))
  have HFU : Hid (F gu) := (g3 gu).2 (Or.inr (Or.inr (Or.inl rfl)))
  have hlt := fm_lt' hP hi haN
  have hNF := hP.NF
  have HFR : Hid (∀ i, fre P us i ≤ 4096) := fun i => Nat.le_trans (fre_le P us i) hP.N2
  have HBE : Hid (best P us = bs (fun i => fre P us i) (P.k - 1)) := rfl
  have HBL : Hid (best P us < P.k) := hi
  have hk1 := hP.k1
  have hk2 := hP.k2
  have HOK : Hid P.Ok := hP
  have HaN : Hid (a < P.N) := haN
  generalize cU us u 4096 = x at *
  generalize P.q u = y at *
  have i3 : decide ((y : Int) ≤ (x : Int)) = false := by simp; omega
  have i4 : decide (y ≤ x) = false := by simp; omega
  have i5 : (x : Int) < (y : Int) := by omega
  clear h g1 g2 g3 a1 a2 q1 q2 q3 q4 hnx hao ha0 hx0 hcl hP hi haN
  go_enter Tryz.func12, Tryz.ntmps12
  go_wp2_with (go_at_call 44; refine C1.out.mono ?_; rintro e w' ⟨rfl, h⟩; obtain rfl := h.symm)
  refine wp_region_cls (fun W => Below w.heap.size w W) (by kernel_rfl) (by kernel_rfl) ((Below.refl _ _).drew) ?_
  repeat (go_big_quiet_step (first | (go_at_call 36; exact Calls.cls (CC.out _ (Idx.h _)) (fun _ _ h k => h.trans (k.mono h.size))) | (go_at_call 45; exact Calls.cls (CQ.out _ (Idx.h _)) (fun _ _ h k => h.trans (k.mono h.size)))))
  refine wpQuiet_nil ?_
  rintro w5 ⟨⟨_, hS5⟩, rfl⟩
  have HB5 : Hid (Below w.heap.size w w5) := hS5
  clear hS5 hne a3 C1 CC CQ
  obtain ⟨v, hv⟩ : ∃ v : Nat → Nat, v = fun i => fre P us i := ⟨_, rfl⟩
  have HV : Hid (∀ i, fre P us i = v i) := fun i => by rw [hv]
  rw [← hv] at HBE
  clear hv
  go_wp2
  go_loopw [6, 7] (fun y z wr => ∃ i : Nat, 1 ≤ i ∧ i ≤ P.k ∧ z = .int .i64 i ∧ y = .int .i64 (bs v (i - 1) : Nat) ∧ Below w.heap.size w wr) (fun _ z _ => P.k - (iv z).toNat)
  case atStart => exact ⟨1, by omega, by omega, rfl, rfl, HB5.out⟩
  case round =>
    obtain ⟨i, hi1, hik, rfl, rfl, hw⟩ := hrel
    have HW : Hid (Below w.heap.size w wr) := hw
    clear hw HB5
    have ccl := (HP1.out wr HW.out).cl
    by_cases hlt : i < P.k
    · have hb1 := bs_le v (i - 1)
      have hcb1 := HCL.out wr HW.out i hlt
      have hcb2 := HCL.out wr HW.out (bs v (i - 1)) (by omega)
      have HS : Hid (bs v (i + 1 - 1) = if v (bs v (i - 1)) < v i then i else bs v (i - 1)) := by
        obtain ⟨j, rfl⟩ : ∃ j, i = j + 1 := ⟨i - 1, by omega⟩
        rfl
      have r1 : v i ≤ 4096 := by rw [← HV.out]; exact HFR.out _
      have r2 : v (bs v (i - 1)) ≤ 4096 := by rw [← HV.out]; exact HFR.out _
      have CF2 : Hid (∀ p r, (p = bp i ∧ r = v i) ∨ (p = bp (bs v (i - 1)) ∧ r = v (bs v (i - 1))) → ∀ m, Calls Tryz.prog 46 #[.pointer (some ⟨p, 0, none⟩)] (wr.drewN m) fun e w' => e = .returned (.int .i64 (r : Nat)) ∧ w' = wr.drewN m) := by
        rintro p r (⟨rfl, rfl⟩ | ⟨rfl, rfl⟩) m
        · rw [← HV.out]
          exact CF.out _ (below_drewN HW.out m) _ hlt
        · rw [← HV.out]
          exact CF.out _ (below_drewN HW.out m) _ (by omega)
      have hiI : (i : Int) < (P.k : Int) := by omega
      have hzI : (bs v (i - 1) : Int) < (P.k : Int) := by omega
      by_cases hlv : v (bs v (i - 1)) < v i
      · rw [if_pos hlv] at HS
        generalize bs v (i - 1) = z at *
        generalize v i = v1 at *
        generalize v z = v2 at *
        generalize bp i = b1 at *
        generalize bp z = b2 at *
        have hltI : (v2 : Int) < (v1 : Int) := by omega
        go_wp2_with fail
        go_quiet ((go_at_call 46; exact Calls.quiet_of_same (CF2.out _ _ (by first | exact Or.inl ⟨rfl, rfl⟩ | exact Or.inr ⟨rfl, rfl⟩) _)))
        go_wp2
        go_roundw
        case rel => exact ⟨i + 1, by omega, by omega, by go_num, by rw [HS.out], below_drewN HW.out _⟩
        case measure => simp [iv]; omega
      · rw [if_neg hlv] at HS
        generalize bs v (i - 1) = z at *
        generalize v i = v1 at *
        generalize v z = v2 at *
        generalize bp i = b1 at *
        generalize bp z = b2 at *
        have hltI : ¬ (v2 : Int) < (v1 : Int) := by omega
        go_wp2_with fail
        go_quiet ((go_at_call 46; exact Calls.quiet_of_same (CF2.out _ _ (by first | exact Or.inl ⟨rfl, rfl⟩ | exact Or.inr ⟨rfl, rfl⟩) _)))
        go_wp2
        go_roundw
        case rel => exact ⟨i + 1, by omega, by omega, by go_num, by rw [HS.out], below_drewN HW.out _⟩
        case measure => simp [iv]; omega
    · obtain rfl : i = P.k := by omega
      rw [← HBE.out]
      have hcb := HCL.out wr HW.out _ HBL.out
      have HX : Hid (Xp wr P.k q gc cc gu (.slice (some ⟨gl, 0, none⟩) P.k cl) (decide (0 < cU us 1 4096)) G bp P (opn P us) tk us) := HP1.out wr HW.out
      have CT2 : Hid (Calls _ _ _ _ _) := CT.out wr HW.out
      clear CT CF HP1 HCL HFR HV HBE
      generalize best P us = b at *
      have hbI : (b : Int) < (P.k : Int) := by have := HBL.out; omega
      go_wp2_with fail
      refine CT2.out.mono ?_
      rintro e w6 ⟨rfl, hR6, hK6⟩
      have HX6 : Hid (Xp w6 P.k q gc cc gu (.slice (some ⟨gl, 0, none⟩) P.k cl) (decide (0 < cU us 1 4096)) G bp P (put (opn P us) b (shut (opn P us b) 0 (a / 2 ^ 0))) (put tk b (pt (tk b) a (some 0))) us) := HX.out.buddy b HBL.out hK6 hR6
      have HK6 : Hid (Kp F F w w6) := (below_kp HW.out).trans (Kp.wide hK6 HFW.out)
      have CFR : Hid (Calls _ _ _ _ _) := rframe_p HX6.out HOK.out b a HBL.out HaN.out
      clear HX hR6 hK6 CT2 hcb ccl
      go_wp2_with fail
      refine CFR.out.mono ?_
      rintro e w7 ⟨rfl, hb7⟩
      have HX7 := HX6.out.below hb7
      have HK7 : Hid (Kp F F w w7) := HK6.out.trans (below_kp hb7)
      have cu := HX7.cu
      have HX8 : Hid (Xp _ P.k q gc cc gu (.slice (some ⟨gl, 0, none⟩) P.k cl) (decide (0 < cU us 1 4096)) G bp P (put (opn P us) b (shut (opn P us b) 0 (a / 2 ^ 0))) (put tk b (pt (tk b) a (some 0))) (pt us (fm P b a) (some u))) := HX7.used (fm P b a) hlt (some u)
      have cg := HX7.ut hlt
      have cf := HX7.use.frozen (fm P b a)
      have HF8 := HPost.out _ HX8.out
      clear HX6 HX7 HX8 CFR HPost hb7
      generalize fm P b a = g at *
      generalize P.N * P.C = n at *
      have hgI : (g : Int) < (n : Int) := by omega
      have HF9 : Hid (∃ us', Tkn P us u g us' ∧ Ro (w7.setCell ⟨gu, g, none⟩ (.int .u8 (u : Nat))) F q P us') := HF8
      clear HF8
      go_wp2
      go_ret2
      obtain ⟨us', t1, t2⟩ := HF9.out
      exact ⟨g, us', rfl, t1, t2, HK7.out.trans (kp_use HFU.out)⟩
end Go.Proofs.YtifchflbhdnfaaaGreat.P
