/- What Give of the document's pool gives back and leaves; no condition but those that each theorem names. -/
import Derived.Test.YtdempgjhjcjklaaGreatVXf
namespace Go.Proofs.YtdempgjhjcjklaaGreat.P
open B Go.ChangeShapes Go.WideShapes Go.ChangeAt Go.RowKit
set_option linter.unusedVariables false
set_option maxRecDepth 8192

set_option maxHeartbeats 1000000 in
theorem rGive_no {w : World} {F : Nat → Prop} {q : Nat} {P : Par} {us : Us} (h : Ro w F q P us) (x : Int) (h0 : -9223372036854775808 ≤ x) (h1 : x ≤ 9223372036854775807) (hx : ∀ g : Nat, x = g → us g = none ∨ us g = some 1) : Calls Tryz.prog 97 #[.pointer (some ⟨q, 0, none⟩), .int .i64 x] w fun e w' => e = .returned (.int .i64 91) ∧ w' = w := by
  obtain ⟨gc, cc, gu, vl, G, bp, L, tk, g1, g2, g3⟩ := h.me
  have hP := h.ok
  have C1 : Hid (Calls _ _ _ _ _) := rthere_p g1
  have hcu := g1.cu
  have HU : Hid (∀ g, g < P.N * P.C → w.cell? ⟨gu, g, none⟩ = some (.int .u8 ((us g).getD 0 : Nat))) := fun g hg => g1.ut hg
  have hn4 := hP.NF
  clear h g1 g2 g3
  generalize P.N * P.C = n at *
  by_cases hx0 : x < 0
  · have d0 : decide (x < 0) = true := by simp; omega
    clear hx
    go_enter Tryz.func97, Tryz.ntmps97
    go_wp2_with (go_at_call 61; refine C1.out.mono ?_; rintro e w' ⟨rfl, h⟩; obtain rfl := h.symm)
    go_ret
    exact ⟨rfl, rfl⟩
  · obtain ⟨g, rfl⟩ : ∃ g : Nat, x = g := ⟨x.toNat, by omega⟩
    by_cases hxn : n ≤ g
    · have d0 : decide ((g : Int) < 0) = false := by simp only [decide_eq_false_iff_not]; omega
      have d1 : decide ((n : Int) ≤ (g : Int)) = true := by simp only [decide_eq_true_eq]; omega
      have d2 : decide (n ≤ g) = true := by simp; omega
      clear hx
      go_enter Tryz.func97, Tryz.ntmps97
      go_wp2_with (go_at_call 61; refine C1.out.mono ?_; rintro e w' ⟨rfl, h⟩; obtain rfl := h.symm)
      go_ret
      exact ⟨rfl, rfl⟩
    · have d0 : decide ((g : Int) < 0) = false := by simp only [decide_eq_false_iff_not]; omega
      have d1 : decide ((n : Int) ≤ (g : Int)) = false := by simp; omega
      have d2 : decide (n ≤ g) = false := by simp; omega
      have hgI : (g : Int) < (n : Int) := by omega
      have hcg := HU.out g (by omega)
      rcases hx g rfl with e | e
      · rw [e] at hcg
        have hcg : w.cell? ⟨gu, g, none⟩ = some (.int .u8 0) := hcg
        clear hx e
        go_enter Tryz.func97, Tryz.ntmps97
        go_wp2_with (go_at_call 61; refine C1.out.mono ?_; rintro e w' ⟨rfl, h⟩; obtain rfl := h.symm)
        go_ret
        exact ⟨rfl, rfl⟩
      · rw [e] at hcg
        have hcg : w.cell? ⟨gu, g, none⟩ = some (.int .u8 1) := hcg
        clear hx e
        go_enter Tryz.func97, Tryz.ntmps97
        go_wp2_with (go_at_call 61; refine C1.out.mono ?_; rintro e w' ⟨rfl, h⟩; obtain rfl := h.symm)
        go_ret
        exact ⟨rfl, rfl⟩
theorem top_some (L : Nat → List Nat) (a : Nat) : ∀ d o, o + d = 6 → ∃ J, Top L o a J
  | 0, o, h => ⟨o, Nat.le_refl _, by omega, fun i h1 h2 => by omega, fun z => by omega⟩
  | d + 1, o, h => by
    by_cases e : bud a o ∈ L o
    · obtain ⟨J, t⟩ := top_some L a d (o + 1) (by omega)
      refine ⟨J, by have := t.ge; omega, t.le, fun i h1 h2 => ?_, t.stop⟩
      by_cases q : i = o
      · rw [q]; exact e
      · exact t.mem i (by omega) h2
    · exact ⟨o, Nat.le_refl _, by omega, fun i h1 h2 => by omega, fun _ => e⟩
theorem Xp.ro_give {w : World} {q gc cc gu : Nat} {vl : Value} {G : Nat → Nat → Prop} {bp : Nat → Nat} {P : Par} {L : Nat → Nat → List Nat} {tk : Nat → Nat → Option Nat} {us : Us} {F : Nat → Prop} (hP : P.Ok) (hv : Va P us) (g2 : Pq P us L tk (cN P us)) {i a u : Nat} (hi : i < P.k) (ha : a < P.N) (hu : us (fm P i a) = some u) (h2 : 2 ≤ u) (g3 : ∀ x, F x ↔ xfoot P.k q gc gu vl G x)
    (h : Xp w P.k q gc cc gu vl (decide (0 < cU us 1 4096)) G bp P (put (opn P us) i (opened (opn P us i) 0 a)) (put tk i (pt (tk i) a none)) (pt us (fm P i a) none)) : Ro w F q P (pt us (fm P i a) none) := by
  have hlt := fm_lt hP hi ha
  obtain ⟨J, hJ⟩ := top_some (L i) a 6 0 rfl
  have pq := g2.give hP hi ha hu h2 hJ
  refine ⟨hP, hv.give hP hi ha hu h2, gc, cc, gu, vl, G, bp, _, _, ?_, ⟨pq.st, pq.t0, fun _ => rfl⟩, g3⟩
  have e1 : cU (pt us (fm P i a) none) 1 4096 = cU us 1 4096 := by
    have := cU_give hu 1 hlt
    rw [if_neg (by omega), Nat.add_zero] at this
    exact this
  rw [e1]
  refine h.congr (fun j hj => ?_)
  by_cases e : j = i
  · subst e
    rw [put_same, opn_back hP hj ha]
  · rw [put_other _ _ _ _ e, opn_other hP hi hj e]
set_option maxHeartbeats 2000000 in
theorem rGive_p {w : World} {F : Nat → Prop} {q : Nat} {P : Par} {us : Us} (h : Ro w F q P us) (g u : Nat) (hg : us g = some u) (h2 : 2 ≤ u) :
    Calls Tryz.prog 97 #[.pointer (some ⟨q, 0, none⟩), .int .i64 g] w fun e w' => e = .returned (.int .i64 0) ∧ Ro w' F q P (pt us g none) ∧ Kp F F w w' := by
  obtain ⟨gc, cc, gu, vl, G, bp, L, tk, g1, g2, g3⟩ := h.me
  have hP := h.ok
  obtain ⟨_, h6, i0, x, hi, hx, rfl⟩ := h.va.us1 g u hg
  have hlt := fm_lt' hP hi hx
  have C1 : Hid (Calls _ _ _ _ _) := rthere_p g1
  obtain ⟨gl, cl, rfl, hcl⟩ := g1.at hP.k1
  have hcu := g1.cu
  have hcg := g1.ut hlt
  rw [hg] at hcg
  have hcg : w.cell? ⟨gu, fm P i0 x, none⟩ = some (.int .u8 (u : Nat)) := hcg
  have HX0 : Hid (Xp w P.k q gc cc gu (.slice (some ⟨gl, 0, none⟩) P.k cl) (decide (0 < cU us 1 4096)) G bp P (opn P us) tk us) := g1
  have HGI : Hid (∀ W, Xp W P.k q gc cc gu (.slice (some ⟨gl, 0, none⟩) P.k cl) (decide (0 < cU us 1 4096)) G bp P (opn P us) tk us → Calls Tryz.prog 120 #[.pointer (some ⟨bp i0, 0, none⟩), .int .i64 x, .int .i64 0] W fun e w' => e = .returned (.int .i64 0) ∧ Xp w' P.k q gc cc gu (.slice (some ⟨gl, 0, none⟩) P.k cl) (decide (0 < cU us 1 4096)) G bp P (put (opn P us) i0 (opened (opn P us i0) 0 x)) (put tk i0 (pt (tk i0) x none)) us ∧ Kp F F W w') := fun W hW => by
    refine (reGive_ok (hW.bu i0 hi) x hx (g2.t0 i0 x u hi hx hg h2)).mono ?_
    rintro e w' ⟨r1, r2, r3⟩
    exact ⟨r1, hW.buddy i0 hi r3 r2, Kp.wide r3 (fun y hy => (g3 y).2 (Or.inr (Or.inr (Or.inr (Or.inr ⟨_, hi, hy⟩)))))⟩
  have HPost : Hid (∀ W, Xp W P.k q gc cc gu (.slice (some ⟨gl, 0, none⟩) P.k cl) (decide (0 < cU us 1 4096)) G bp P (put (opn P us) i0 (opened (opn P us i0) 0 x)) (put tk i0 (pt (tk i0) x none)) (pt us (fm P i0 x) none) → Ro W F q P (pt us (fm P i0 x) none)) := fun W hW => hW.ro_give hP h.va g2 hi hx hg h2 g3
  have HFU : Hid (F gu) := (g3 gu).2 (Or.inr (Or.inr (Or.inl rfl)))
  have hNF := hP.NF
  have hC1 := hP.C1
  have hC2 := hP.C2
  have hk2 := hP.k2
  have HI : Hid (i0 < P.k) := hi
  have HLT : Hid (fm P i0 x < P.N * P.C) := hlt
  have hmod : ((fm P i0 x : Nat) : Int).tmod (P.C : Int) = (P.f i0 : Nat) := by rw [tmod_nat, fm_mod (hP.fC i0 hi)]
  have hdiv : ((fm P i0 x : Nat) : Int).tdiv (P.C : Int) = (x : Nat) := by rw [← Int.ofNat_tdiv, fm_div (hP.fC i0 hi)]
  have HNE : Hid (∀ j, j < P.k → j ≠ i0 → ((P.f j : Int) == (P.f i0 : Int)) = false) := fun j hj hne => by
    simp only [beq_eq_false_iff_ne, ne_eq, Int.natCast_inj]
    exact fun e => hne (hP.inj j i0 hj hi e)
  have hx4 := hP.N2
  have hCne : ¬ ((P.C : Int) = 0) := by omega
  have HF16 : Hid (∀ j, j < P.k → P.f j < 16) := fun j hj => Nat.lt_of_lt_of_le (hP.fC j hj) hP.C2
  have q0 : ((u : Int) == 0) = false := by simp; omega
  have q1 : ((u : Int) == 1) = false := by simp; omega
  clear h g1 g2 g3 hg hcl hi hP
  generalize hfm : fm P i0 x = g at *
  generalize hnn : P.N * P.C = n at *
  have d0 : decide ((g : Int) < 0) = false := by simp only [decide_eq_false_iff_not]; omega
  have d1 : decide ((n : Int) ≤ (g : Int)) = false := by simp only [decide_eq_false_iff_not]; omega
  have d2 : decide (n ≤ g) = false := by simp only [decide_eq_false_iff_not]; omega
  have hgI : (g : Int) < (n : Int) := by omega
  go_enter Tryz.func97, Tryz.ntmps97
  go_wp2_with (go_at_call 61; refine C1.out.mono ?_; rintro e w' ⟨rfl, h⟩; obtain rfl := h.symm)
  clear hcu hcg C1
  go_loopw [5] (fun z wr => ∃ j : Nat, j ≤ P.k ∧ z = .int .i64 j ∧ Kp F F w wr ∧ ∃ op' tk', Xp wr P.k q gc cc gu (.slice (some ⟨gl, 0, none⟩) P.k cl) (decide (0 < cU us 1 4096)) G bp P op' tk' us ∧ ((j ≤ i0 ∧ op' = opn P us ∧ tk' = tk) ∨ (i0 < j ∧ op' = put (opn P us) i0 (opened (opn P us i0) 0 x) ∧ tk' = put tk i0 (pt (tk i0) x none)))) (fun z _ => P.k - (iv z).toNat)
  case atStart => exact ⟨0, by omega, rfl, Kp.refl _ _, _, _, HX0.out, Or.inl ⟨by omega, rfl, rfl⟩⟩
  case round =>
    clear HX0
    obtain ⟨j, hj, rfl, hk, op', tk', hX, hor⟩ := hrel
    have HX : Hid (Xp wr P.k q gc cc gu (.slice (some ⟨gl, 0, none⟩) P.k cl) (decide (0 < cU us 1 4096)) G bp P op' tk' us) := hX
    have HK : Hid (Kp F F w wr) := hk
    have HOr : Hid ((j ≤ i0 ∧ op' = opn P us ∧ tk' = tk) ∨ (i0 < j ∧ op' = put (opn P us) i0 (opened (opn P us i0) 0 x) ∧ tk' = put tk i0 (pt (tk i0) x none))) := hor
    have ccl := hX.cl
    have cC := hX.cC
    have c7 := hX.c7
    clear hX hk hor
    by_cases hlt : j < P.k
    · have hcol := HX.out.col hlt
      have hjI : (j : Int) < (P.k : Int) := by omega
      have hf16 := HF16.out j hlt
      by_cases hji : j = i0
      · subst hji
        obtain ⟨_, e1, e2⟩ : j ≤ j ∧ op' = opn P us ∧ tk' = tk := by
          rcases HOr.out with z | z
          · exact z
          · omega
        subst e1 e2
        obtain ⟨gl', cl', eq, hcl⟩ := HX.out.at (by omega)
        cases eq
        have hcb := hcl j hlt
        generalize P.f j = f at *
        have HG2 : Hid (∀ W, Below wr.heap.size wr W → Calls Tryz.prog 120 #[.pointer (some ⟨bp j, 0, none⟩), .int .i64 x, .int .i64 0] W fun e w' => e = .returned (.int .i64 0) ∧ Xp w' P.k q gc cc gu (.slice (some ⟨gl, 0, none⟩) P.k cl) (decide (0 < cU us 1 4096)) G bp P (put (opn P us) j (opened (opn P us j) 0 x)) (put tk' j (pt (tk' j) x none)) us ∧ Kp F F w w') := fun W hW => (HGI.out W (HX.out.below hW)).mono (fun e w' ⟨r1, r2, r3⟩ => ⟨r1, r2, (HK.out.trans (below_kp hW)).trans r3⟩)
        clear HGI HX HOr HK
        go_wp2
        go_quiet (fail)
        go_wp2
        go_region_with (go_at_call 120; refine (HG2.out _ (by first | exact (below_drewN (Below.refl _ _) _).drew | exact below_drewN (Below.refl _ _) _)).mono ?_; rintro e w6 ⟨rfl, hX6, hK6⟩)
        all_goals (
          have HX6 : Hid (Xp w6 P.k q gc cc gu (.slice (some ⟨gl, 0, none⟩) P.k cl) (decide (0 < cU us 1 4096)) G bp P (put (opn P us) j (opened (opn P us j) 0 x)) (put tk' j (pt (tk' j) x none)) us) := hX6
          have HK6 : Hid (Kp F F w w6) := hK6
          clear hX6 hK6
          go_wp2
          go_roundw
          case rel => exact ⟨j + 1, by omega, by go_num, HK6.out, _, _, HX6.out, Or.inr ⟨by omega, rfl, rfl⟩⟩
          case measure => simp [iv]; omega)
      · have hne := HNE.out j hlt hji
        have HOr2 : Hid ((j + 1 ≤ i0 ∧ op' = opn P us ∧ tk' = tk) ∨ (i0 < j + 1 ∧ op' = put (opn P us) i0 (opened (opn P us i0) 0 x) ∧ tk' = put tk i0 (pt (tk i0) x none))) := by
          rcases HOr.out with z | z
          · exact Or.inl ⟨by omega, z.2⟩
          · exact Or.inr ⟨by omega, z.2⟩
        clear HGI HOr
        generalize P.f j = f at *
        generalize P.f i0 = f0 at *
        go_wp2
        go_quiet (fail)
        go_wp2
        go_roundw
        case rel => exact ⟨j + 1, by omega, by go_num, HK.out.trans (below_kp (below_drewN (Below.refl _ _) _)), _, _, HX.out.below (below_drewN (Below.refl _ _) _), HOr2.out⟩
        case measure => simp [iv]; omega
    · obtain rfl : j = P.k := by omega
      obtain ⟨_, e1, e2⟩ : i0 < P.k ∧ op' = put (opn P us) i0 (opened (opn P us i0) 0 x) ∧ tk' = put tk i0 (pt (tk i0) x none) := by
        rcases HOr.out with z | z
        · have := HI.out; omega
        · exact z
      subst e1 e2
      have cu := HX.out.cu
      rw [hnn] at cu
      have HX8 : Hid (Xp _ P.k q gc cc gu (.slice (some ⟨gl, 0, none⟩) P.k cl) (decide (0 < cU us 1 4096)) G bp P (put (opn P us) i0 (opened (opn P us i0) 0 x)) (put tk i0 (pt (tk i0) x none)) (pt us g none)) := HX.out.used g (by rw [hnn]; exact HLT.out) none
      have cg := HX.out.ut (g := g) (by rw [hnn]; exact HLT.out)
      have cf := HX.out.use.frozen g
      have HF8 := HPost.out _ HX8.out
      have HF9 : Hid (Ro (wr.setCell ⟨gu, g, none⟩ (.int .u8 0)) F q P (pt us g none)) := HF8
      clear HX HX8 HF8 HPost HGI HOr
      go_wp2
      go_ret
      exact ⟨rfl, HF9.out, HK.out.trans (kp_use HFU.out)⟩
end Go.Proofs.YtdempgjhjcjklaaGreat.P
namespace Go.Proofs.YtdempgjhjcjklaaGreat.P
open B Go.ChangeShapes Go.WideShapes Go.ChangeAt Go.RowKit
set_option linter.unusedVariables false
set_option maxRecDepth 8192

set_option maxHeartbeats 1000000 in
theorem rImage_mem {w : World} {F : Nat → Prop} {q : Nat} {P : Par} {us : Us} (h : Ro w F q P us) (h1 : cU us 1 4096 = 0) (hx : ∀ a, ¬ Nx (opn P us 0) P.o a) : Calls Tryz.prog 27 #[.pointer (some ⟨q, 0, none⟩)] w fun e w' => e = .returned (.tuple #[.slice none 0 0, .int .i64 4]) ∧ Below w.heap.size w w' := by
  obtain ⟨gc, cc, gu, vl, G, bp, L, tk, g1, g2, g3⟩ := h.me
  have hP := h.ok
  have hk1 := hP.k1
  have ho3 := hP.o3
  have C1 : Hid (Calls _ _ _ _ _) := rthere_p g1
  have c1 := g1.ci
  rw [decide_eq_false (by omega)] at c1
  have c5 := g1.co
  obtain ⟨gl, cl, rfl, hcl⟩ := g1.at hP.k1
  have c2 := g1.cl
  have c4 := hcl 0 (by omega)
  have he : ∀ i, P.o ≤ i → i ≤ 6 → L 0 i = [] := by
    rcases take_case (L 0) P.o with q | ⟨k, a, r, q1, q2, q3, q4⟩
    · exact q
    · exact absurd (st_nx (g2.st 0 (by omega)) q1 q2 q3 q4) (hx a)
  have CT : Hid (∀ W, Below w.heap.size w W → Calls Tryz.prog 62 #[.pointer (some ⟨bp 0, 0, none⟩), .int .i64 P.o] W fun e w' => e = .returned (.tuple #[.int .i64 0, .int .i64 90]) ∧ Below w.heap.size w w') := fun W hW =>
    (reTake_none ((g1.below hW).bu 0 (by omega)) opn_lt (fun k hk => (g2.st 0 (by omega)).fit k hk) P.o (by omega) he).mono (fun e w' r => ⟨r.1, hW.trans (r.2.mono hW.size)⟩)
  have i6 : (0 : Int) < (P.k : Int) := by omega
  clear h g1 g2 g3 he hx hcl h1
  go_enter Tryz.func27, Tryz.ntmps27
  go_wp2_with (go_at_call 61; refine C1.out.mono ?_; rintro e w' ⟨rfl, h⟩; obtain rfl := h.symm)
  go_region_with (go_at_call 62; refine (CT.out _ (by first | exact (Below.refl _ _).drew | exact Below.refl _ _)).mono ?_; rintro e w1 ⟨rfl, hb1⟩; have HB1 : Hid (Below w.heap.size w w1) := hb1)
  all_goals (
    go_wp2
    go_ret2
    exact ⟨rfl, HB1.out⟩)
theorem Xp.ro_image {w : World} {q gc cc gu : Nat} {vl : Value} {G : Nat → Nat → Prop} {bp : Nat → Nat} {P : Par} {L : Nat → Nat → List Nat} {tk : Nat → Nat → Option Nat} {us : Us} {F : Nat → Prop} (hP : P.Ok) (hv : Va P us) (g2 : Pq P us L tk (cN P us)) (h1 : cU us 1 4096 = 0) {a k : Nat} {r : List Nat} (ho : P.o ≤ k) (hk : k ≤ 6) (he : ∀ j, P.o ≤ j → j < k → L 0 j = []) (hL : L 0 k = a :: r) (g3 : ∀ x, F x ↔ xfoot P.k q gc gu vl G x)
    (h : Xp w P.k q gc cc gu vl true G bp P (put (opn P us) 0 (shut (opn P us 0) P.o (a / 2 ^ P.o))) (put tk 0 (pt (tk 0) a (some P.o))) (mkI P us a (2 ^ P.o))) : Ro w F q P (mkI P us a (2 ^ P.o)) := by
  have hk0 : 0 < P.k := hP.k1
  obtain ⟨s1, s2, s3, s4, s5, s6⟩ := (g2.st 0 hk0).take ho hk he hL
  obtain ⟨hq, hr, hle⟩ := g2.image hP ho hk he hL
  refine ⟨hP, hv.image hP h1 hr, gc, cc, gu, vl, G, bp, _, _, ?_, ⟨hq.st, hq.t0, fun _ => rfl⟩, g3⟩
  have hpos := Nat.two_pow_pos P.o
  have e1 : decide (0 < cU (mkI P us a (2 ^ P.o)) 1 4096) = true := by
    rw [cU_mk hP hr 1 (Nat.le_refl _), if_pos rfl]
    simp only [decide_eq_true_eq]
    omega
  rw [e1]
  refine h.congr (fun j hj => ?_)
  by_cases e : j = 0
  · subst e
    rw [put_same, opn_image hP us s3]
  · rw [put_other _ _ _ _ e, opn_mk_other hP us a _ hj e]
set_option maxHeartbeats 2000000 in
theorem rImage_p {w : World} {F : Nat → Prop} {q : Nat} {P : Par} {us : Us} (h : Ro w F q P us) (h1 : cU us 1 4096 = 0) (a0 : Nat) (hx : Nx (opn P us 0) P.o a0) :
    Calls Tryz.prog 27 #[.pointer (some ⟨q, 0, none⟩)] w fun e w' => ∃ v, e = .returned (.tuple #[v, .int .i64 0]) ∧ Is w' w.heap.size v (imgL P a0 (2 ^ P.o)) ∧ Ro w' F q P (mkI P us a0 (2 ^ P.o)) ∧ Kp F F w w' := by
  obtain ⟨gc, cc, gu, vl, G, bp, L, tk, g1, g2, g3⟩ := h.me
  have hP := h.ok
  have hk1 := hP.k1
  have ho3 := hP.o3
  rcases take_case (L 0) P.o with z | ⟨k, a, r, q1, q2, q3, q4⟩
  · exact absurd hx (st_no_nx (g2.st 0 (by omega)) z a0)
  obtain rfl : a0 = a := hx.uniq (st_nx (g2.st 0 (by omega)) q1 q2 q3 q4)
  obtain ⟨hq, hr, hle⟩ := g2.image hP q1 q2 q3 q4
  obtain ⟨s1, s2, s3, s4, s5, s6⟩ := (g2.st 0 hk1).take q1 q2 q3 q4
  have hrle := hr.le
  have hN2 := hP.N2
  have C1 : Hid (Calls _ _ _ _ _) := rthere_p g1
  have c1 := g1.ci
  rw [decide_eq_false (by omega)] at c1
  have c5 := g1.co
  obtain ⟨gl, cl, rfl, hcl⟩ := g1.at hP.k1
  have c2 := g1.cl
  have c4 := hcl 0 (by omega)
  obtain ⟨p1, p2, p3⟩ := pow_o ho3
  have HFW : ∀ x, G 0 x → F x := fun x hx => (g3 x).2 (Or.inr (Or.inr (Or.inr (Or.inr ⟨_, hk1, hx⟩))))
  have CT : Hid (∀ W, Below w.heap.size w W → Calls Tryz.prog 62 #[.pointer (some ⟨bp 0, 0, none⟩), .int .i64 P.o] W fun e w' => e = .returned (.tuple #[.int .i64 (a0 : Nat), .int .i64 0]) ∧ Xp w' P.k q gc cc gu (.slice (some ⟨gl, 0, none⟩) P.k cl) false G bp P (put (opn P us) 0 (shut (opn P us 0) P.o (a0 / 2 ^ P.o))) (put tk 0 (pt (tk 0) a0 (some P.o))) us ∧ Kp F F w w') := fun W hW => by
    refine (reTake_ok ((g1.below hW).bu 0 (by omega)) opn_lt (fun k hk => (g2.st 0 (by omega)).fit k hk) P.o k a0 r q1 q2 q3 q4 s3 hrle).mono ?_
    rintro e w' ⟨r1, r2, r3⟩
    have := (g1.below hW).buddy 0 hk1 r3 r2
    rw [decide_eq_false (by omega)] at this
    exact ⟨r1, this, (below_kp hW).trans (Kp.wide r3 HFW)⟩
  have HPost : Hid (∀ W, Xp W P.k q gc cc gu (.slice (some ⟨gl, 0, none⟩) P.k cl) true G bp P (put (opn P us) 0 (shut (opn P us 0) P.o (a0 / 2 ^ P.o))) (put tk 0 (pt (tk 0) a0 (some P.o))) (mkI P us a0 (2 ^ P.o)) → Ro W F q P (mkI P us a0 (2 ^ P.o))) := fun W hW => hW.ro_image hP h.va g2 h1 q1 q2 q3 q4 g3
  have HFU : Hid (F gu) := (g3 gu).2 (Or.inr (Or.inr (Or.inl rfl)))
  have HFQ : Hid (F q) := (g3 q).2 (Or.inl rfl)
  have HFL : Hid (∀ x, F x → x < w.heap.size) := h.lt
  have HG3 : Hid (∀ x, xfoot P.k q gc gu (.slice (some ⟨gl, 0, none⟩) P.k cl) G x → F x) := fun x hx => (g3 x).2 hx
  have i6 : (0 : Int) < (P.k : Int) := by omega
  have i7 : 0 < P.k := hk1
  have i8 : ¬ P.k = 0 := by omega
  have i9 : decide ((0 : Int) < (P.k : Int)) = true := by simp only [decide_eq_true_eq]; omega
  have HOK : Hid P.Ok := hP
  have hNF := hP.NF
  obtain ⟨i0, hi0, hz0, hz1, hz2⟩ := info_parts B.Tryz.infoI
  clear h g1 g2 g3 hq q1 q2 q3 q4 hr hx h1 hle hcl s1 s2 s3 s4 s5 s6 HFW
  generalize a0 / 2 ^ P.o = ad at *
  generalize 2 ^ P.o = S at *
  generalize put (opn P us) 0 (shut (opn P us 0) P.o ad) = op' at *
  generalize put tk 0 (pt (tk 0) a0 (some P.o)) = tk' at *
  go_enter Tryz.func27, Tryz.ntmps27
  go_wp2_with (go_at_call 61; refine C1.out.mono ?_; rintro e w' ⟨rfl, h⟩; obtain rfl := h.symm)
  go_region_held3 (fun W => W.cell? ⟨gl, 0, none⟩ = some (.pointer (some ⟨bp 0, 0, none⟩)) ∧ W.cell? ⟨q, 25, none⟩ = some (.slice (some ⟨gl, 0, none⟩) P.k cl) ∧ W.cell? ⟨q, 18, none⟩ = some (.int .i64 P.o))
    (first | exact ⟨c4, c2, c5⟩ | exact HS1.out)
    ((go_at_call 62; refine (CT.out _ (by first | exact (Below.refl _ _).drew | exact Below.refl _ _)).mono ?_; rintro e w1 ⟨rfl, hX1, hK1⟩; have HX1 : Hid (Xp w1 P.k q gc cc gu (.slice (some ⟨gl, 0, none⟩) P.k cl) false G bp P op' tk' us) := hX1; have HK1 : Hid (Kp F F w w1) := hK1; have HS1 : Hid (w1.cell? ⟨gl, 0, none⟩ = some (.pointer (some ⟨bp 0, 0, none⟩)) ∧ w1.cell? ⟨q, 25, none⟩ = some (.slice (some ⟨gl, 0, none⟩) P.k cl) ∧ w1.cell? ⟨q, 18, none⟩ = some (.int .i64 P.o)) := ⟨by obtain ⟨_, _, e, z⟩ := hX1.at hk1; cases e; exact z 0 hk1, hX1.cl, hX1.co⟩))
  clear HS1 c1 c2 c4 c5 CT C1
  have ci := HX1.out.ci
  have cf := HX1.out.fz 27
  have HX2 : Hid (Xp (w1.setCell ⟨q, 27, none⟩ (.bool true)) P.k q gc cc gu (.slice (some ⟨gl, 0, none⟩) P.k cl) true G bp P op' tk' (mkI P us a0 0)) := HX1.out.imaged true
  have HK2 : Hid (Kp F F w (w1.setCell ⟨q, 27, none⟩ (.bool true))) := HK1.out.trans (kp_use HFQ.out)
  clear HX1 HK1
  go_wp2
  generalize w1.setCell ⟨q, 27, none⟩ (.bool true) = w2 at *
  clear ci cf
  go_loopw [6, 7] (fun v z wr => ∃ (m : Nat) (vv : Value), vv = v ∧ m ≤ S ∧ z = .int .i64 m ∧ Is wr w.heap.size v (imgL P a0 m) ∧ Xp wr P.k q gc cc gu (.slice (some ⟨gl, 0, none⟩) P.k cl) true G bp P op' tk' (mkI P us a0 m) ∧ Kp F F w wr) (fun _ z _ => S - (iv z).toNat)
  case atStart => exact ⟨0, _, rfl, by omega, rfl, Is.nil _ _, HX2.out, HK2.out⟩
  case round =>
    clear HX2 HK2
    obtain ⟨m, v, hvv, hm, rfl, hI, hq, hK⟩ := hrel
    subst hvv
    have HI2 : Hid (Is wr w.heap.size v (imgL P a0 m)) := hI
    have HK3 : Hid (Kp F F w wr) := hK
    have HX3 : Hid (Xp wr P.k q gc cc gu (.slice (some ⟨gl, 0, none⟩) P.k cl) true G bp P op' tk' (mkI P us a0 m)) := hq
    have c5 := hq.co
    clear hI hq hK
    by_cases hlt : m < S
    · have CM : Hid (Calls Tryz.prog 63 #[.pointer (some ⟨q, 0, none⟩), .int .i64 0, .int .i64 (a0 + m : Nat)] wr _) := rframe_p HX3.out HOK.out 0 (a0 + m) hk1 (by omega)
      have HLT : Hid (fm P 0 (a0 + m) < P.N * P.C) := fm_lt' HOK.out hk1 (by omega)
      have HFS : Hid (imgL P a0 (m + 1) = imgL P a0 m ++ [(fm P 0 (a0 + m) : Int)]) := imgL_succ P a0 m
      have hlen := imgL_len P a0 m
      have hjI : (m : Int) < (S : Int) := by omega
      have hsum : IntKind.i64.wrap ((a0 : Int) + (m : Int)) = ((a0 + m : Nat) : Int) := by rw [show ((a0 : Int) + (m : Int)) = ((a0 + m : Nat) : Int) by simp]; exact IntWalk.i64_in _ (by omega)
      go_wp2_with fail
      refine CM.out.mono ?_
      rintro e w3 ⟨rfl, hb3⟩
      have HX4 := HX3.out.below hb3
      have cu := HX4.cu
      have cg := HX4.ut HLT.out
      have cf := HX4.use.frozen (fm P 0 (a0 + m))
      have HX5 : Hid (Xp (w3.setCell ⟨gu, fm P 0 (a0 + m), none⟩ (.int .u8 1)) P.k q gc cc gu (.slice (some ⟨gl, 0, none⟩) P.k cl) true G bp P op' tk' (mkI P us a0 (m + 1))) := HX4.used _ HLT.out (some 1)
      have hkk : Kp F F wr (w3.setCell ⟨gu, fm P 0 (a0 + m), none⟩ (.int .u8 1)) := (below_kp hb3).trans (kp_use HFU.out)
      have HK5 : Hid (Kp F F w (w3.setCell ⟨gu, fm P 0 (a0 + m), none⟩ (.int .u8 1))) := HK3.out.trans hkk
      have HI3 : Hid (Is (w3.setCell ⟨gu, fm P 0 (a0 + m), none⟩ (.int .u8 1)) w.heap.size v (imgL P a0 m)) := HI2.out.of_eq (fun c hc => hkk.block c (HI2.out.lt c hc).2 (fun z => by
        have h1 := (HI2.out.lt c hc).1
        have h2 := HFL.out c z
        omega))
      have hsz := HK5.out.size
      have hltN := HLT.out
      clear HX4 hkk hb3 CM HX3 HK3 HI2 HLT
      generalize fm P 0 (a0 + m) = g at *
      generalize P.N * P.C = n at *
      have hgI : (g : Int) < (n : Int) := by omega
      go_upto_region 15 with fail
      generalize w3.setCell ⟨gu, g, none⟩ (.int .u8 1) = w4 at *
      clear cu cg cf
      go_wp2_with (at_builtin; refine wpList_append_own _ rfl (.tmp 57) (.tmp 59) 25 rfl w.heap.size 3 i0 _ 1 8 Tryz.underlying25 hi0 hz0 hz1 hz2 rfl (by decide) _ (imgL P a0 m).length _ rfl (HI3.out.alloc _) ⟨w4.heap.size, 0, none⟩ 1 1 [.int .i64 g] rfl rfl (cell_one_new _ _ _) (by intro u hu; simp at hu; subst hu; rfl) (by unfold maxLen; omega) (by omega) (by simp; omega) ?_; intro v2 w5 o2 gr2 nil2)
      have hk6 : Kp F F w (w4.alloc (.cells #[.int .i64 g] 3)) := Kp.more HK5.out (World.grownBy_alloc _ _ none) (by simp)
      have HK6 : Hid (Kp F F w w5) := Kp.more hk6 gr2 (fun k hk => (HI3.out.lt k hk).1)
      have HX6 : Hid (Xp w5 P.k q gc cc gu (.slice (some ⟨gl, 0, none⟩) P.k cl) true G bp P op' tk' (mkI P us a0 (m + 1))) := by
        have hx1 := HX5.out.below (below_new w4 (.cells #[.int .i64 g] 3))
        refine hx1.of_eq gr2.size (fun x hx => gr2.block x (hx1.flt x hx) (fun e => ?_))
        have y1 := (HI3.out.lt x e.symm).1
        have y2 := HFL.out x (HG3.out x hx)
        omega
      clear hk6
      go_roundw
      case rel => exact ⟨m + 1, _, rfl, by omega, by go_num, by rw [HFS.out]; exact is_snoc o2, HX6.out, HK6.out⟩
      case measure => simp [iv]; omega
    · obtain rfl : m = S := by omega
      have HF := HPost.out _ HX3.out
      have HF2 : Hid (Ro wr F q P (mkI P us a0 m)) := HF
      clear HF HX3 HPost
      go_wp2
      go_ret2
      exact ⟨_, rfl, HI2.out, HF2.out, HK3.out⟩
end Go.Proofs.YtdempgjhjcjklaaGreat.P
