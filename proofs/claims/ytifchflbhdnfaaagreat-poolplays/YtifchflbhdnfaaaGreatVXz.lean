/- PoolPlays walked; no condition. -/
import Derived.Test.YtifchflbhdnfaaaGreatVXe
namespace Go.Proofs.YtifchflbhdnfaaaGreat.P
open Go.ChangeShapes Go.WideShapes Go.ChangeAt Go.RowKit
set_option linter.unusedVariables false
set_option maxRecDepth 8192

theorem within_eq' (k n : Int) (hn : 0 < n) : (if k.tmod n < 0 then k.tmod n + n else k.tmod n) = k % n := by
  rw [Int.tmod_eq_emod]
  have h1 := Int.emod_nonneg k (show n ≠ 0 by omega)
  have h2 := Int.emod_lt_of_pos k hn
  have e : (n.natAbs : Int) = n := Int.natAbs_of_nonneg (by omega)
  by_cases hq : 0 ≤ k ∨ n ∣ k
  · simp only [hq, if_true]
    rw [if_neg (by omega)]
    omega
  · simp only [hq, if_false, e]
    rw [if_pos (by omega)]
    omega
theorem within_o (k n : Int) (h0 : 0 < n) (h1 : n < 4611686018427387904) (hk0 : -9223372036854775808 ≤ k) (hk1 : k < 9223372036854775808) (w : World) :
    Calls Tryz.prog 10 #[.int .i64 k, .int .i64 n] w fun e w' => e = .returned (.int .i64 (k % n)) ∧ w' = w := by
  have HE : Hid _ := within_eq' k n h0
  have h2 : -n < k.tmod n := Int.lt_tmod_of_pos k h0
  have h3 : k.tmod n < n := Int.tmod_lt_of_pos k h0
  by_cases hz : k.tmod n < 0
  · rw [if_pos hz] at HE
    go_enter Tryz.func10, Tryz.ntmps10
    go_wp2
    go_ret
    exact ⟨B.ret_int HE.out, rfl⟩
  · rw [if_neg hz] at HE
    go_enter Tryz.func10, Tryz.ntmps10
    go_wp2
    go_ret
    exact ⟨B.ret_int HE.out, rfl⟩
theorem ptr_nil (vp : Option Addr) : ∀ W : World, (binOp .eql 30 (.pointer vp) (.pointer none)).run Tryz.prog W = .ok (.bool (!vp.isSome)) W := fun W => by
  cases vp <;> simp [go_sem, Tryz.underlying30]
theorem ptr_nil' (vp : Option Addr) : ∀ W : World, (binOp .eql 34 (.pointer vp) (.pointer none)).run Tryz.prog W = .ok (.bool (!vp.isSome)) W := fun W => by
  cases vp <;> simp [go_sem, Tryz.underlying34]
/-- Where PoolPlays stands: both pools, what was told, the box of the call. -/
structure Pz (w wr : World) (Fp Fq : Nat → Prop) (vp vr : Option Addr) (P : Par) (sp sr : Option Us) (v : Value) (M : List Int) (kb : Option (Nat × List Value)) : Prop where
  be : Below w.heap.size w wr
  bp : PoO wr Fp vp P sp
  br : RoO wr Fq vr P sr
  d : ∀ x, Fp x → ¬ Fq x
  lp : ∀ x, Fp x → w.heap.size ≤ x
  lq : ∀ x, Fq x → w.heap.size ≤ x
  is : Is wr w.heap.size v M
  np : ∀ k, v.ownBlock = some k → ¬ Fp k ∧ ¬ Fq k
  rg : ∀ x ∈ M, 0 ≤ x ∧ x ≤ 4096
  kb : ∀ b L, kb = some (b, L) → B.Blk wr b 39 L ∧ w.heap.size ≤ b ∧ ¬ Fp b ∧ ¬ Fq b ∧ v.ownBlock ≠ some b
theorem Pz.other {w wr w' : World} {Fp Fq : Nat → Prop} {vp vr : Option Addr} {P : Par} {sp sr : Option Us} {v : Value} {M : List Int} {kb : Option (Nat × List Value)} (h : Pz w wr Fp Fq vp vr P sp sr v M kb) {row : Option Nat} (g : wr.grownBy w' row)
    (hr : ∀ k, row = some k → w.heap.size ≤ k ∧ ¬ Fp k ∧ ¬ Fq k ∧ v.ownBlock ≠ some k ∧ ∀ b L, kb = some (b, L) → b ≠ k) : Pz w w' Fp Fq vp vr P sp sr v M kb := by
  have nb : ∀ x, x < wr.heap.size → (∀ k, row = some k → x ≠ k) → w'.heap[x]? = wr.heap[x]? := fun x hx hn => g.block x hx (fun e => hn x e.symm rfl)
  refine ⟨h.be.grown g h.be.size (fun k hk => (hr k hk).1), h.bp.of_eq g.size (fun x hx => nb x (h.bp.lt x hx) (fun k hk e => (hr k hk).2.1 (e ▸ hx))), h.br.of_eq g.size (fun x hx => nb x (h.br.lt x hx) (fun k hk e => (hr k hk).2.2.1 (e ▸ hx))), h.d, h.lp, h.lq,
    h.is.of_eq (fun x hx => nb x (h.is.lt x hx).2 (fun k hk e => (hr k hk).2.2.2.1 (e ▸ hx))), h.np, h.rg, fun b L e => ?_⟩
  obtain ⟨h1, h2⟩ := h.kb b L e
  exact ⟨h1.of_eq (nb b h1.lt (fun k hk z => (hr k hk).2.2.2.2 b L e z)), h2⟩
theorem Pz.below {w wr w' : World} {Fp Fq : Nat → Prop} {vp vr : Option Addr} {P : Par} {sp sr : Option Us} {v : Value} {M : List Int} {kb : Option (Nat × List Value)} (h : Pz w wr Fp Fq vp vr P sp sr v M kb) (k : Below wr.heap.size wr w') : Pz w w' Fp Fq vp vr P sp sr v M kb := h.other (B.below_grow (row := none) k) (by simp)
theorem Pz.unbox {w wr : World} {Fp Fq : Nat → Prop} {vp vr : Option Addr} {P : Par} {sp sr : Option Us} {v : Value} {M : List Int} {kb : Option (Nat × List Value)} (h : Pz w wr Fp Fq vp vr P sp sr v M kb) : Pz w wr Fp Fq vp vr P sp sr v M none := ⟨h.be, h.bp, h.br, h.d, h.lp, h.lq, h.is, h.np, h.rg, by simp⟩
theorem Pz.box {w wr : World} {Fp Fq : Nat → Prop} {vp vr : Option Addr} {P : Par} {sp sr : Option Us} {v : Value} {M : List Int} (h : Pz w wr Fp Fq vp vr P sp sr v M none) (L : List Value) : Pz w (wr.alloc (.cells L.toArray 39)) Fp Fq vp vr P sp sr v M (some (wr.heap.size, L)) := by
  have h1 := h.below (below_new wr (.cells L.toArray 39))
  refine ⟨h1.be, h1.bp, h1.br, h1.d, h1.lp, h1.lq, h1.is, h1.np, h1.rg, fun b K e => ?_⟩
  injection e with e
  injection e with e1 e2
  subst e1 e2
  exact ⟨B.blk_new _ _ _, h.be.size, (fun z => by have := h.bp.lt _ z; omega), (fun z => by have := h.br.lt _ z; omega), fun z => by have := (h.is.lt _ z).2; omega⟩
theorem Pz.left {w wr w' : World} {Fp Fq Fp' : Nat → Prop} {vp vr : Option Addr} {P : Par} {sp sr sp' : Option Us} {v : Value} {M : List Int} {kb : Option (Nat × List Value)} (h : Pz w wr Fp Fq vp vr P sp sr v M kb) (k : B.Kp Fp Fp' wr w') (hp : PoO w' Fp' vp P sp') : Pz w w' Fp' Fq vp vr P sp' sr v M kb := by
  have nw : ∀ x, x < wr.heap.size → ¬ Fp x → ¬ Fp' x := fun x hx hn z => by
    rcases k.new x z with y | y
    · exact hn y
    · omega
  have hs := h.be.size
  refine ⟨h.be.trans (k.below _ h.be.size h.lp), hp, h.br.of_eq k.size (fun x hx => k.block x (h.br.lt x hx) (fun z => h.d x z hx)), fun x hx z => ?_, fun x hx => ?_, h.lq, h.is.of_eq (fun g hg => k.block g (h.is.lt g hg).2 (h.np g hg).1), fun g hg => ⟨nw g (h.is.lt g hg).2 (h.np g hg).1, (h.np g hg).2⟩, h.rg, fun b L e => ?_⟩
  · rcases k.new x hx with y | y
    · exact h.d x y z
    · have := h.br.lt x z; omega
  · rcases k.new x hx with y | y
    · exact h.lp x y
    · omega
  · obtain ⟨h1, h2, h3, h4, h5⟩ := h.kb b L e
    exact ⟨h1.of_eq (k.block b h1.lt h3), h2, nw b h1.lt h3, h4, h5⟩
theorem Pz.right {w wr w' : World} {Fp Fq : Nat → Prop} {vp vr : Option Addr} {P : Par} {sp sr sr' : Option Us} {v : Value} {M : List Int} {kb : Option (Nat × List Value)} (h : Pz w wr Fp Fq vp vr P sp sr v M kb) (k : B.Kp Fq Fq wr w') (hr : RoO w' Fq vr P sr') : Pz w w' Fp Fq vp vr P sp sr' v M kb := by
  refine ⟨h.be.trans (k.below _ h.be.size h.lq), h.bp.of_eq k.size (fun x hx => k.block x (h.bp.lt x hx) (h.d x hx)), hr, h.d, h.lp, h.lq, h.is.of_eq (fun g hg => k.block g (h.is.lt g hg).2 (h.np g hg).2), h.np, h.rg, fun b L e => ?_⟩
  obtain ⟨h1, h2, h3, h4, h5⟩ := h.kb b L e
  exact ⟨h1.of_eq (k.block b h1.lt h4), h2, h3, h4, h5⟩
theorem Pz.told {w wr w' : World} {Fp Fq : Nat → Prop} {vp vr : Option Addr} {P : Par} {sp sr : Option Us} {v : Value} {M : List Int} {kb : Option (Nat × List Value)} (h : Pz w wr Fp Fq vp vr P sp sr v M kb) {x : Int} {g c : Nat} (hx : 0 ≤ x ∧ x ≤ 4096) (gr : wr.grownBy w' v.ownBlock) (hi : Is w' w.heap.size (.slice (some ⟨g, 0, none⟩) (M.length + 1) c) (M ++ [x])) (hv : v.ownBlock = some g ∨ wr.heap.size ≤ g) :
    Pz w w' Fp Fq vp vr P sp sr (.slice (some ⟨g, 0, none⟩) (M.length + 1) c) (M ++ [x]) kb := by
  have hb := h.be.size
  have hf : ¬ Fp g ∧ ¬ Fq g := by
    rcases hv with e | e
    · exact h.np g e
    · exact ⟨fun z => by have := h.bp.lt g z; omega, fun z => by have := h.br.lt g z; omega⟩
  refine ⟨h.be.grown gr h.be.size (fun k hk => (h.is.lt k hk).1), h.bp.of_eq gr.size (fun y hy => gr.block y (h.bp.lt y hy) (fun e => (h.np y e.symm).1 hy)), h.br.of_eq gr.size (fun y hy => gr.block y (h.br.lt y hy) (fun e => (h.np y e.symm).2 hy)), h.d, h.lp, h.lq, hi, fun k hk => ?_, fun y hy => ?_, fun b L e => ?_⟩
  · obtain rfl : g = k := by simpa [Value.ownBlock] using hk
    exact hf
  · rcases List.mem_append.1 hy with z | z
    · exact h.rg y z
    · rw [List.mem_singleton.1 z]; exact hx
  · obtain ⟨h1, h2, h3, h4, h5⟩ := h.kb b L e
    refine ⟨h1.of_eq (gr.block b h1.lt (fun e => h5 e.symm)), h2, h3, h4, fun z => ?_⟩
    obtain rfl : g = b := by simpa [Value.ownBlock] using z
    rcases hv with y | y
    · exact h5 y
    · have := h1.lt; omega
theorem Pz.cells {w wr : World} {Fp Fq : Nat → Prop} {vp vr : Option Addr} {P : Par} {sp sr : Option Us} {v : Value} {M : List Int} {b : Nat} {x y z : Value} (h : Pz w wr Fp Fq vp vr P sp sr v M (some (b, [x, y, z]))) : wr.cell? ⟨b, 0, none⟩ = some x ∧ wr.cell? ⟨b, 1, none⟩ = some y ∧ wr.cell? ⟨b, 2, none⟩ = some z := by
  obtain ⟨h1, _⟩ := h.kb b _ rfl
  exact ⟨h1.cell 0, h1.cell 1, h1.cell 2⟩
set_option maxHeartbeats 8000000 in
theorem PoolPlays_walk {w : World} {a : Ad} {c : Cf} (hc : Cin w a c) (n : Int) {ao : Option Addr} {len cap : Nat} (hd : Dos w ao len) (hl : len ≤ maxLen) :
    Calls Tryz.prog 3 #[.agg #[.int .i64 c.F, .int .i64 c.C, .int .i64 c.W, .int .i64 c.S, .int .i64 c.V, .int .i64 c.T, .int .u64 c.k.l1, .int .u64 c.k.llc, .int .u64 c.k.mi, .int .u64 c.k.fa, .int .u64 c.k.st, .int .u64 c.k.di, .int .u64 c.sl, .int .u64 c.pd, .int .u64 c.ft, .slice a.ta c.tn a.tc, .slice a.pa c.pn a.pc], .int .i64 n, .slice ao len cap] w (One (.bool true) w) := by
  have HB0 := cb_new hc
  obtain ⟨P, s, hN⟩ := pNewO hc n
  have CN : Hid (∀ W, Cin W a c → Calls Tryz.prog 7 #[.agg #[.int .i64 c.F, .int .i64 c.C, .int .i64 c.W, .int .i64 c.S, .int .i64 c.V, .int .i64 c.T, .int .u64 c.k.l1, .int .u64 c.k.llc, .int .u64 c.k.mi, .int .u64 c.k.fa, .int .u64 c.k.st, .int .u64 c.k.di, .int .u64 c.sl, .int .u64 c.pd, .int .u64 c.ft, .slice a.ta c.tn a.tc, .slice a.pa c.pn a.pc], .int .i64 n] W (fun e w' => ∃ vp F, e = .returned (.tuple #[.pointer vp, .int .i64 (fe c n)]) ∧ PoO w' F vp P s ∧ vp.isSome = s.isSome ∧ B.Kp (fun _ => False) F W w')) := fun W hW => (hN W hW).1
  have RN : Hid (∀ W, Cin W a c → Calls Tryz.prog 8 #[.agg #[.int .i64 c.F, .int .i64 c.C, .int .i64 c.W, .int .i64 c.S, .int .i64 c.V, .int .i64 c.T, .int .u64 c.k.l1, .int .u64 c.k.llc, .int .u64 c.k.mi, .int .u64 c.k.fa, .int .u64 c.k.st, .int .u64 c.k.di, .int .u64 c.sl, .int .u64 c.pd, .int .u64 c.ft, .slice a.ta c.tn a.tc, .slice a.pa c.pn a.pc], .int .i64 n] W (fun e w' => ∃ vr F, e = .returned (.tuple #[.pointer vr, .int .i64 (fe c n)]) ∧ RoO w' F vr P s ∧ vr.isSome = s.isSome ∧ B.Kp (fun _ => False) F W w')) := fun W hW => (hN W hW).2
  have HD : Hid (Dos w ao len) := hd
  have hl2 : (len : Int) ≤ 9223372036854775807 := by unfold maxLen at hl; omega
  have C0 : Hid (∀ W, Calls Tryz.prog 18 #[] W (One (.bool true) W)) := works_any
  clear hc hd hl hN
  generalize fe c n = e0 at *
  go_enter Tryz.func3, Tryz.ntmps3
  go_upto_region 1 with fail
  obtain ⟨W, hW, HB⟩ : ∃ W, (w.alloc (.cells #[.int .i64 c.F, .int .i64 c.C, .int .i64 c.W, .int .i64 c.S, .int .i64 c.V, .int .i64 c.T, .int .u64 c.k.l1, .int .u64 c.k.llc, .int .u64 c.k.mi, .int .u64 c.k.fa, .int .u64 c.k.st, .int .u64 c.k.di, .int .u64 c.sl, .int .u64 c.pd, .int .u64 c.ft, .slice a.ta c.tn a.tc, .slice a.pa c.pn a.pc] 28)) = W ∧ Hid (Cb w W w.heap.size a c) := ⟨_, rfl, HB0⟩
  rw [hW]
  clear hW HB0
  have hld := HB.out.bx.ld
  go_wp2_with (refine wpList_load_at rfl 28 (.tmp 3) rfl _ _ rfl hld ?_)
  refine (CN.out _ HB.out.ci).mono ?_
  rintro e w1 ⟨vp, Fp, rfl, hp1, hvp, hk1⟩
  have H1 : Hid (Cb w w1 w.heap.size a c) := HB.out.below (kp_false hk1)
  have HP1 : Hid (PoO w1 Fp vp P s) := hp1
  have HLP : Hid (∀ x, Fp x → w.heap.size ≤ x) := fun x hx => by
    rcases hk1.new x hx with z | z
    · exact z.elim
    · have := HB.out.be.size; omega
  have hvp2 : (!vp.isSome) = !s.isSome := by rw [hvp]
  clear hp1 hk1 HB CN hld hvp
  have hld := H1.out.bx.ld
  go_wp2_with (refine wpList_load_at rfl 28 (.tmp 3) rfl _ _ rfl hld ?_)
  refine (RN.out _ H1.out.ci).mono ?_
  rintro e w2 ⟨vr, Fq, rfl, hp2, hvr, hk2⟩
  have hvr2 : (!vr.isSome) = !s.isSome := by rw [hvr]
  have HZ : Hid (Pz w w2 Fp Fq vp vr P s s (.slice none 0 0) [] none) := by
    have hb := (H1.out.below (kp_false hk2)).be
    refine ⟨hb, HP1.out.below (kp_false hk2), hp2, fun x hx z => ?_, HLP.out, fun x hx => ?_, Is.nil _ _, (fun k hk => by cases hk), (fun x hx => by cases hx), by simp⟩
    · rcases hk2.new x z with y | y
      · exact y
      · have := HP1.out.lt x hx; omega
    · rcases hk2.new x hx with z | z
      · exact z.elim
      · have := H1.out.be.size; omega
  have q1 := ptr_nil vp
  have q2 := ptr_nil' vr
  rw [hvp2] at q1
  rw [hvr2] at q2
  have CS : Hid (Calls _ _ _ _ _) := stand_any HZ.out.bp HZ.out.br
  clear hp2 hk2 H1 HP1 HLP RN hld hvr hvp2 hvr2
  generalize (!s.isSome) = bb at *
  have q3 : (bb != bb) = false := by cases bb <;> rfl
  go_wp2_with fail
  refine CS.out.mono ?_
  rintro e w3 ⟨rfl, hb3⟩
  have HZ3 : Hid (Pz w w3 Fp Fq vp vr P s s (.slice none 0 0) [] none) := HZ.out.below hb3
  clear CS hb3 HZ q1 q2 q3
  go_wp2
  go_loopw [11, 12] (fun t z wr => ∃ (j : Nat) (vv : Value), vv = t ∧ j ≤ len ∧ j ≤ 80 ∧ z = .int .i64 j ∧ ∃ Fp Fq s M, Pz w wr Fp Fq vp vr P s s t M none ∧ M.length ≤ j) (fun _ z _ => 80 - (B.iv z).toNat)
  case atStart => exact ⟨0, _, rfl, by omega, by omega, rfl, _, _, _, _, HZ3.out, by simp⟩
  case round =>
    clear HZ3 Fp Fq s
    obtain ⟨j, v, hvv, hj, hj80, rfl, Fp, Fq, s, M, hz, hM⟩ := hrel
    subst hvv
    have HZ : Hid (Pz w wr Fp Fq vp vr P s s v M none) := hz
    clear hz
    by_cases hlt : j < len ∧ j < 80
    · obtain ⟨b, off, K, A, U, hao, c0, c1, c2, hK, hA, hU⟩ := HD.out.at' hlt.1 HZ.out.be
      subst hao
      have d1 : decide ((j : Int) < (len : Int)) = true := by simp only [decide_eq_true_eq]; omega
      have d2 : decide ((j : Int) < 80) = true := by simp only [decide_eq_true_eq]; omega
      have d3 : (j : Int) < (len : Int) := by omega
      go_upto_region 10 with fail
      have HZ1 : Hid (Pz w (wr.alloc (.cells #[.int .i64 K, .int .i64 A, .int .u8 (U : Nat)] 39)) Fp Fq vp vr P s s v M (some (wr.heap.size, [.int .i64 K, .int .i64 A, .int .u8 (U : Nat)]))) := HZ.out.box [.int .i64 K, .int .i64 A, .int .u8 (U : Nat)]
      generalize wr.alloc (.cells #[.int .i64 K, .int .i64 A, .int .u8 (U : Nat)] 39) = wb at *
      generalize wr.heap.size = gx at *
      obtain ⟨x0, x1, x2⟩ := HZ1.out.cells
      have CW : Hid (Calls _ _ _ _ _) := within_o K 4 (by omega) (by omega) hK.1 (by omega) wb
      clear c0 c1 c2 HZ d1 d2
      go_wp2_with fail
      refine CW.out.mono ?_
      rintro e w4 ⟨rfl, h⟩
      obtain rfl := h.symm
      clear CW h
      rcases (show K % 4 = 0 ∨ K % 4 = 1 ∨ K % 4 = 2 ∨ K % 4 = 3 by omega) with hk | hk | hk | hk
      · rw [hk]
        have PT : Hid (Calls _ _ _ _ _) := pTakeO HZ1.out.bp U
        clear hk x0 x1
        go_wp2_with fail
        refine PT.out.mono ?_
        rintro e w5 ⟨g, er, s', Fp', rfl, hT, hg, hP5, hK5⟩
        have HZ5 : Hid (Pz w w5 Fp' Fq vp vr P s' s v M (some (gx, [.int .i64 K, .int .i64 A, .int .u8 (U : Nat)]))) := HZ1.out.left hK5 hP5
        have HT : Hid (TkO P s U g er s') := hT
        have RT : Hid (Calls _ _ _ _ _) := rTakeO HZ5.out.br U
        obtain ⟨_, _, x2⟩ := HZ5.out.cells
        clear PT hT hP5 hK5 HZ1
        go_wp2_with fail
        refine RT.out.mono ?_
        rintro e w6 ⟨g', er', s'', rfl, hT', hR6, hK6⟩
        obtain ⟨e1, e2, e3⟩ := HT.out.uniq hT'
        rw [e1, e2]
        rw [e3] at hR6
        have HZ6 : Hid (Pz w w6 Fp' Fq vp vr P s' s' v M (some (gx, [.int .i64 K, .int .i64 A, .int .u8 (U : Nat)]))) := HZ5.out.right hK6 hR6
        clear RT HT hT' e1 e2 e3 hR6 hK6 HZ5 x2
        by_cases hz : er = 0
        · subst hz
          obtain ⟨i0, hi0, hz0, hz1, hz2⟩ := info_parts B.Tryz.infoI
          have HI6 : Hid (Is w6 w.heap.size v M) := HZ6.out.is
          have hsz := HZ6.out.be.size
          go_wp2_with (at_builtin; refine wpList_append_lies _ rfl (.tmp 123) (.tmp 125) 25 rfl w.heap.size 3 i0 _ 1 8 Tryz.underlying25 hi0 hz0 hz1 hz2 rfl (by decide) v M.length (B.tv M) rfl (HI6.out.alloc _) ⟨w6.heap.size, 0, none⟩ 1 1 [.int .i64 g] rfl rfl (cell_one_new _ _ _) (by intro u hu; simp at hu; subst hu; rfl) (by omega) (by unfold maxLen; omega) (by omega) (by simp; omega) (w6.heap.size + 1) (by simp) ?_; intro g7 k7 w7 o7 gr7 at7 lt7)
          have HZ7 : Hid (Pz w w7 Fp' Fq vp vr P s' s' (.slice (some ⟨g7, 0, none⟩) (M.length + 1) k7) (M ++ [(g : Int)]) (some (gx, [.int .i64 K, .int .i64 A, .int .u8 (U : Nat)]))) := HZ6.out.told (by omega) ((World.grownBy_alloc _ _ _).trans gr7) (is_snoc o7) (at7.imp id (fun z => by omega))
          clear HZ6 HI6 o7 gr7 at7 lt7
          have CS : Hid (Calls _ _ _ _ _) := stand_any HZ7.out.bp HZ7.out.br
          go_wp2_with fail
          refine CS.out.mono ?_
          rintro e wt ⟨rfl, hbt⟩
          have HZT : Hid (Pz w wt _ _ vp vr P _ _ _ (M ++ [(g : Int)]) none) := (HZ7.out.below hbt).unbox
          clear CS hbt HZ7
          go_wp2
          go_roundw
          case rel => exact ⟨j + 1, _, rfl, by omega, by omega, by go_num, _, _, _, _, HZT.out, by rw [List.length_append]; simp; omega⟩
          case measure => simp [B.iv]; omega
        · have hzI : ¬ ((er : Int) = 0) := by omega
          have hzB : ((er : Int) == 0) = false := by simp; omega
          have CS : Hid (Calls _ _ _ _ _) := stand_any HZ6.out.bp HZ6.out.br
          go_wp2_with fail
          refine CS.out.mono ?_
          rintro e wt ⟨rfl, hbt⟩
          have HZT : Hid (Pz w wt _ _ vp vr P _ _ _ M none) := (HZ6.out.below hbt).unbox
          clear CS hbt HZ6
          go_wp2
          go_roundw
          case rel => exact ⟨j + 1, _, rfl, by omega, by omega, by go_num, _, _, _, _, HZT.out, by omega⟩
          case measure => simp [B.iv]; omega
      · rw [hk]
        clear hk x0 x2
        obtain ⟨va, vc, rfl, hcell⟩ := HZ1.out.is.cell
        by_cases hM0 : M.length = 0
        · have m1 : decide ((0 : Int) < (M.length : Int)) = false := by simp only [decide_eq_false_iff_not]; omega
          have m2 : decide (0 < M.length) = false := by simp only [decide_eq_false_iff_not]; omega
          have m3 : ¬ 0 < M.length := by omega
          clear hcell hM0
          obtain ⟨er, s', hgv⟩ := gvO_some s A HZ1.out.bp.uses
          have HGV : Hid (GvO s A er s') := hgv
          have PG : Hid (Calls _ _ _ _ _) := pGiveO HZ1.out.bp A hA.1 hA.2 HGV.out
          clear hgv
          go_wp2_with fail
          refine PG.out.mono ?_
          rintro e w6 ⟨Fp', rfl, hP6, hK6⟩
          have HZ6 : Hid (Pz w w6 Fp' Fq vp vr P s' s _ M (some (gx, [.int .i64 K, .int .i64 A, .int .u8 (U : Nat)]))) := HZ1.out.left hK6 hP6
          have RG : Hid (Calls _ _ _ _ _) := rGiveO HZ6.out.br A hA.1 hA.2 HGV.out
          clear hP6 hK6 PG HZ1
          go_wp2_with fail
          refine RG.out.mono ?_
          rintro e w7 ⟨rfl, hR7, hK7⟩
          have HZ7 : Hid (Pz w w7 Fp' Fq vp vr P s' s' _ M (some (gx, [.int .i64 K, .int .i64 A, .int .u8 (U : Nat)]))) := HZ6.out.right hK7 hR7
          clear RG hR7 hK7 HZ6
          have CS : Hid (Calls _ _ _ _ _) := stand_any HZ7.out.bp HZ7.out.br
          go_wp2_with fail
          refine CS.out.mono ?_
          rintro e wt ⟨rfl, hbt⟩
          have HZT : Hid (Pz w wt _ _ vp vr P _ _ _ M none) := (HZ7.out.below hbt).unbox
          clear CS hbt HZ7
          go_wp2
          go_roundw
          case rel => exact ⟨j + 1, _, rfl, by omega, by omega, by go_num, _, _, _, _, HZT.out, by omega⟩
          case measure => simp [B.iv]; omega
        · have hMp : (0 : Int) < (M.length : Int) := by omega
          have r0 := Int.emod_nonneg A (show (M.length : Int) ≠ 0 by omega)
          have r1 := Int.emod_lt_of_pos A hMp
          obtain ⟨i, hi⟩ : ∃ i : Nat, A % (M.length : Int) = i := ⟨(A % (M.length : Int)).toNat, by omega⟩
          have CWi : Hid (Calls Tryz.prog 10 #[.int .i64 A, .int .i64 (M.length : Nat)] wb fun e w' => e = .returned (.int .i64 (i : Nat)) ∧ w' = wb) := by
            have := within_o A (M.length : Nat) hMp (by omega) hA.1 (by omega) wb
            rw [hi] at this
            exact this
          obtain ⟨gv, rfl, hcv⟩ := hcell wb (Below.refl _ _) i (by omega)
          have hy := HZ1.out.rg (M.getD i 0) (by rw [List.getD_eq_getElem?_getD, List.getElem?_eq_getElem (show i < M.length by omega)]; exact List.getElem_mem _)
          generalize M.getD i 0 = y at *
          have hiI : (i : Int) < (M.length : Int) := by omega
          have hM1 : ¬ (M.length : Int) = 0 := by omega
          clear hcell hi r0 r1
          go_wp2_with fail
          refine CWi.out.mono ?_
          rintro e w5 ⟨rfl, h⟩
          obtain rfl := h.symm
          clear CWi h
          obtain ⟨er, s', hgv⟩ := gvO_some s y HZ1.out.bp.uses
          have HGV : Hid (GvO s y er s') := hgv
          have PG : Hid (Calls _ _ _ _ _) := pGiveO HZ1.out.bp y (by omega) (by omega) HGV.out
          clear hgv
          go_wp2_with fail
          refine PG.out.mono ?_
          rintro e w6 ⟨Fp', rfl, hP6, hK6⟩
          have HZ6 : Hid (Pz w w6 Fp' Fq vp vr P s' s _ M (some (gx, [.int .i64 K, .int .i64 A, .int .u8 (U : Nat)]))) := HZ1.out.left hK6 hP6
          have RG : Hid (Calls _ _ _ _ _) := rGiveO HZ6.out.br y (by omega) (by omega) HGV.out
          clear hP6 hK6 PG HZ1
          go_wp2_with fail
          refine RG.out.mono ?_
          rintro e w7 ⟨rfl, hR7, hK7⟩
          have HZ7 : Hid (Pz w w7 Fp' Fq vp vr P s' s' _ M (some (gx, [.int .i64 K, .int .i64 A, .int .u8 (U : Nat)]))) := HZ6.out.right hK7 hR7
          clear RG hR7 hK7 HZ6
          have CS : Hid (Calls _ _ _ _ _) := stand_any HZ7.out.bp HZ7.out.br
          go_wp2_with fail
          refine CS.out.mono ?_
          rintro e wt ⟨rfl, hbt⟩
          have HZT : Hid (Pz w wt _ _ vp vr P _ _ _ M none) := (HZ7.out.below hbt).unbox
          clear CS hbt HZ7
          go_wp2
          go_roundw
          case rel => exact ⟨j + 1, _, rfl, by omega, by omega, by go_num, _, _, _, _, HZT.out, by omega⟩
          case measure => simp [B.iv]; omega
      · rw [hk]
        clear hk x0 x2
        obtain ⟨er, s', hgv⟩ := gvO_some s A HZ1.out.bp.uses
        have PG : Hid (∀ W Fp Fq sr', Pz w W Fp Fq vp vr P s sr' v M (some (gx, [.int .i64 K, .int .i64 A, .int .u8 (U : Nat)])) → Calls Tryz.prog 13 #[.pointer vp, .int .i64 A] W fun e w' => e = .returned (.int .i64 er) ∧ ∃ Fp', Pz w w' Fp' Fq vp vr P s' sr' v M (some (gx, [.int .i64 K, .int .i64 A, .int .u8 (U : Nat)]))) := fun W Fp Fq sr' h =>
          (pGiveO h.bp A hA.1 hA.2 hgv).mono (fun e w' ⟨F', r1, r2, r3⟩ => ⟨r1, F', h.left r3 r2⟩)
        have RG : Hid (∀ W Fp Fq sp', Pz w W Fp Fq vp vr P sp' s v M (some (gx, [.int .i64 K, .int .i64 A, .int .u8 (U : Nat)])) → Calls Tryz.prog 14 #[.pointer vr, .int .i64 A] W fun e w' => e = .returned (.int .i64 er) ∧ Pz w w' Fp Fq vp vr P sp' s' v M (some (gx, [.int .i64 K, .int .i64 A, .int .u8 (U : Nat)]))) := fun W Fp Fq sp' h =>
          (rGiveO h.br A hA.1 hA.2 hgv).mono (fun e w' ⟨r1, r2, r3⟩ => ⟨r1, h.right r3 r2⟩)
        have HZd : Hid (Pz w wb.drew Fp Fq vp vr P s s v M (some (gx, [.int .i64 K, .int .i64 A, .int .u8 (U : Nat)]))) := HZ1.out.below (Below.refl _ _).drew
        clear hgv HZ1
        go_wp2_with fail
        go_region_held3 (fun W => W.cell? ⟨gx, 1, none⟩ = some (.int .i64 A))
          (first | exact HZl.out.cells.2.1 | exact HZr.out.cells.2.1 | exact HZd.out.cells.2.1)
          (first
            | (go_at_call 13; refine (PG.out _ _ _ _ (by first | exact HZr.out | exact HZd.out)).mono ?_; rintro e wl ⟨rfl, Fpl, hZl⟩; have HZl : Hid (Pz _ _ _ _ _ _ _ _ _ _ _ _) := hZl; clear hZl)
            | (go_at_call 14; refine (RG.out _ _ _ _ (by first | exact HZl.out | exact HZd.out)).mono ?_; rintro e wq ⟨rfl, hZr⟩; have HZr : Hid (Pz _ _ _ _ _ _ _ _ _ _ _ _) := hZr; clear hZr))
        clear HZl HZd PG RG
        have CS : Hid (Calls _ _ _ _ _) := stand_any HZr.out.bp HZr.out.br
        go_wp2_with fail
        refine CS.out.mono ?_
        rintro e wt ⟨rfl, hbt⟩
        have HZT : Hid (Pz w wt _ _ vp vr P _ _ _ M none) := (HZr.out.below hbt).unbox
        clear CS hbt HZr
        go_wp2
        go_roundw
        case rel => exact ⟨j + 1, _, rfl, by omega, by omega, by go_num, _, _, _, _, HZT.out, by omega⟩
        case measure => simp [B.iv]; omega
      · rw [hk]
        clear hk x0 x1 x2
        obtain ⟨er, li, s', him⟩ := imO_some P s
        have HIM : Hid (ImO P s er li s') := him
        have hli := him.len HZ1.out.bp
        have PI : Hid (Calls _ _ _ _ _) := pImageO HZ1.out.bp him
        clear him
        go_wp2_with fail
        refine PI.out.mono ?_
        rintro e w5 ⟨v5, Fp', rfl, hI5, hn5, hP5, hK5⟩
        have HZ5 : Hid (Pz w w5 Fp' Fq vp vr P s' s v M (some (gx, [.int .i64 K, .int .i64 A, .int .u8 (U : Nat)]))) := HZ1.out.left hK5 hP5
        have I5 : Hid (Is w5 wb.heap.size v5 li) := hI5
        have HN5 : Hid (∀ k, v5.ownBlock = some k → w.heap.size ≤ k ∧ ¬ Fp' k ∧ ¬ Fq k ∧ v.ownBlock ≠ some k ∧ ∀ b L, ((some (gx, [.int .i64 K, .int .i64 A, .int .u8 (U : Nat)])) : Option (Nat × List Value)) = some (b, L) → b ≠ k) := fun k hk => by
          have h1 := (hI5.lt k hk).1
          have h2 := HZ1.out.be.size
          refine ⟨by omega, hn5 k hk, (fun z => by have := HZ1.out.br.lt k z; omega), (fun z => by have := (HZ1.out.is.lt k z).2; omega), fun b L e z => ?_⟩
          have := (HZ1.out.kb b L e).1.lt
          omega
        have RI : Hid (Calls _ _ _ _ _) := rImageO HZ5.out.br HIM.out
        clear hI5 hn5 hP5 hK5 PI HZ1
        go_wp2_with fail
        refine RI.out.mono ?_
        rintro e w6 ⟨v6, rfl, hI6, hR6, hK6⟩
        have HZ6 : Hid (Pz w w6 Fp' Fq vp vr P s' s' v M (some (gx, [.int .i64 K, .int .i64 A, .int .u8 (U : Nat)]))) := HZ5.out.right hK6 hR6
        have hI56 : Is w6 wb.heap.size v5 li := I5.out.of_eq (fun g hg => hK6.block g (I5.out.lt g hg).2 (HN5.out g hg).2.2.1)
        have I56 : Hid (Is w6 wb.heap.size v5 li) := hI56
        have CE : Hid (Calls _ _ _ _ _) := eq_is (by omega) hI56 hI6
        clear hI6 hR6 hK6 hI56 I5 RI HZ5 HIM
        go_wp2_with fail
        refine CE.out.mono ?_
        rintro e w7 ⟨rfl, hb7⟩
        have HZ7 : Hid (Pz w w7 Fp' Fq vp vr P s' s' v M (some (gx, [.int .i64 K, .int .i64 A, .int .u8 (U : Nat)]))) := HZ6.out.below hb7
        have I7 : Hid (Is w7 wb.heap.size v5 li) := I56.out.below hb7
        clear hb7 CE I56 HZ6
        obtain ⟨a5, c5, rfl, _⟩ := I7.out.arg
        have W7 : Hid (Wi w7 a5 li.length) := I7.out.wi rfl
        clear I7
        generalize li.length = nl at *
        go_wp2
        go_loopw [23] (fun z wy => ∃ k : Nat, k ≤ nl ∧ z = .int .i64 k ∧ Wi wy a5 nl ∧ Pz w wy Fp' Fq vp vr P s' s' v M (some (gx, [.int .i64 K, .int .i64 A, .int .u8 (U : Nat)]))) (fun z _ => nl - (B.iv z).toNat)
        case atStart => exact ⟨0, by omega, rfl, W7.out, HZ7.out⟩
        case round =>
          clear W7 HZ7
          obtain ⟨k, hk, rfl, hw, hz⟩ := hrel
          have HW : Hid (Wi wr a5 nl) := hw
          have HZ8 : Hid (Pz w wr Fp' Fq vp vr P s' s' v M (some (gx, [.int .i64 K, .int .i64 A, .int .u8 (U : Nat)]))) := hz
          clear hw hz
          by_cases hkl : k < nl
          · obtain ⟨g, rfl, hgl, ⟨x, hc⟩, hf⟩ := HW.out k hkl
            have HW2 : Hid (Wi (wr.setCell ⟨g, k, none⟩ (.int .i64 (-3))) (some ⟨g, 0, none⟩) nl) := HW.out.set k (-3)
            have HZ9 : Hid (Pz w (wr.setCell ⟨g, k, none⟩ (.int .i64 (-3))) Fp' Fq vp vr P s' s' v M (some (gx, [.int .i64 K, .int .i64 A, .int .u8 (U : Nat)]))) := HZ8.out.other (B.grown_setCell' _ _ _ _) (fun y hy => by
              injection hy with hy
              subst hy
              exact HN5.out _ rfl)
            have hkI : (k : Int) < (nl : Int) := by omega
            clear HW HZ8
            go_wp2
            go_roundw
            case rel => exact ⟨k + 1, by omega, by go_num, HW2.out, HZ9.out⟩
            case measure => simp [B.iv]; omega
          · obtain rfl : k = nl := by omega
            clear HW HN5
            have CS : Hid (Calls _ _ _ _ _) := stand_any HZ8.out.bp HZ8.out.br
            go_wp2_with fail
            refine CS.out.mono ?_
            rintro e wt ⟨rfl, hbt⟩
            have HZT : Hid (Pz w wt _ _ vp vr P _ _ _ M none) := (HZ8.out.below hbt).unbox
            clear CS hbt HZ8
            go_wp2
            go_roundw
            case rel => exact ⟨j + 1, _, rfl, by omega, by omega, by go_num, _, _, _, _, HZT.out, by omega⟩
            case measure => simp [B.iv]; omega
    · have HB : Hid (Below w.heap.size w wr) := HZ.out.be
      clear HZ
      by_cases hj2 : j < len
      · obtain rfl : j = 80 := by omega
        have d1 : decide ((80 : Int) < (len : Int)) = true := by simp only [decide_eq_true_eq]; omega
        go_wp2_with fail
        refine (C0.out _).mono ?_
        rintro e wt ⟨rfl, hbt⟩
        have HT : Hid (Below w.heap.size w wt) := HB.out.trans (hbt.mono HB.out.size)
        clear hbt HB
        go_wp2
        go_ret
        exact ⟨rfl, HT.out⟩
      · obtain rfl : j = len := by omega
        go_wp2_with fail
        refine (C0.out _).mono ?_
        rintro e wt ⟨rfl, hbt⟩
        have HT : Hid (Below w.heap.size w wt) := HB.out.trans (hbt.mono HB.out.size)
        clear hbt HB
        go_wp2
        go_ret
        exact ⟨rfl, HT.out⟩
end Go.Proofs.YtifchflbhdnfaaaGreat.P
