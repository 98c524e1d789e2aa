/- MmuCosts walked: each access of the statements' own tables costs something and at most six misses; no condition. -/
import Derived.Test.YtgljdbabagdhlaaGreatVmh
import Derived.Test.YtgljdbabagdhlaaGreatVtj
import Derived.Test.YtgljdbabagdhlaaGreatVOa
import Derived.Deep.QuietTactic
import Derived.BigQuiet
namespace Go.Proofs.YtgljdbabagdhlaaGreat.Pg
open P E Go.ChangeShapes Go.WideShapes Go.ChangeAt Go.RowKit
set_option linter.unusedVariables false
set_option maxRecDepth 8192
structure Cq (w wr : World) (t c p : Nat) (S : E.Sc × Us) (m : Nat → Option Nat) : Prop where
  q : Zq (fun k => k < w.heap.size) wr t c p (hwOf us) (par us 0) S m
  be : Below w.heap.size w wr
  hN : (par us 0).N * (par us 0).C ≤ (hwOf us).n
  rt : m 0 ≠ none
section
variable {w wr w' : World} {t c p n : Nat} {S S' : E.Sc × Us} {m : Nat → Option Nat}
theorem ky_be (b : Below w.heap.size w wr) (k : Ky (fun k => k < w.heap.size) wr w') : Below w.heap.size w w' := ⟨k.os.trans b.os, k.tape.trans b.tape, k.output.trans b.output, Nat.le_trans b.size k.size, fun i hi => (k.block i hi).trans (b.block i hi)⟩
theorem Cq.turn (C : Cq w wr t c p S m) (K : Zq (fun k => k < w.heap.size) w' t c p (hwOf us) (par us 0) S' m) (k : Ky (fun k => k < w.heap.size) wr w') : Cq w w' t c p S' m := ⟨K, ky_be C.be k, C.hN, C.rt⟩
theorem Cq.below (C : Cq w wr t c p S m) (b : Below wr.heap.size wr w') : Cq w w' t c p S m := ⟨C.q.below b, C.be.trans (b.mono C.be.size), C.hN, C.rt⟩
theorem Ov.cq (O : Ov w wr t c p n S m) : Cq w wr t c p S m := ⟨O.ts.zq', O.ts.zt.be, O.ts.hN, O.rt⟩
end
set_option maxHeartbeats 4000000 in
theorem costs_any {w : World} {ao : Option Addr} {l cl : Nat} (hl : l ≤ maxLen) (ha : Al w ao l) :
    Calls Tryz.prog 4 #[.slice ao l cl] w fun e w' => e = .returned (.bool true) ∧ Below w.heap.size w w' := by
  have HA : Hid (Al w ao l) := ha
  unfold maxLen at hl
  clear ha
  go_enter Tryz.func4, Tryz.ntmps4
  go_wp2_with fail
  refine (over16_any w).mono ?_
  rintro e W ⟨c, t, p, n, S, m, rfl, O⟩
  have HC0 : Hid (Cq w W t c p S m ∧ ∃ v, Iv (fun r => m r ≠ none) S v) := ⟨O.cq, _, O.iv.1⟩
  clear O
  go_wp2_with fail
  refine (awake16_any _).mono ?_
  rintro e W1 ⟨rfl, b1⟩
  have HC1 : Hid (Cq w W1 t c p S m ∧ ∃ v, Iv (fun r => m r ≠ none) S v) := ⟨HC0.out.1.below b1, HC0.out.2⟩
  clear b1 HC0
  go_wp2_with fail
  go_loopw [7] (fun i wr => ∃ (k : Nat) (S : E.Sc × Us), k ≤ 4 ∧ i = .int .i64 k ∧ Cq w wr t c p S m ∧ ∃ v, Iv (fun r => m r ≠ none) S v) (fun i _ => 4 - (D.iv i).toNat)
  case atStart => exact ⟨0, S, by omega, rfl, HC1.out.1, HC1.out.2⟩
  case round =>
    clear HC1
    obtain ⟨k, S1, hk, rfl, hC, v, hI⟩ := hrel
    have HC : Hid (Cq w wr t c p S1 m) := hC
    have HI : Hid (Iv (fun r => m r ≠ none) S1 v) := hI
    clear hC hI
    by_cases hlt : k < 4
    case' pos =>
      obtain ⟨f, hf⟩ : ∃ f : Nat, f = 40 + k := ⟨_, rfl⟩
      have CS : Hid (∀ b : Bool, Calls Tryz.prog 9 #[.pointer (some ⟨t, 0, none⟩), .int .i64 0, .int .i64 (k : Nat), .agg #[.bool true, .bool false, .bool true, .bool b, .bool false, .bool false, .int .i64 (f : Nat)]] wr fun e w' => e = .returned (.int .i64 0) ∧ ∃ S', Cq w w' t c p S' m ∧ ∃ v, Iv (fun r => m r ≠ none) S' v) := fun b => (set_iv HC.out.q HC.out.hN HI.out (pg := k) (by omega) true false true b false false (f : Nat) (by
          subst hf
          have : k = 0 ∨ k = 1 ∨ k = 2 ∨ k = 3 := by omega
          rcases this with rfl | rfl | rfl | rfl <;> cases b <;> decide) ⟨f, rfl, by omega, by omega⟩).mono fun e w' ⟨he, k1, k2, k3⟩ => ⟨he, _, HC.out.turn k1 k2, _, k3⟩
      have hw2 : 40 + (k : Int) = (f : Int) := by omega
      have hw1 : IntKind.i64.wrap (f : Int) = (f : Int) := by simp only [IntKind.wrap, IntKind.signed, IntKind.bits]; simp; omega
      clear hf
      clear HC HI
      go_wp2_with fail
      refine (CS.out _).mono ?_
      rintro e w2 ⟨rfl, S2, hC, hI⟩
      have HC2 : Hid (Cq w w2 t c p S2 m ∧ ∃ v, Iv (fun r => m r ≠ none) S2 v) := ⟨hC, hI⟩
      clear hC hI CS hw1 hw2
      go_wp2
      go_roundw
      case rel => exact ⟨k + 1, S2, by omega, by go_num, HC2.out.1, HC2.out.2⟩
      case measure => simp [D.iv]; omega
    case' neg =>
      obtain rfl : k = 4 := by omega
      have CS : Hid (Calls _ _ _ _ _) := settle_q HC.out.q
      clear hlt hk
      go_wp2_with fail
      refine CS.out.mono ?_
      rintro e w2 ⟨rfl, k1, k2⟩
      have HC2 : Hid (Cq w w2 t c p ({ S1.1 with z := 0 }, S1.2) m ∧ Iv (fun r => m r ≠ none) ({ S1.1 with z := 0 }, S1.2) v) := ⟨HC.out.turn k1 k2, HI.out.settled⟩
      clear k1 k2 CS HC HI
      go_wp2_with fail
      go_loopw [8] (fun i wr => ∃ (k : Nat) (S : E.Sc × Us), k ≤ l ∧ k ≤ 150 ∧ i = .int .i64 k ∧ Cq w wr t c p S m ∧ (∃ v, Iv (fun r => m r ≠ none) S v) ∧ S.1.z = 0) (fun i _ => l - (D.iv i).toNat)
      case atStart => exact ⟨0, _, by omega, by omega, rfl, HC2.out.1, ⟨_, HC2.out.2⟩, rfl⟩
      case round =>
        clear HC2
        obtain ⟨k, S2, hk, hk150, rfl, hC, ⟨v2, hI⟩, hz⟩ := hrel
        have HC : Hid (Cq w wr t c p S2 m) := hC
        have HI : Hid (Iv (fun r => m r ≠ none) S2 v2) := hI
        have HZ : Hid (Zr 0 0 S2.1) := ⟨by rw [hz]; decide, by rw [hz]; decide⟩
        clear hC hI hz
        by_cases hlt : k < l ∧ k < 150
        case' pos =>
          obtain ⟨hlt, hk1⟩ := hlt
          obtain ⟨b, off, x, rfl, hb, hcell, hx⟩ := (HA.out.below HC.out.be) k hlt
          obtain ⟨xp, xo, xz, xt, xs, xv⟩ := x
          have c0 : wr.cell? ⟨b, off + k * 6, none⟩ = some (.int .i64 xp) := hcell 0 _ rfl
          have c1 : wr.cell? ⟨b, off + k * 6 + 1, none⟩ = some (.int .i64 xo) := hcell 1 _ rfl
          have HCE : Hid (∀ W, Below w.heap.size w W → (W.cell? ⟨b, off + k * 6 + 3, none⟩ = some (.bool xt) ∧ W.cell? ⟨b, off + k * 6 + 4, none⟩ = some (.bool xs) ∧ W.cell? ⟨b, off + k * 6 + 5, none⟩ = some (.int .u64 xv))) := fun W hW => by
            obtain ⟨b', off', x', e', hb', hc', hx'⟩ := HA.out k hlt
            cases e'
            have q := HC.out.be.block b hb'
            have h3 := hcell 3 _ rfl
            have h4 := hcell 4 _ rfl
            have h5 := hcell 5 _ rfl
            have e := (hW.block b hb').trans q.symm
            exact ⟨(World.cell?_of_block (w := wr) (a := ⟨b, off + k * 6 + 3, none⟩) e).trans h3, (World.cell?_of_block (w := wr) (a := ⟨b, off + k * 6 + 4, none⟩) e).trans h4, (World.cell?_of_block (w := wr) (a := ⟨b, off + k * 6 + 5, none⟩) e).trans h5⟩
          have hxp := hx.p0; have hxp' := hx.p1; have hxo := hx.o0; have hxo' := hx.o1; have hv0 := hx.v0; have hv1 := hx.v1
          simp only at hxp hxp' hxo hxo' hv0 hv1
          obtain ⟨pg, hpg⟩ : ∃ pg : Nat, xp % 8 = pg := ⟨(xp % 8).toNat, by omega⟩
          obtain ⟨o, ho⟩ : ∃ o : Nat, xo % 249 = o := ⟨(xo % 249).toNat, by omega⟩
          have hp8 : pg < 8 := by omega
          have ho8 : o < 249 := by omega
          obtain ⟨va, hva⟩ : ∃ va : Nat, va = pg * 256 + o := ⟨_, rfl⟩
          have HW : Hid (∀ W (k n r : Int), (k = xp ∧ n = 8 ∧ r = (pg : Nat)) ∨ (k = xo ∧ n = 249 ∧ r = (o : Nat)) → Calls Tryz.prog 8 #[.int .i64 k, .int .i64 n] W fun e w' => e = .returned (.int .i64 r) ∧ w' = W) := fun W k n r h => by
            rcases h with ⟨rfl, rfl, rfl⟩ | ⟨rfl, rfl, rfl⟩
            · have := Within_any k 8 (by decide) (by decide) hxp hxp' W
              rw [hpg] at this
              exact this
            · have := Within_any k 249 (by decide) (by decide) hxo hxo' W
              rw [ho] at this
              exact this
          have HL : Hid (∀ W, Cq w W t c p S2 m → Calls Tryz.prog 11 #[.pointer (some ⟨c, 0, none⟩), .pointer (some ⟨t, 0, none⟩), .int .i64 1, .int .i64 0, .int .u64 (va : Nat), .int .i64 8] W fun e w' => ∃ g S', e = .returned (.tuple #[.agg g, .int .i64 0]) ∧ g.size = 5 ∧ Cq w w' t c p S' m ∧ (∃ v, Iv (fun r => m r ≠ none) S' v) ∧ Zr 1 60 S'.1) := fun W C => by
            subst hva
            exact (acc_load C.q C.hN HI.out (a := 1) (by decide) (pg := pg) (o := o) (z := 8) (by omega) (by decide) (by decide) (by omega)).mono fun e w' ⟨g, S', v', he, h5, k1, k2, k3, k4⟩ => ⟨g, S', he, h5, C.turn k1 k2, ⟨v', k3⟩, k4 HZ.out⟩
          have HS : Hid (∀ W, Cq w W t c p S2 m → Calls Tryz.prog 10 #[.pointer (some ⟨c, 0, none⟩), .pointer (some ⟨t, 0, none⟩), .int .i64 1, .int .i64 0, .int .u64 (va : Nat), .int .i64 8, .int .u64 xv] W fun e w' => ∃ g S', e = .returned (.tuple #[.agg g, .int .i64 0]) ∧ g.size = 5 ∧ Cq w w' t c p S' m ∧ (∃ v, Iv (fun r => m r ≠ none) S' v) ∧ Zr 1 60 S'.1) := fun W C => by
            subst hva
            exact (acc_store C.q C.hN HI.out (a := 1) (by decide) (pg := pg) (o := o) (z := 8) (by omega) (by decide) (by decide) (by omega) xv hv0 hv1).mono fun e w' ⟨g, S', v', he, h5, k1, k2, k3, k4⟩ => ⟨g, S', he, h5, C.turn k1 k2, ⟨v', k3⟩, k4 HZ.out⟩
          have hd1 : decide ((k : Int) < 150) = true := by simp; omega
          have hd2 : decide ((k : Int) < (l : Int)) = true := by simp; omega
          have hi1 : (0 : Int) ≤ (k : Int) := by omega
          have hi2 : (k : Int) < (l : Int) := by omega
          obtain ⟨pm, hpm⟩ : ∃ pm : Nat, pm = pg * 256 := ⟨_, rfl⟩
          have hq0 : (pg : Int) * 256 = (pm : Int) := by omega
          have hq1 : IntKind.i64.wrap (pm : Int) = (pm : Int) := by simp only [IntKind.wrap, IntKind.signed, IntKind.bits]; simp; omega
          have hq2 : (pm : Int) + (o : Int) = (va : Int) := by omega
          have hq3 : IntKind.i64.wrap (va : Int) = (va : Int) := by simp only [IntKind.wrap, IntKind.signed, IntKind.bits]; simp; omega
          have hq4 : IntKind.u64.wrap (va : Int) = (va : Int) := by simp only [IntKind.wrap, IntKind.signed, IntKind.bits]; simp; omega
          clear hva hpm
          clear hpg ho hcell hx hxp hxp' hxo hxo' HI HZ
          go_wp2_with fail
          go_big_quiet (first | (go_at_call 8; refine Calls.quiet_of_same (HW.out _ _ _ _ (by first | exact Or.inl ⟨rfl, rfl, rfl⟩ | exact Or.inr ⟨rfl, rfl, rfl⟩))))
          have HB2 : Hid (Below wr.heap.size wr (wr.drewN nq)) := B.below_of (B.grown_drewN wr _ none) _ (Nat.le_refl _) (by simp)
          generalize wr.drewN nq = w2 at *
          have HC3 : Hid (Cq w w2 t c p S2 m) := HC.out.below HB2.out
          obtain ⟨_, c4, c5⟩ := HCE.out w2 HC3.out.be
          clear c0 c1 HB2 HC HW hq0 hq1 hq2 hq3 hq4
          cases xs
          case' true =>
            have CS : Hid (Calls _ _ _ _ _) := HS.out w2 HC3.out
            clear HS HL
            go_wp2_with fail
            refine CS.out.mono ?_
          case' false =>
            have CS : Hid (Calls _ _ _ _ _) := HL.out w2 HC3.out
            clear HS HL
            go_wp2_with fail
            refine CS.out.mono ?_
          all_goals
            rintro e w3 ⟨g, S3, rfl, hg5, hC3, hI3, hz3⟩
            have HC4 : Hid (Cq w w3 t c p S3 m ∧ ∃ v, Iv (fun r => m r ≠ none) S3 v) := ⟨hC3, hI3⟩
            have CT := settle_q hC3.q
            obtain ⟨z, hz⟩ : ∃ z, S3.1.z = z := ⟨_, rfl⟩
            unfold Zr at hz3
            rw [hz] at CT hz3
            have CT : Hid (Calls _ _ _ _ _) := CT
            have g1 : decide ((60 : Int) < z) = false := decide_eq_false (by omega)
            have g2 : (z == 0) = false := by rw [beq_eq_false_iff_ne]; omega
            clear hC3 hI3 hz3 hz CS HC3 c4 c5
            go_wp2_with fail
            refine CT.out.mono ?_
            rintro e w4 ⟨rfl, k1, k2⟩
            have HC5 : Hid (Cq w w4 t c p ({ S3.1 with z := 0 }, S3.2) m ∧ ∃ v, Iv (fun r => m r ≠ none) ({ S3.1 with z := 0 }, S3.2) v) := ⟨HC4.out.1.turn k1 k2, HC4.out.2.elim fun v I => ⟨v, I.settled⟩⟩
            have c3 := (HCE.out w4 HC5.out.1.be).1
            clear k1 k2 HC4 CT
            cases xt
            case' true =>
              have CV : Hid (Calls _ _ _ _ _) := leave_q HC5.out.1.q
              go_wp2_with fail
              refine CV.out.mono ?_
              rintro e w5 ⟨rfl, k1, k2⟩
              have HC6 : Hid (∃ S', Cq w w5 t c p S' m ∧ (∃ v, Iv (fun r => m r ≠ none) S' v) ∧ S'.1.z = 0) := ⟨_, HC5.out.1.turn k1 k2, HC5.out.2.elim fun v I => ⟨v, I.left⟩, rfl⟩
              clear k1 k2 CV HC5 c3 g1 g2
            case' false =>
              have HC6 : Hid (∃ S', Cq w w4 t c p S' m ∧ (∃ v, Iv (fun r => m r ≠ none) S' v) ∧ S'.1.z = 0) := ⟨_, HC5.out.1, HC5.out.2, rfl⟩
            all_goals
              go_wp2
              go_roundw
              case rel => exact HC6.out.elim fun S' h => ⟨k + 1, S', by omega, by omega, by go_num, h.1, h.2.1, h.2.2⟩
              case measure => simp [D.iv]; omega
        case' neg =>
          have HF : Hid (Below w.heap.size w wr) := HC.out.be
          clear HC HI HZ
          by_cases h1 : k < l
          case' pos =>
            obtain rfl : k = 150 := by omega
            have d2 : decide (((150 : Nat) : Int) < (l : Int)) = true := by simp; omega
          case' neg =>
            obtain rfl : k = l := by omega
            have d1 : decide ((k : Int) < (k : Int)) = false := by simp
          all_goals
            clear hlt
            go_wp2
            exact bodyPost_ret (v := .bool true) (by simp [results, Tryz.results4, go_sem]) rfl ⟨rfl, HF.out⟩
end Go.Proofs.YtgljdbabagdhlaaGreat.Pg
namespace Go.Proofs.YtgljdbabagdhlaaGreat
open Go.ChangeShapes Go.WideShapes Go.ChangeAt Go.RowKit Go.Deep
set_option maxRecDepth 100000 in
set_option maxHeartbeats 40000000 in
theorem joinedMmuCosts : joinedFacts Tryz.prog 4 Tryz.f4 Rows.mmuCostsSpec Rows.mmuCostsRow = true := by
  unfold joinedFacts
  simp only [Bool.and_eq_true]
  repeat' apply And.intro
  all_goals (as_aux_lemma => kernel_rfl)
end Go.Proofs.YtgljdbabagdhlaaGreat
