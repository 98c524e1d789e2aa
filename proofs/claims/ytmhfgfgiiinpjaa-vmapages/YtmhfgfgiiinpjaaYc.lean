/- The statements' form: a list in the one form within sixty pages; no condition but those named. -/
import Derived.Test.YtmhfgfgiiinpjaaYa
namespace Go.Proofs.Ytmhfgfgiiinpjaa.V
open Go.ChangeShapes Go.WideShapes Go.ChangeAt Go.RowKit
set_option linter.unusedVariables false
set_option maxRecDepth 16384

set_option maxHeartbeats 8000000 in
theorem form_ok {w : World} {ao : Option Addr} {cap : Nat} {l : List Rg} (h : Ri w ao cap l) (hM : May l) (h60 : ∀ r ∈ l, r.e ≤ 60) :
    Calls Try.prog 31 #[.slice ao l.length cap] w fun e w' => e = .returned (.bool true) ∧ Below w.heap.size w w' := by
  have CC : Hid (∀ W, Below w.heap.size w W → Calls Try.prog 10 #[.slice ao l.length cap] W fun e w' => e = .returned (.int .i64 0) ∧ Below W.heap.size W w') := fun W hW => by
    have := (h.below hW).check
    rw [chk_may.2 hM] at this
    exact this
  have HR : Hid (Rn w ao l) := h.rn
  have HO : Hid (∀ r ∈ l, r.Ok ∧ r.e ≤ 60) := fun r hr => ⟨hM.2.rs.ok r hr, h60 r hr⟩
  have HP : Hid (∀ j (hj : j + 1 < l.length), Ap l[j] l[j + 1]) := fun j hj => List.pairwise_iff_getElem.1 (fm_iff.1 hM.2).2 j (j + 1) (by omega) hj (Nat.lt_succ_self j)
  have hl : l.length ≤ 1024 := hM.1
  clear h hM h60
  go_enter Try.func31, Try.ntmps31
  go_wp2_with fail
  go_loopw [3] (fun i wr => ∃ k : Nat, k ≤ l.length ∧ i = .int .i64 k ∧ Below w.heap.size w wr) (fun i _ => l.length - (iv i).toNat)
  case atStart => exact ⟨0, by omega, rfl, Below.refl _ _⟩
  case round =>
    obtain ⟨k, hk, rfl, hb⟩ := hrel
    have HB : Hid (Below w.heap.size w wr) := hb
    have ix1 : (0 : Int) ≤ (k : Int) := Int.natCast_nonneg k
    by_cases hlt : k < l.length
    case' neg =>
      obtain rfl : k = l.length := by omega
      clear hb
      go_wp2_with fail
      refine (CC.out _ HB.out).mono ?_
      rintro e w1 ⟨rfl, b1⟩
      have HB1 : Hid (Below w.heap.size w w1) := bs HB.out b1
      clear b1
      go_wp2
      go_ret
      exact ⟨rfl, HB1.out⟩
    case' pos =>
      obtain ⟨b, off, rfl, hbl, hc⟩ := HR.out.idx hlt
      obtain ⟨ho, h6⟩ := HO.out l[k] (List.getElem_mem hlt)
      have hpg := ho.pg
      have ix2 : (k : Int) < (l.length : Int) := Int.ofNat_lt.2 hlt
      have HPk : Hid (∀ j (hj : j + 1 < l.length), j + 1 = k → Ap l[j] l[k]) := fun j hj e => by subst e; exact HP.out j hj
      have hee : l[k].e = l[k].p + l[k].n := rfl
      rw [hee] at h6
      unfold pgs at hpg
      obtain ⟨r, hr⟩ : ∃ r, l[k] = r := ⟨_, rfl⟩
      rw [hr] at hc h6 hpg HPk
      clear hr hee ho hb
      obtain ⟨p, n, m⟩ := r
      simp only at hc h6 hpg
      obtain ⟨o1, o2, o3, o4⟩ := hpg
      have g0 : ∀ N : Idx (Below w.heap.size w), N.W.cell? ⟨b, off + k * 3, none⟩ = some (.int .i64 p) := fun N => (hc N.W N.h).1
      have g1 : ∀ N : Idx (Below w.heap.size w), N.W.cell? ⟨b, off + k * 3 + 1, none⟩ = some (.int .i64 n) := fun N => (hc N.W N.h).2.1
      have g2 : ∀ N : Idx (Below w.heap.size w), N.W.cell? ⟨b, off + k * 3 + 2, none⟩ = some (.int .u8 m) := fun N => (hc N.W N.h).2.2
      have hne : Nonempty (Idx (Below w.heap.size w)) := ⟨⟨w, Below.refl _ _⟩⟩
      have d1 : decide (p < 1) = false := decide_eq_false (by omega)
      have d2 : decide (n < 1) = false := decide_eq_false (by omega)
      have d3 : decide (60 < p + n) = false := decide_eq_false (by omega)
      have hwr : IntKind.i64.wrap (p + n) = p + n := by rw [IntKind.wrap_i64]; omega
      clear hc
      rcases k with _ | j
      case' zero =>
        simp only [Nat.zero_mul, Nat.add_zero] at g0 g1 g2
        go_wp2_with fail
        conv => arg 2; arg 2; simp only [List.append]
        refine wp_region_cls (Below w.heap.size w) (by kernel_rfl) (by kernel_rfl) (HB.out.drew) ?_
        repeat (go_big_quiet_step (fail))
        refine wpQuiet_nil ?_
        rintro w5 ⟨⟨_, hS5⟩, rfl⟩
        have HB5 : Hid (Below w.heap.size w _) := hS5
        clear g0 g1 g2 hne
        go_wp2
        go_roundw
        case rel => exact ⟨0 + 1, by omega, by go_num, HB5.out⟩
        case measure => simp [iv]; omega
      case' succ =>
        have hj : j < l.length := by omega
        obtain ⟨b', off', e', _, hq⟩ := HR.out.idx hj
        cases e'
        have hap := HPk.out j hlt rfl
        have hoj := (HO.out l[j] (List.getElem_mem hj)).1.pg
        obtain ⟨a, ha⟩ : ∃ a, l[j] = a := ⟨_, rfl⟩
        rw [ha] at hq hap hoj
        obtain ⟨ap, an, am⟩ := a
        unfold pgs at hoj
        simp only at hoj hq
        obtain ⟨q1, q2, q3, q4⟩ := hoj
        have hap2 : ap + an < p ∨ (ap + an = p ∧ am ≠ m) := hap
        have f0 : ∀ N : Idx (Below w.heap.size w), N.W.cell? ⟨b, off + j * 3, none⟩ = some (.int .i64 ap) := fun N => (hq N.W N.h).1
        have f1 : ∀ N : Idx (Below w.heap.size w), N.W.cell? ⟨b, off + j * 3 + 1, none⟩ = some (.int .i64 an) := fun N => (hq N.W N.h).2.1
        have f2 : ∀ N : Idx (Below w.heap.size w), N.W.cell? ⟨b, off + j * 3 + 2, none⟩ = some (.int .u8 am) := fun N => (hq N.W N.h).2.2
        have hwr2 : IntKind.i64.wrap (ap + an) = ap + an := by rw [IntKind.wrap_i64]; omega
        have ii1 : ((j : Int) + 1 - 1) = (j : Int) := by omega
        have ii2 : (0 : Int) ≤ (j : Int) := Int.natCast_nonneg j
        have ii3 : (j : Int) < (l.length : Int) := Int.ofNat_lt.2 hj
        have ii4 : decide ((0 : Int) < (j : Int) + 1) = true := by rw [decide_eq_true_iff]; omega
        have e1 : decide (p < ap + an) = false := decide_eq_false (by omega)
        clear hq ha hap
        obtain ⟨x, hx⟩ : ∃ x, ap + an = x := ⟨_, rfl⟩
        rw [hx] at hap2 e1
        rcases hap2 with h2 | ⟨h2, h3⟩
        case' inl => have e2 : (x == p) = false := by simp; omega
        case' inr =>
          have e2 : (x == p) = true := by simp; omega
          have e3 : (am == m) = false := by simpa using h3
        all_goals
          go_wp2_with fail
          conv => arg 2; arg 2; simp only [List.append]
          refine wp_region_cls (Below w.heap.size w) (by kernel_rfl) (by kernel_rfl) (HB.out.drew) ?_
          repeat (go_big_quiet_step (fail))
          refine wpQuiet_nil ?_
          rintro w5 ⟨⟨_, hS5⟩, rfl⟩
          have HB5 : Hid (Below w.heap.size w _) := hS5
          clear g0 g1 g2 f0 f1 f2 hne
          go_wp2
          go_roundw
          case rel => exact ⟨j + 1 + 1, by omega, by go_num, HB5.out⟩
          case measure => simp [iv]; omega
end Go.Proofs.Ytmhfgfgiiinpjaa.V
