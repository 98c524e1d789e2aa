/- VmaLeast walked: the pages of a gap can be put, none lies lower; no condition. -/
import Derived.Test.YtmhfgfgiiinpjaaWo
namespace Go.Proofs.Ytmhfgfgiiinpjaa.V
open Go.ChangeShapes Go.WideShapes Go.ChangeAt Go.RowKit
set_option linter.unusedVariables false
set_option maxRecDepth 8192

theorem gas_cases {l : List Rg} {n f t p : Int} {is : Bool} {e : Int} (h : GaS l n f t p is e) : (p = 0 ∧ is = false ∧ (e = 2 ∨ e = 3 ∨ e = 0)) ∨ (is = true ∧ e = 0 ∧ May l ∧ ((1 ≤ n ∧ n ≤ 1048576) ∧ (0 ≤ f ∧ f ≤ 1048576) ∧ f ≤ t ∧ t ≤ 1048576) ∧ Gp l n f t p ∧ ∀ q, q < p → ¬ Gp l n f t q) := by
  unfold GaS at h
  split at h
  · rename_i c
    obtain ⟨h1, h2, h3⟩ := h
    refine Or.inl ⟨h1, h2, ?_⟩
    rw [h3]
    rcases chk_cases l with q | q | q
    · exact absurd q c
    · exact Or.inl q
    · exact Or.inr (Or.inl q)
  · rename_i c
    have hM : May l := chk_may.1 (Classical.not_not.1 c)
    split at h
    · exact Or.inl ⟨h.1, h.2.1, Or.inl h.2.2⟩
    · rename_i d
      rcases h.2 with ⟨h1, h2, h3⟩ | ⟨h1, h2, h3⟩
      · exact Or.inr ⟨h1, h.1, hM, Classical.not_not.1 d, h2, h3⟩
      · exact Or.inl ⟨h2, h1, Or.inr (Or.inr h.1)⟩
set_option maxHeartbeats 2000000 in
theorem least_any {w : World} {ao : Option Addr} {cap : Nat} {l : List Rg} (h : Ri w ao cap l) (n f t : Int) :
    Calls Try.prog 8 #[.slice ao l.length cap, .int .i64 n, .agg #[.int .i64 f, .int .i64 t]] w fun e w' => e = .returned (.bool true) ∧ Below w.heap.size w w' := by
  have CW : Hid (∀ W, Calls Try.prog 21 #[] W fun e w' => e = .returned (.bool true) ∧ Below W.heap.size W w') := works_ok
  have CG : Hid (∀ W, Below w.heap.size w W → Calls Try.prog 28 #[.slice ao l.length cap, .int .i64 n, .int .i64 f, .int .i64 t] W (Ga W l n f t)) := fun W hW => Gap_ok (h.below hW) n f t
  have CP : Hid (∀ W q, Below w.heap.size w W → (0 ≤ q ∧ q ≤ 1048576) → (0 ≤ n ∧ n ≤ 1048576) → Calls Try.prog 12 #[.slice ao l.length cap, .agg #[.int .i64 q, .int .i64 n, .int .u8 0]] W (An W (puV l ⟨q, n, 0⟩))) := fun W q hW hq hn => Put_ok (h.below hW) ⟨q, n, 0⟩ (by unfold wfR; simp only; omega)
  have HB : Hid (∀ o : Obj, Below w.heap.size w (w.alloc o)) := fun o => below1 w o
  clear h
  go_enter Try.func8, Try.ntmps8
  go_wp2_with fail
  refine (CW.out _).mono ?_
  rintro e w1 ⟨rfl, b1⟩
  have HX1 : Hid (∀ W, Below w1.heap.size w1 W → W.cell? ⟨w.heap.size, 0, none⟩ = some (.int .i64 f) ∧ W.cell? ⟨w.heap.size, 1, none⟩ = some (.int .i64 t)) := fun W q => by
    have z (i) := cell_at w #[.int .i64 f, .int .i64 t] 48 (bs b1 q) i
    exact ⟨z 0, z 1⟩
  have HB1 : Hid (Below w.heap.size w w1) := bs (HB.out _) b1
  obtain ⟨z0, z1⟩ := HX1.out w1 (Below.refl _ _)
  clear b1
  go_wp2_with fail
  refine (CG.out _ HB1.out).mono ?_
  rintro e w2 ⟨p, is, e', rfl, hg, b2⟩
  have HB2 : Hid (Below w.heap.size w w2) := bs HB1.out b2
  have hz2 := HX1.out w2 b2
  clear z0 z1
  rcases gas_cases hg with ⟨rfl, rfl, he⟩ | ⟨rfl, rfl, hM, hbd, hgp, hle⟩
  · clear hg b2 hz2
    rcases he with rfl | rfl | rfl
    all_goals
      go_wp2
      go_ret
      exact ⟨rfl, HB2.out⟩
  · obtain ⟨⟨n1, n2⟩, ⟨f1, f2⟩, ft, t2⟩ := hbd
    have hlo := hgp.lo
    have hhi := hgp.hi
    have HP : Hid (0 < p → ∃ a, puV l ⟨p, n, 0⟩ = (a, 0) ∨ puV l ⟨p, n, 0⟩ = (a, 3)) := fun hp => by
      rcases gap_put hM t2 n1 hp hgp with q | q
      · exact ⟨(puV l ⟨p, n, 0⟩).1, Or.inl (Prod.ext rfl q)⟩
      · exact ⟨(puV l ⟨p, n, 0⟩).1, Or.inr (Prod.ext rfl q)⟩
    have HQ : Hid (∀ q, 1 ≤ q → f ≤ q → q < p → puV l ⟨q, n, 0⟩ = ([], 171)) := fun q h1 h2 h3 => gap_busy hM t2 n1 h1 h2 h3 hgp hle
    obtain ⟨z0, z1⟩ := hz2
    have HX2 : Hid (∀ W, Below w2.heap.size w2 W → W.cell? ⟨w.heap.size, 0, none⟩ = some (.int .i64 f) ∧ W.cell? ⟨w.heap.size, 1, none⟩ = some (.int .i64 t)) := fun W q => HX1.out W (bs b2 q)
    clear hg b2 hM hgp hle HX1 CG CW
    by_cases hp : 0 < p
    case' neg =>
      have hd0 : decide (0 < p) = false := decide_eq_false hp
      have HBL : Hid (Below w.heap.size w w2) := HB2.out
      clear HP
      go_wp2_with fail
    case' pos =>
      obtain ⟨a, ha⟩ := HP.out hp
      clear HP
      go_wp2_with fail
      refine (CP.out _ p HB2.out (by omega) (by omega)).mono ?_
      intro e w3 hA
      rcases ha with ha | ha
      all_goals
        rw [ha] at hA
        obtain ⟨a3, c3, rfl, r3, l3, b3⟩ := hA.read
        have HBL : Hid (Below w.heap.size w w3) := bs HB2.out b3
        clear z0 z1
        obtain ⟨z0, z1⟩ := HX2.out w3 b3
        clear hA r3 b3 ha
        go_wp2_with fail
    all_goals
      clear HX2
      go_loopw [12] (fun q wr => ∃ q' : Int, q = .int .i64 q' ∧ 1 ≤ q' ∧ f ≤ q' ∧ q' ≤ 1048577 ∧ Below w.heap.size w wr) (fun q _ => (p - iv q).toNat)
      case atStart => exact ⟨_, rfl, by omega, by omega, by omega, HBL.out⟩
      case round =>
        obtain ⟨q, rfl, q1, q2, q3, hb⟩ := hrel
        have HB : Hid (Below w.heap.size w wr) := hb
        clear hb
        by_cases hlt : q < p
        case' neg =>
          have hd : decide (q < p) = false := decide_eq_false hlt
          go_wp2
          go_ret
          exact ⟨rfl, HB.out⟩
        case' pos =>
          try (exfalso; omega)
          all_goals
            have hq := HQ.out q q1 q2 hlt
            go_wp2_with fail
            refine (CP.out _ q HB.out (by omega) (by omega)).mono ?_
            intro e w5 hA
            rw [hq] at hA
            obtain ⟨a5, c5, rfl, r5, l5, b5⟩ := hA.read
            have HB5 : Hid (Below w.heap.size w w5) := bs HB.out b5
            clear hA r5 b5 hq
            go_wp2
            go_roundw
            case rel => exact ⟨q + 1, rfl, by omega, by omega, by omega, HB5.out⟩
            case measure => simp [iv]; omega
end Go.Proofs.Ytmhfgfgiiinpjaa.V
