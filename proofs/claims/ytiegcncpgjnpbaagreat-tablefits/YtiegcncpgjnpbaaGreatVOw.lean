/- What Counts, Whole and Owned of package pool give back, by the uses of the frames alone; no condition but those that each theorem names. -/
import Derived.Test.YtiegcncpgjnpbaaGreatVPd
namespace Go.Proofs.YtiegcncpgjnpbaaGreat.P
open B Go.ChangeShapes Go.WideShapes Go.ChangeAt Go.RowKit
set_option linter.unusedVariables false
set_option maxRecDepth 8192

theorem Counts_p {w : World} {F : Nat → Prop} {p : Nat} {P : Par} {us : Us} (h : Po w F p P us) : Calls Tryz.prog 14 #[.pointer (some ⟨p, 0, none⟩)] w fun e w' => e = .returned (.agg #[.int .i64 (cN P us 0 : Nat), .int .i64 (cN P us 1 : Nat), .int .i64 (cN P us 2 : Nat), .int .i64 (cN P us 3 : Nat), .int .i64 (cN P us 4 : Nat), .int .i64 (cN P us 5 : Nat), .int .i64 (cN P us 6 : Nat)]) ∧ Below w.heap.size w w' := by
  obtain ⟨ga, b, cap, G, bp, L, tk, cn, g1, g2, g3⟩ := h.me
  have hb : ∀ o : Obj, Below w.heap.size w (w.alloc o) := fun o => (Below.refl _ w).alloc (Nat.le_refl _) o
  have C1 : Hid (∀ o : Obj, Calls Tryz.prog 59 #[.pointer (some ⟨p, 0, none⟩)] (w.alloc o) fun e w' => e = .returned (.bool true) ∧ w' = w.alloc o) := fun o => made_p (g1.below (hb o))
  have c0 := g1.cc 0 (by omega)
  have c1 := g1.cc 1 (by omega)
  have c2 := g1.cc 2 (by omega)
  have c3 := g1.cc 3 (by omega)
  have c4 := g1.cc 4 (by omega)
  have c5 := g1.cc 5 (by omega)
  have c6 := g1.cc 6 (by omega)
  rw [g2.cn] at c0 c1 c2 c3 c4 c5 c6
  have hlt := g1.lt
  have HB : Hid (∀ o : Obj, Below w.heap.size w (w.alloc o)) := hb
  clear h g1 g2 g3 hb
  generalize cN P us 0 = n0 at *
  generalize cN P us 1 = n1 at *
  generalize cN P us 2 = n2 at *
  generalize cN P us 3 = n3 at *
  generalize cN P us 4 = n4 at *
  generalize cN P us 5 = n5 at *
  generalize cN P us 6 = n6 at *
  go_enter Tryz.func14, Tryz.ntmps14
  go_wp2_with (go_at_call 59; refine (C1.out _).mono ?_; rintro e w' ⟨rfl, rfl⟩)
  refine bodyPost_ret (v := .agg #[.int .i64 n0, .int .i64 n1, .int .i64 n2, .int .i64 n3, .int .i64 n4, .int .i64 n5, .int .i64 n6]) (by simp [results, Tryz.results14, go_sem]) rfl ⟨rfl, ?_⟩
  exact HB.out _
theorem us_succ (m : Us) (n : Nat) : B.us (n + 1) m = B.us n m ++ (if (m n).isSome then [n] else []) := by
  unfold B.us
  rw [List.range_succ, List.filter_append]
  congr 1
  cases h : (m n).isSome <;> simp [h]
theorem us_count {m : Us} (h : ∀ g u, m g = some u → 1 ≤ u ∧ u ≤ 6) : ∀ n, (B.us n m).length = cU m 1 n + cU m 2 n + cU m 3 n + cU m 4 n + cU m 5 n + cU m 6 n
  | 0 => rfl
  | n + 1 => by
    have ih := us_count h n
    rw [us_succ, List.length_append, ih]
    simp only [cU]
    cases e : m n with
    | none => simp
    | some u =>
      have := h n u e
      rcases (show u = 1 ∨ u = 2 ∨ u = 3 ∨ u = 4 ∨ u = 5 ∨ u = 6 by omega) with rfl | rfl | rfl | rfl | rfl | rfl <;> simp <;> omega
theorem Whole_p {w : World} {F : Nat → Prop} {p : Nat} {P : Par} {us : Us} (h : Po w F p P us) : Calls Tryz.prog 34 #[.pointer (some ⟨p, 0, none⟩)] w fun e w' => e = .returned (.bool (decide (tU us = cU us 1 4096))) ∧ Below w.heap.size w w' := by
  obtain ⟨ga, b, cap, G, bp, L, tk, cn, g1, g2, g3⟩ := h.me
  have C1 : Hid (∀ n, Calls Tryz.prog 59 #[.pointer (some ⟨p, 0, none⟩)] (w.drewN n) fun e w' => e = .returned (.bool true) ∧ w' = w.drewN n) := fun n => made_p (g1.below (below_of (grown_drewN w n none) _ (Nat.le_refl _) (by simp)))
  have hlen : ∀ n ty, (Builtin.len_ #[100] ty #[.map (some b)]).run Tryz.prog (w.drewN n) = .ok (.int .i64 (tU us : Nat)) (w.drewN n) := fun n ty => by
    have := (g1.below (below_of (grown_drewN w n none) _ (Nat.le_refl _) (by simp))).mp.len ty
    rw [show (B.usI 4096 us).length = tU us by unfold B.usI; rw [List.length_map, us_count (fun g u hg => ⟨(h.va.us1 g u hg).1, (h.va.us1 g u hg).2.1⟩)]; rfl] at this
    exact this
  have c1 := g1.cc 1 (by omega)
  have e1 : cn 1 = cU us 1 4096 := by rw [g2.cn 1]; exact if_neg (by omega)
  rw [e1] at c1
  have hcm := g1.cm
  clear h g1 g2 g3 e1
  generalize cU us 1 4096 = x at *
  generalize tU us = y at *
  go_enter Tryz.func34, Tryz.ntmps34
  go_wp2
  go_quiet ((go_at_call 59; exact Calls.quiet_of_same (C1.out _)))
  go_wp2
  go_ret
  refine ⟨ret_bool ?_, below_of (grown_drewN w _ none) _ (Nat.le_refl _) (by simp)⟩
  rw [Bool.eq_iff_iff]
  simp
  omega
end Go.Proofs.YtiegcncpgjnpbaaGreat.P
