/- What Counts, Whole and Owned of package pool give back, by the uses of the frames alone; no condition but those that each theorem names. -/
import Derived.Test.YtiegcncpgjnpbaaGreatVPd
namespace Go.Proofs.YtiegcncpgjnpbaaGreat.P
open B Go.ChangeShapes Go.WideShapes Go.ChangeAt Go.RowKit
set_option linter.unusedVariables false
set_option maxRecDepth 8192

theorem Counts_p {w : World} {F : Nat → Prop} {p : Nat} {P : Par} {us : Us} (h : Po w F p P us) : Calls Tryz.prog 14 #[.pointer (some ⟨p, 0, none⟩)] w fun e w' => e = .returned (.agg #[.int .i64 (cN P us 0 : Nat), .int .i64 (cN P us 1 : Nat), .int .i64 (cN P us 2 : Nat), .int .i64 (cN P us 3 : Nat), .int .i64 (cN P us 4 : Nat), .int .i64 (cN P us 5 : Nat), .int .i64 (cN P us 6 : Nat)]) ∧ Below w.heap.size w w' := by
  obtain ⟨ga, b, cap, G, bp, L, tk, cn, g1, g2, g3⟩ := h.me
  have hb : ∀ o : Obj, Below w.heap.size w (w.alloc o) := fun o => (Below.refl _ w).alloc (Nat.le_refl _) o
  have C1 : Hid (∀ o : Obj, Calls Tryz.prog 59 #[.pointer (some ⟨p, 0, none⟩)] (w.alloc o) fun e w' => e = .returned (.bool true) ∧ w' = w.alloc o) := fun o => made_p (g1.below (hb o))
  have c0 := g1.cc 0 (by omega)
  have c1 := g1.cc 1 (by omega)
  have c2 := g1.cc 2 (by omega)
  have c3 := g1.cc 3 (by omega)
  have c4 := g1.cc 4 (by omega)
  have c5 := g1.cc 5 (by omega)
  have c6 := g1.cc 6 (by omega)
  rw [g2.cn] at c0 c1 c2 c3 c4 c5 c6
  have hlt := g1.lt
  have HB : Hid (∀ o : Obj, Below w.heap.size w (w.alloc o)) := hb
  clear h g1 g2 g3 hb
  generalize cN P us 0 = n0 at *
  generalize cN P us 1 = n1 at *
  generalize cN P us 2 = n2 at *
  generalize cN P us 3 = n3 at *
  generalize cN P us 4 = n4 at *
  generalize cN P us 5 = n5 at *
  generalize cN P us 6 = n6 at *
  go_enter Tryz.func14, Tryz.ntmps14
  go_wp2_with (go_at_call 59; refine (C1.out _).mono ?_; rintro e w' ⟨rfl, rfl⟩)
  refine bodyPost_ret (v := .agg #[.int .i64 n0, .int .i64 n1, .int .i64 n2, .int .i64 n3, .int .i64 n4, .int .i64 n5, .int .i64 n6]) (by simp [results, Tryz.results14, go_sem]) rfl ⟨rfl, ?_⟩
  exact HB.out _
end Go.Proofs.YtiegcncpgjnpbaaGreat.P
