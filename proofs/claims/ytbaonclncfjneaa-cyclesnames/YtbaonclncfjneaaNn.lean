/- Counters that are none; what New and the last slice's calls give at both ends. -/
import Derived.Test.YtbaonclncfjneaaBg
import Derived.Test.YtbaonclncfjneaaFx
import Derived.Deep.RegionHeld3
namespace Go.Proofs.Ytbaonclncfjneaa
open Go.ChangeShapes Go.WideShapes Go.ChangeAt Go.RowKit Go.Deep
set_option linter.unusedVariables false

/-- A counter that is none: no pointer, or one to a struct without cycles in a slice. -/
def NoC (w : World) (q : Option Addr) : Prop := q = none ∨ ∃ p, q = some ⟨p, 0, none⟩ ∧ w.cell? ⟨p, 0, none⟩ = some (.int .u64 0)
theorem made_nil {w : World} {q : Option Addr} (hN : NoC w q) :
    Calls Try.prog 28 #[.pointer q] w fun e w' => e = .returned (.bool false) ∧ w' = w := by
  rcases hN with rfl | ⟨p, rfl, hc⟩
  · go_enter Try.func28, Try.ntmps28
    go_wp2
    go_ret
    exact ⟨rfl, rfl⟩
  · go_enter Try.func28, Try.ntmps28
    go_wp2
    go_ret
    exact ⟨rfl, rfl⟩
theorem Now_nil {w : World} {q : Option Addr} (hN : NoC w q) : Calls Try.prog 10 #[.pointer q] w fun e w' => e = .returned (.int .u64 0) ∧ w' = w := by
  have C1 : Hid (Calls _ _ _ _ _) := made_nil hN
  clear hN
  go_enter Try.func10, Try.ntmps10
  go_wp2_with (go_at_call 28; refine C1.out.mono ?_; rintro e w' ⟨rfl, rfl⟩)
  go_ret
  exact ⟨rfl, rfl⟩
theorem Number_nil {w : World} {q : Option Addr} (hN : NoC w q) : Calls Try.prog 12 #[.pointer q] w fun e w' => e = .returned (.int .u64 0) ∧ w' = w := by
  have C1 : Hid (Calls _ _ _ _ _) := made_nil hN
  clear hN
  go_enter Try.func12, Try.ntmps12
  go_wp2_with (go_at_call 28; refine C1.out.mono ?_; rintro e w' ⟨rfl, rfl⟩)
  go_ret
  exact ⟨rfl, rfl⟩
theorem Left_nil {w : World} {q : Option Addr} (hN : NoC w q) : Calls Try.prog 13 #[.pointer q] w fun e w' => e = .returned (.int .u64 0) ∧ w' = w := by
  have C1 : Hid (Calls _ _ _ _ _) := made_nil hN
  clear hN
  go_enter Try.func13, Try.ntmps13
  go_wp2_with (go_at_call 28; refine C1.out.mono ?_; rintro e w' ⟨rfl, rfl⟩)
  go_ret
  exact ⟨rfl, rfl⟩
theorem Spend_nil {w : World} {q : Option Addr} (hN : NoC w q) (x : Int) : Calls Try.prog 16 #[.pointer q, .int .u64 x] w fun e w' => e = .returned (.int .i64 1) ∧ w' = w := by
  have C1 : Hid (Calls _ _ _ _ _) := made_nil hN
  clear hN
  go_enter Try.func16, Try.ntmps16
  go_wp2_with (go_at_call 28; refine C1.out.mono ?_; rintro e w' ⟨rfl, rfl⟩)
  go_ret
  exact ⟨rfl, rfl⟩
theorem Switch_nil {w : World} {q : Option Addr} (hN : NoC w q) (x : Int) : Calls Try.prog 18 #[.pointer q, .int .u64 x] w fun e w' => e = .returned (.int .i64 1) ∧ w' = w := by
  have C1 : Hid (Calls _ _ _ _ _) := made_nil hN
  clear hN
  go_enter Try.func18, Try.ntmps18
  go_wp2_with (go_at_call 28; refine C1.out.mono ?_; rintro e w' ⟨rfl, rfl⟩)
  go_ret
  exact ⟨rfl, rfl⟩
/-- What make([]int, 65) gives. -/
theorem make_run (w : World) : (Instr.makeSlice 43 (.int .i64 65) (.int .i64 65)).run Try.prog w = .ok (.slice (some ⟨w.heap.size, 0, none⟩) 65 65) (w.alloc (.cells (List.replicate 65 (.int .i64 0)).toArray 3)) := by
  obtain ⟨i0, hi, hz0, hz1, hz2⟩ := info_parts Try.infoI
  have h := run_makeSlice (P := Try.prog) w 43 3 i0 (.int .i64 0) Try.underlying43 hi hz0 .i64 .i64 65 65 (by omega) (by omega) (by rw [hz1]; simp) (by rw [hz2]; omega) (by omega)
  rw [h]
  have e : madeCells (Value.int .i64 0).cells ((65 : Int).toNat * i0.size) = (List.replicate 65 (.int .i64 0)).toArray := by
    apply Array.toList_inj.1
    rw [hz1]
    show (madeCells #[.int .i64 0] (65 * 1)).toList = _
    rw [toList_madeCells_one, Nat.mul_one]
  rw [e]
  rfl
/-- Where the closed statement stands: the counter behind its last slice, the list of many zeros, the first numbers. -/
structure Std (w0 w : World) (p mb fb : Nat) : Prop where
  a : Ctr 58 w p 4194304 4194304 1099511627776 0
  m : Blk w mb 3 (List.replicate 65 (.int .i64 0))
  f : Blk w fb 22 [.int .u64 0, .int .u64 1099511627775, .int .u64 1099511627776, .int .u64 1099511627777, .int .u64 18446744073709551615]
  bel : Below w0.heap.size w0 w
theorem Std.below {w0 w w' : World} {p mb fb : Nat} (h : Std w0 w p mb fb) (k : Below w.heap.size w w') : Std w0 w' p mb fb :=
  ⟨Blk.of_eq h.a (k.block p h.a.lt), h.m.of_eq (k.block mb h.m.lt), h.f.of_eq (k.block fb h.f.lt), h.bel.trans (k.mono h.bel.size)⟩
theorem Std.drew {w0 w : World} {p mb fb : Nat} (h : Std w0 w p mb fb) : Std w0 w.drew p mb fb := ⟨h.a, h.m, h.f, below_drewN h.bel 1⟩
theorem Std.alloc {w0 w : World} {p mb fb : Nat} (h : Std w0 w p mb fb) (o : Obj) : Std w0 (w.alloc o) p mb fb := h.below ((Below.refl _ _).grown (World.grownBy_alloc _ _ none) (Nat.le_refl _) (by simp))
/-- The first number that is tried in the round k. -/
def fst (k : Nat) : Int := [0, 1099511627775, 1099511627776, 1099511627777, 18446744073709551615].getD k 0
theorem Std.first {w0 w : World} {p mb fb : Nat} (h : Std w0 w p mb fb) {k : Nat} (hk : k < 5) : w.cell? ⟨fb, k, none⟩ = some (.int .u64 (fst k)) := by
  rw [h.f.cell k]
  have : k = 0 ∨ k = 1 ∨ k = 2 ∨ k = 3 ∨ k = 4 := by omega
  rcases this with rfl | rfl | rfl | rfl | rfl <;> rfl
theorem fst_pos (k : Nat) : 0 ≤ fst k := by
  unfold fst
  by_cases h : k < 5
  · have : k = 0 ∨ k = 1 ∨ k = 2 ∨ k = 3 ∨ k = 4 := by omega
    rcases this with rfl | rfl | rfl | rfl | rfl <;> decide
  · rw [List.getD_eq_getElem?_getD, List.getElem?_eq_none (by simp; omega)]
    decide
theorem Std.zeros {w0 w : World} {p mb fb : Nat} (h : Std w0 w p mb fb) (n : Nat) (hn : n ≤ 65) : Arg .i64 w (some ⟨mb, 0, none⟩) n (fun _ => 0) :=
  Or.inr ⟨mb, 0, rfl, h.m.lt, fun i hi => by rw [h.m.cell, Nat.zero_add, List.getElem?_replicate, if_pos (by omega)]⟩
/-- What a call that answers true and turns nothing old leaves. -/
def Yes (w0 : World) (p mb fb : Nat) (e : Ending) (w' : World) : Prop := e = .returned (.bool true) ∧ Std w0 w' p mb fb
theorem Std.begins {w0 w : World} {p mb fb : Nat} (h : Std w0 w p mb fb) (k s d : Int) (k0 : 0 ≤ k) (d0 : 0 ≤ d) (n c : Nat) (hn : n ≤ 65) :
    Calls Try.prog 4 #[.int .u64 k, .agg #[.int .u64 s, .int .u64 d], .slice (some ⟨mb, 0, none⟩) n c] w (Yes w0 p mb fb) := by
  refine (begins_walk w k s d k0 d0 _ n c (fun _ => 0) (by omega) (h.zeros n hn) (fun e => by cases e)).mono ?_
  rintro e w' ⟨rfl, hb⟩
  exact ⟨rfl, h.below hb⟩
theorem Std.plays {w0 w : World} {p mb fb : Nat} (h : Std w0 w p mb fb) (s d n : Int) (d0 : 0 ≤ d) (n0 : 0 ≤ n) (g c : Nat) (hg : Blk w g 38 [.int .i64 0, .int .u64 1, .int .i64 1, .int .u64 0, .int .i64 1, .int .u64 0]) :
    Calls Try.prog 3 #[.agg #[.int .u64 s, .int .u64 d, .int .u64 n], .slice (some ⟨g, 0, none⟩) 3 c] w (Yes w0 p mb fb) := by
  refine (plays_walk w s d n d0 n0 _ 3 c (by unfold maxLen; omega) ?_).mono ?_
  · intro i hi
    have : i = 0 ∨ i = 1 ∨ i = 2 := by omega
    rcases this with rfl | rfl | rfl
    · exact ⟨g, 0, 0, 1, rfl, hg.lt, hg.cell 0, hg.cell 1, by omega, by omega, by omega⟩
    · exact ⟨g, 0, 1, 0, rfl, hg.lt, hg.cell 2, hg.cell 3, by omega, by omega, by omega⟩
    · exact ⟨g, 0, 1, 0, rfl, hg.lt, hg.cell 4, hg.cell 5, by omega, by omega, by omega⟩
  · rintro e w' ⟨rfl, hb⟩
    exact ⟨rfl, h.below hb⟩
end Go.Proofs.Ytbaonclncfjneaa
