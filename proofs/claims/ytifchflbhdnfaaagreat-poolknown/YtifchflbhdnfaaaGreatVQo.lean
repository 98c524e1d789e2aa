/- What quota and has of the statements give back; no condition but those that each theorem names. -/
import Derived.Test.YtifchflbhdnfaaaGreatVLw
import Derived.Test.YtifchflbhdnfaaaGreatVOw
namespace Go.Proofs.YtifchflbhdnfaaaGreat.P
open Go.ChangeShapes Go.WideShapes Go.ChangeAt Go.RowKit
set_option linter.unusedVariables false
set_option maxRecDepth 8192

theorem run_idx7 (w : World) (cs : Array Value) (j : Nat) (hj : j < 7) (v : Value) (hv : cs[j]? = some v) : (Instr.index 58 (.agg cs) (.int .u8 j)).run Tryz.prog w = .ok v w := by
  have h1 : (0 : Int) ≤ (j : Int) ∧ (j : Int) < 7 := by omega
  simp [Instr.index, run_underlying Tryz.underlying58, asIntOf, h1, Tryz.sizeOf3]
  rw [if_pos hj]
  simp [part, Tryz.isAgg3, Tryz.sizeOf3, hv]
/-- A use's quota, by the statements. -/
def qv (x : Pa) (u : Nat) : Int := if u = 1 then 8 else if u = 2 then x.u else if u = 3 then x.t else if u = 4 then x.s else if u = 5 then x.r else if u = 6 then x.d else 0
theorem quota_any {w : World} (q : Option Addr) (m : Nat) (x : Pa) (u : Nat) (hu : u < 7) : Calls Tryz.prog 24 #[.agg #[.slice q x.n m, .int .i64 x.o, .int .i64 x.u, .int .i64 x.t, .int .i64 x.s, .int .i64 x.r, .int .i64 x.d, .int .i64 x.z], .int .u8 u] w (One (.int .i64 (qv x u)) w) := by
  have hix : ∀ W : World, (Instr.index 58 (.agg #[.int .i64 0, .int .i64 8, .int .i64 x.u, .int .i64 x.t, .int .i64 x.s, .int .i64 x.r, .int .i64 x.d]) (.int .u8 u)).run Tryz.prog W = .ok (.int .i64 (qv x u)) W := fun W => run_idx7 W _ u hu _ (by
    rcases (show u = 0 ∨ u = 1 ∨ u = 2 ∨ u = 3 ∨ u = 4 ∨ u = 5 ∨ u = 6 by omega) with rfl | rfl | rfl | rfl | rfl | rfl | rfl <;> rfl)
  have HIX : Hid (∀ W : World, (Instr.index 58 (.agg #[.int .i64 0, .int .i64 8, .int .i64 x.u, .int .i64 x.t, .int .i64 x.s, .int .i64 x.r, .int .i64 x.d]) (.int .u8 u)).run Tryz.prog W = .ok (.int .i64 (qv x u)) W) := hix
  clear hix
  generalize qv x u = r at *
  have hb := ebx_new w q m x
  go_enter Tryz.func24, Tryz.ntmps24
  go_wp2_with (refine B.wpList_index_at rfl 58 (.tmp 15) (.tmp 16) rfl _ _ _ rfl rfl (HIX.out _) ?_)
  go_ret
  exact ⟨rfl, below_new _ _⟩
theorem has_yes {w : World} {q : Option Addr} {l m : Nat} {f : Nat → Int} (hl : l ≤ 16) (hA : Arg w q l f) {x : Int} (hx : ∃ i, i < l ∧ f i = x) : Calls Tryz.prog 55 #[.slice q l m, .int .i64 x] w fun e w' => e = .returned (.bool true) ∧ w' = w := by
  obtain ⟨i, hi, hix⟩ := hx
  have HA : Hid (Arg w q l f) := hA
  clear hA
  go_enter Tryz.func55, Tryz.ntmps55
  go_wp2
  go_loopw [5] (fun z wr => ∃ k : Nat, k ≤ i ∧ z = .int .i64 k ∧ wr = w) (fun z _ => l - (B.iv z).toNat)
  case atStart => exact ⟨0, by omega, rfl, rfl⟩
  case round =>
    obtain ⟨k, hk, rfl, hw⟩ := hrel
    obtain rfl := hw
    obtain ⟨b, off, rfl, c1⟩ := HA.out.at' (Below.refl _ _) (show k < l by omega)
    have hkI : (k : Int) < (l : Int) := by omega
    by_cases e : f k = x
    · rw [e] at c1
      go_wp2
      go_ret
      exact ⟨rfl, rfl⟩
    · have hne : k ≠ i := fun q => e (by rw [q]; exact hix)
      have e' : ¬ (f k = x) := e
      generalize f k = y at *
      go_wp2
      go_roundw
      case rel => exact ⟨k + 1, by omega, by go_num, by simp⟩
      case measure => simp [B.iv]; omega
end Go.Proofs.YtifchflbhdnfaaaGreat.P
