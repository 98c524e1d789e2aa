/- Lists of faults and configurations held against one another; no condition but that they lie in memory. -/
import Derived.Test.YtcmgjinjfaialaaGreatKa
import Derived.Deep.CutRange
namespace Go.Proofs.YtcmgjinjfaialaaGreat
open Go.ChangeShapes Go.WideShapes Go.ChangeAt Go.RowKit
set_option linter.unusedVariables false

theorem neF (e t : Int) (W : World) : (binOp .neq 34 (.agg #[.int .i64 e, .int .i64 t]) (.agg #[.int .i64 e, .int .i64 t])).run Tryz.prog W = .ok (.bool false) W := by
  have h := eqF e t e t W
  simp only [run_eql_struct] at h
  simp only [run_neq_struct]
  cases hr : (Op.equalIn 10000 34 (.agg #[.int .i64 e, .int .i64 t]) (.agg #[.int .i64 e, .int .i64 t])).run Tryz.prog W with
  | ok b w2 =>
    rw [hr] at h
    simp [Result.andThen] at h ⊢
    exact ⟨h.1, h.2⟩
  | halt x w2 =>
    rw [hr] at h
    simp [Result.andThen] at h
theorem neC (c : Co) (W : World) : (binOp .neq 25 (.agg #[.int .u64 c.l1, .int .u64 c.llc, .int .u64 c.mi, .int .u64 c.fa, .int .u64 c.st, .int .u64 c.di]) (.agg #[.int .u64 c.l1, .int .u64 c.llc, .int .u64 c.mi, .int .u64 c.fa, .int .u64 c.st, .int .u64 c.di])).run Tryz.prog W = .ok (.bool false) W := by
  simp only [run_neq_struct]
  rw [run_equalIn_agg W 9999 25 _ _ (by kernel_rfl) Tryz.stoodInHeld25]
  simp [go_sem, Program.fieldsOf, Tryz.underlying25]
/-- Faults in memory: the i-th one's two cells. -/
def Fa (w : World) (ao : Option Addr) (L : List (Int × Int)) : Prop := L.length = 0 ∨ ∃ g, ao = some ⟨g, 0, none⟩ ∧ g < w.heap.size ∧ ∀ i, i < L.length → w.cell? ⟨g, i * 2, none⟩ = some (.int .i64 (L.getD i (0, 0)).1) ∧ w.cell? ⟨g, i * 2 + 1, none⟩ = some (.int .i64 (L.getD i (0, 0)).2)
theorem enF_get (L : List (Int × Int)) (i : Nat) (hi : i < L.length) : (enF L)[i * 2]? = some (.int .i64 (L.getD i (0, 0)).1) ∧ (enF L)[i * 2 + 1]? = some (.int .i64 (L.getD i (0, 0)).2) := by
  induction L generalizing i with
  | nil => simp at hi
  | cons x l ih =>
    cases i with
    | zero => exact ⟨rfl, rfl⟩
    | succ i =>
      have := ih i (by simpa using hi)
      simp only [enF]
      rw [show (i + 1) * 2 = i * 2 + 1 + 1 by omega, show i * 2 + 1 + 1 + 1 = (i * 2 + 1) + 1 + 1 by omega]
      simpa using this
theorem Fs.fa {w : World} {base : Nat} {v : Value} {L : List (Int × Int)} (h : Fs w base v L) : ∃ ao cap, v = .slice ao L.length cap ∧ Fa w ao L := by
  rcases h with ⟨h0, ⟨rfl, h⟩ | ⟨g, cap, cur, rfl, h1, h2, h3, h4, h5, h6⟩⟩
  · exact ⟨none, 0, by rw [h], Or.inl h⟩
  · refine ⟨_, _, rfl, Or.inr ⟨g, rfl, (Array.getElem?_eq_some_iff.1 h2).1, fun i hi => ?_⟩⟩
    have hc : ∀ j, j < L.length * 2 → w.cell? ⟨g, j, none⟩ = (enF L)[j]? := fun j hj => by
      rw [cell_of_row w g j _ 34 (0, 0) h2, ← Array.getElem?_toList, ← List.getElem?_take_of_lt hj, h6]
    exact ⟨(hc _ (by omega)).trans (enF_get L i hi).1, (hc _ (by omega)).trans (enF_get L i hi).2⟩
theorem same_any {w : World} {a1 a2 : Option Addr} {c1 c2 : Nat} {L : List (Int × Int)} (hL : L.length ≤ 100) (h1 : Fa w a1 L) (h2 : Fa w a2 L) :
    Calls Tryz.prog 19 #[.slice a1 L.length c1, .slice a2 L.length c2] w (One (.bool true) w) := by
  have H1 : Hid (Fa w a1 L) := h1
  have H2 : Hid (Fa w a2 L) := h2
  clear h1 h2
  go_enter Tryz.func19, Tryz.ntmps19
  go_wp2
  go_loopw [5] (fun i wr => ∃ k : Nat, k ≤ L.length ∧ i = .int .i64 k ∧ ∃ m, wr = w.drewN m) (fun i _ => L.length - (intOf i).toNat)
  case atStart => exact ⟨0, by omega, rfl, 0, rfl⟩
  case round =>
    obtain ⟨k, hk, rfl, m, rfl⟩ := hrel
    by_cases hlt : k < L.length
    · rcases H1.out with h0 | ⟨g1, rfl, l1, r1⟩
      · omega
      rcases H2.out with h0 | ⟨g2, rfl, l2, r2⟩
      · omega
      obtain ⟨d1, d2⟩ := r1 k hlt
      obtain ⟨d3, d4⟩ := r2 k hlt
      have d1 : (w.drewN m).cell? ⟨g1, k * 2, none⟩ = some (.int .i64 (L.getD k (0, 0)).1) := d1
      have d2 : (w.drewN m).cell? ⟨g1, k * 2 + 1, none⟩ = some (.int .i64 (L.getD k (0, 0)).2) := d2
      have d3 : (w.drewN m).cell? ⟨g2, k * 2, none⟩ = some (.int .i64 (L.getD k (0, 0)).1) := d3
      have d4 : (w.drewN m).cell? ⟨g2, k * 2 + 1, none⟩ = some (.int .i64 (L.getD k (0, 0)).2) := d4
      generalize (L.getD k (0, 0)).1 = x at *
      generalize (L.getD k (0, 0)).2 = y at *
      have hq := neF x y
      clear r1 r2
      go_wp2
      go_quiet (fail)
      go_wp2
      go_roundw
      case rel => exact ⟨k + 1, by omega, by go_num, m + nq, by first | rfl | simp [World.drewN_drewN]⟩
      case measure => simp [intOf]; omega
    · obtain rfl : k = L.length := by omega
      go_wp2
      go_ret
      exact ⟨rfl, below_drewN (Below.refl _ _) m⟩
end Go.Proofs.YtcmgjinjfaialaaGreat
