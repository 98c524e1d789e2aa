/- What rotate of package cache writes. -/
import Derived.Test.YtpedgpaebdoafaaPr
namespace Go.Proofs.Ytpedgpaebdoafaa
open Go.ChangeShapes Go.WideShapes Go.ChangeAt Go.RowKit
set_option linter.unusedVariables false

theorem Try.zeroU : (Try.prog.info? 32).map (fun i => (i.zero, i.size)) = some (some (.int .u64 0), 1) := by kernel_rfl
theorem set_front (L : List Value) (m : Nat) (v : Value) (h1 : 1 ≤ L.length) : (L.take 1 ++ L.take (m - 1) ++ L.drop (1 + (m - 1))).set 0 v = v :: (L.take (m - 1) ++ L.drop (1 + (m - 1))) := by
  cases L with
  | nil => simp at h1
  | cons a L => simp
theorem rotate_big {w : World} {g m cap : Nat} {L : List Value} (hB : Blk w g 32 L) (h1 : 1 ≤ m) (hm : m ≤ 4096) (hL : m ≤ L.length) (hc : m ≤ cap) (hc1 : cap ≠ 1) (hcm : cap ≤ maxLen) (hone : ∀ v ∈ L.take m, v.oneCell' = true) (t : Int) :
    Calls Try.prog 31 #[.slice (some ⟨g, 0, none⟩) m cap, .int .u64 t] w fun e w' => e = .returned (.tuple #[]) ∧ w.grownBy w' (some g) ∧ Blk w' g 32 (.int .u64 t :: (L.take (m - 1) ++ L.drop m)) := by
  have hlen : (L.take (m - 1)).length = m - 1 := by simp; omega
  have hcp : ∀ ty, (Builtin.copy_ #[37, 37] ty #[.slice (some ⟨g, 1, none⟩) (m - 1) (cap - 1), .slice (some ⟨g, 0, none⟩) m cap]).run Try.prog w = .ok (goInt (m - 1 : Nat)) (w.setCells g 1 (L.take (m - 1))) := fun ty => by
    have e : Result.ok (goInt (L.take (m - 1)).length) (w.setCells g 1 (L.take (m - 1))) = Result.ok (goInt (m - 1 : Nat)) (w.setCells g 1 (L.take (m - 1))) := by rw [hlen]
    rw [← e]
    refine run_copy_cells w 37 37 ty 32 g 1 (m - 1) (cap - 1) ⟨g, 0, none⟩ m cap (L.take (m - 1)) Try.underlying37 (zero_of_info Try.zeroU).2 (by rw [hlen]; exact (Nat.min_eq_right (by omega)).symm) ?_ ?_ ?_ ?_
    · intro i v hv
      rw [Go.WideShapes.add_plain, Nat.zero_add, hB.cell i, ← hv, List.getElem?_take_of_lt]
      have := (List.getElem?_eq_some_iff.1 hv).1
      omega
    · intro i hi
      rw [hB.cell (1 + i), List.getElem?_eq_getElem (by omega)]
      rfl
    · intro i hi
      exact hB.frozen _
    · intro v hv
      refine hone v ?_
      have : L.take (m - 1) = (L.take m).take (m - 1) := by rw [List.take_take, Nat.min_eq_left (by omega)]
      rw [this] at hv
      exact List.mem_of_mem_take hv
  have HB2 : Hid (Blk (w.setCells g 1 (L.take (m - 1))) g 32 (L.take 1 ++ L.take (m - 1) ++ L.drop (1 + (m - 1)))) := by
    have := Blk.sets (L.take (m - 1)) 1 w L hB (by rw [hlen]; omega)
    rw [hlen] at this
    exact this
  have HG : Hid (w.grownBy (w.setCells g 1 (L.take (m - 1))) (some g)) := grown_setCells _ _ _ _
  generalize w.setCells g 1 (L.take (m - 1)) = wz at *
  have hd : wz.cell? ⟨g, 0, none⟩ = L[0]? := by
    rw [HB2.out.cell 0, List.append_assoc, List.getElem?_append_left (by simp; omega), List.getElem?_take_of_lt (by omega)]
  rw [List.getElem?_eq_getElem (by omega : 0 < L.length)] at hd
  have hz := HB2.out.frozen 0
  have HF := set_front L m (.int .u64 t) (by omega)
  rw [show 1 + (m - 1) = m by omega] at HF
  have HF : Hid _ := HF
  generalize L[0] = old at hd
  clear hone hB hlen
  unfold maxLen at hcm
  have e1 : ((m : Int) - 1).toNat = m - 1 := by omega
  have e2 : ((cap : Int) - 1).toNat = cap - 1 := by omega
  go_enter Try.func31, Try.ntmps31
  go_wp2
  go_end0
  refine ⟨rfl, HG.out.trans (grown_setCell' _ _ _ _), ?_⟩
  have := HB2.out.set 0 (.int .u64 t)
  rw [show 1 + (m - 1) = m by omega, HF.out] at this
  exact this
theorem rotate_one {w : World} {g : Nat} {L : List Value} (hB : Blk w g 32 L) (hL : 1 ≤ L.length) (t : Int) :
    Calls Try.prog 31 #[.slice (some ⟨g, 0, none⟩) 1 1, .int .u64 t] w fun e w' => e = .returned (.tuple #[]) ∧ w.grownBy w' (some g) ∧ Blk w' g 32 (.int .u64 t :: (L.take (1 - 1) ++ L.drop 1)) := by
  have hcp : ∀ ty, (Builtin.copy_ #[37, 37] ty #[.slice (some ⟨g, 0, none⟩) 0 0, .slice (some ⟨g, 0, none⟩) 1 1]).run Try.prog w = .ok (goInt 0) w := fun ty => run_copy_none w 37 37 ty 32 _ _ 0 0 1 1 Try.underlying37 (zero_of_info Try.zeroU).2 rfl
  have hd : w.cell? ⟨g, 0, none⟩ = L[0]? := hB.cell 0
  rw [List.getElem?_eq_getElem (by omega : 0 < L.length)] at hd
  have hz := hB.frozen 0
  have HB : Hid (Blk w g 32 L) := hB
  clear hB
  generalize L[0] = old at hd
  go_enter Try.func31, Try.ntmps31
  go_wp2
  go_end0
  refine ⟨rfl, grown_setCell' _ _ _ _, ?_⟩
  have := HB.out.set 0 (.int .u64 t)
  cases L with
  | nil => simp at hL
  | cons a L => simpa using this
theorem rotate_ok {w : World} {g m cap : Nat} {L : List Value} (hB : Blk w g 32 L) (h1 : 1 ≤ m) (hm : m ≤ 4096) (hL : m ≤ L.length) (hc : m ≤ cap) (hcm : cap ≤ maxLen) (hone : ∀ v ∈ L.take m, v.oneCell' = true) (t : Int) :
    Calls Try.prog 31 #[.slice (some ⟨g, 0, none⟩) m cap, .int .u64 t] w fun e w' => e = .returned (.tuple #[]) ∧ w.grownBy w' (some g) ∧ Blk w' g 32 (.int .u64 t :: (L.take (m - 1) ++ L.drop m)) := by
  by_cases e : cap = 1
  · obtain rfl : m = 1 := by omega
    subst e
    exact rotate_one hB hL t
  · exact rotate_big hB h1 hm hL hc e hcm hone t
end Go.Proofs.Ytpedgpaebdoafaa
