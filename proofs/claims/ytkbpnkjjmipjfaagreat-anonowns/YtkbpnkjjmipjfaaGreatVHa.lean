/- What the small integer functions of package addr that frames calls give back, each for every integer that it may be handed; no condition but the range that each theorem names. -/
import Derived.Test.YtkbpnkjjmipjfaaGreatRows
import Derived.WalkKit
import Derived.ProofKit
import Derived.OpenShut
import Derived.WalkSpells
import Derived.WalkLawsBesides
import Derived.Laws.BitsAllLaws
import Derived.Laws.IdiomCopy
import Derived.Lib.SliceRun
import Derived.Deep.AppendLies
import Derived.Deep.WholeRow
import Derived.Laws.ShiftsVarLaws
namespace Go.Proofs.YtkbpnkjjmipjfaaGreat.F
open Go.ChangeShapes Go.WideShapes Go.ChangeAt Go.RowKit
set_option linter.unusedVariables false
set_option maxRecDepth 8192

theorem low8_u64 (a : Int) (h0 : 0 ≤ a) (h1 : a < 18446744073709551616) : bits .and .u64 a 255 = a % 256 := by
  rw [u64_and a 255 h0 h1 (by decide) (by decide)]
  have e : (255 : Int).toNat = 255 := rfl
  rw [e, nat_mask8]; omega
theorem ret_int {k : IntKind} {a b : Int} (h : a = b) : Ending.returned (.int k a) = .returned (.int k b) := by rw [h]
theorem ret_bool {a b : Bool} (h : a = b) : Ending.returned (.bool a) = .returned (.bool b) := by rw [h]
theorem cut_any (a : Int) (h0 : 0 ≤ a) (h1 : a < 18446744073709551616) (w : World) :
    Calls Tryz.prog 160 #[.int .u64 a] w fun e w' => e = .returned (.tuple #[.int .i64 (a / 256), .int .i64 (a % 256)]) ∧ w' = w := by
  have hl := low8_u64 a h0 h1
  go_enter Tryz.func160, Tryz.ntmps160
  go_wp2
  go_ret2
  exact ⟨rfl, rfl⟩
theorem Frame_ok (a : Int) (h0 : 0 ≤ a) (h1 : a < 1048576) (w : World) :
    Calls Tryz.prog 119 #[.int .u64 a] w fun e w' => e = .returned (.tuple #[.int .i64 (a / 256), .int .i64 (a % 256), .int .i64 0]) ∧ w' = w := by
  have hz : (a / 1048576 != 0) = false := by simp; omega
  go_enter Tryz.func119, Tryz.ntmps119
  go_wp2_with (go_at_call 160; refine (cut_any _ h0 (by omega) _).mono ?_; rintro e w' ⟨rfl, rfl⟩)
  go_ret3
  exact ⟨rfl, rfl⟩
theorem Frame_no (a : Int) (h0 : 1048576 ≤ a) (h1 : a < 18446744073709551616) (w : World) :
    Calls Tryz.prog 119 #[.int .u64 a] w fun e w' => e = .returned (.tuple #[.int .i64 0, .int .i64 0, .int .i64 10]) ∧ w' = w := by
  have hz : (a / 1048576 != 0) = true := by rw [bne_iff_ne]; omega
  go_enter Tryz.func119, Tryz.ntmps119
  go_wp2_with fail
  go_ret3
  exact ⟨rfl, rfl⟩
end Go.Proofs.YtkbpnkjjmipjfaaGreat.F
namespace Go.Proofs.YtkbpnkjjmipjfaaGreat.F
open Go.ChangeShapes Go.WideShapes Go.ChangeAt Go.RowKit
set_option linter.unusedVariables false
set_option maxRecDepth 8192

def By (w : World) (g n : Nat) (f : Nat → Int) : Prop := g < w.heap.size ∧ ∀ i, i < n → w.cell? ⟨g, i, none⟩ = some (.int .u8 (f i)) ∧ w.frozen? ⟨g, i, none⟩ = false
def okB (n : Nat) (f : Nat → Int) : Prop := ∀ i, i < n → 0 ≤ f i ∧ f i < 256
structure Mem (w : World) (p g n : Nat) (f : Nat → Int) : Prop where
  lt : p < w.heap.size
  cell : w.cell? ⟨p, 0, none⟩ = some (.slice (some ⟨g, 0, none⟩) (n * 256) (n * 256))
  by' : By w g (n * 256) f
  ne : p ≠ g
  ok : okB (n * 256) f
theorem By.kept {w w' : World} {g n : Nat} {f : Nat → Int} {row : Option Nat} (b : By w g n f) (h : w.grownBy w' row) (hne : some g ≠ row) : By w' g n f :=
  ⟨Nat.lt_of_lt_of_le b.1 h.size, fun i hi => ⟨(h.cell_far _ b.1 hne).trans (b.2 i hi).1, (h.frozen_far _ b.1 hne).trans (b.2 i hi).2⟩⟩
theorem Frames_any {w : World} {p g n : Nat} {f : Nat → Int} (hM : Mem w p g n f) (hn : n ≤ 4096) :
    Calls Tryz.prog 243 #[.pointer (some ⟨p, 0, none⟩)] w fun e w' => e = .returned (.int .i64 n) ∧ w' = w := by
  have hc := hM.cell
  clear hM
  go_enter Tryz.func243, Tryz.ntmps243
  go_wp2
  go_ret
  exact ⟨ret_int (by omega), rfl⟩
theorem made_any {w : World} {p g n : Nat} {f : Nat → Int} (hM : Mem w p g n f) (h1 : 1 ≤ n) (hn : n ≤ 4096) :
    Calls Tryz.prog 219 #[.pointer (some ⟨p, 0, none⟩)] w fun e w' => e = .returned (.bool true) ∧ w' = w := by
  go_enter Tryz.func219, Tryz.ntmps219
  go_wp2_with (go_at_call 243; refine (Frames_any hM hn).mono ?_; rintro e w' ⟨rfl, rfl⟩)
  go_ret
  exact ⟨ret_bool (by simp; omega), rfl⟩
theorem there_any {w : World} {p g n : Nat} {f : Nat → Int} (hM : Mem w p g n f) (hn : n ≤ 4096) (pa : Int) (h0 : 0 ≤ pa) (h1 : pa < 18446744073709551616) :
    Calls Tryz.prog 220 #[.pointer (some ⟨p, 0, none⟩), .int .u64 pa] w fun e w' => e = .returned (.bool (decide (pa < n * 256))) ∧ w' = w := by
  by_cases hs : pa < 1048576
  · go_enter Tryz.func220, Tryz.ntmps220
    go_wp2_with (first | (go_at_call 119; refine (Frame_ok pa h0 hs w).mono ?_; rintro e w' ⟨rfl, rfl⟩) | (go_at_call 243; refine (Frames_any hM hn).mono ?_; rintro e w' ⟨rfl, rfl⟩))
    go_ret
    exact ⟨ret_bool (by rw [Bool.eq_iff_iff]; simp; omega), rfl⟩
  · go_enter Tryz.func220, Tryz.ntmps220
    go_wp2_with (first | (go_at_call 119; refine (Frame_no pa (by omega) h1 w).mono ?_; rintro e w' ⟨rfl, rfl⟩) | (go_at_call 243; refine (Frames_any hM hn).mono ?_; rintro e w' ⟨rfl, rfl⟩))
    go_ret
    exact ⟨ret_bool (by rw [Bool.eq_iff_iff]; simp; omega), rfl⟩
end Go.Proofs.YtkbpnkjjmipjfaaGreat.F
namespace Go.Proofs.YtkbpnkjjmipjfaaGreat.F
open Go.ChangeShapes Go.WideShapes Go.ChangeAt Go.RowKit
set_option linter.unusedVariables false
set_option maxRecDepth 8192

theorem ret_slice2 {a : Option Addr} {l l' c c' : Nat} {k : IntKind} {v : Int} (h : l = l') (h' : c = c') : Ending.returned (.tuple #[.slice a l c, .int k v]) = .returned (.tuple #[.slice a l' c', .int k v]) := by rw [h, h']
theorem run_ok {w : World} {p g n : Nat} {f : Nat → Int} (hM : Mem w p g n f) (hn : n ≤ 4096) (pa size : Nat) (h1 : 1 ≤ size) (h8 : size ≤ 8) (hl : pa + size ≤ n * 256) :
    Calls Tryz.prog 175 #[.pointer (some ⟨p, 0, none⟩), .int .u64 pa, .int .i64 size] w fun e w' => e = .returned (.tuple #[.slice (some ⟨g, pa, none⟩) size size, .int .i64 0]) ∧ w' = w := by
  have hc := hM.cell
  have HM : Hid (Mem w p g n f) := hM
  clear hM
  go_enter Tryz.func175, Tryz.ntmps175
  go_wp2_with (first
    | (go_at_call 219; refine (made_any HM.out (by omega) hn).mono ?_; rintro e w' ⟨rfl, rfl⟩)
    | (go_at_call 220; refine (there_any HM.out hn _ (by omega) (by omega)).mono ?_; rintro e w' ⟨rfl, rfl⟩; rw [decide_eq_true (by omega)]))
  go_ret2
  exact ⟨ret_slice2 (by omega) (by omega), rfl⟩
theorem Tryz.infoU : (Tryz.prog.info? 5).map (fun i => (i.zero, i.size, i.bytes)) = some (some (.int .u8 0), 1, 1) := by kernel_rfl
theorem made_By {w : World} {base g M : Nat} (h : w.ownsRow base 5 1 (.slice (some ⟨g, 0, none⟩) M M) M (madeCells #[.int .u8 0] (M * 1)).toList) : By w g M (fun _ => 0) := by
  rcases h.2 with ⟨hnil, _⟩ | ⟨g', cap', cur, hv, hbase, hb, h1, h2, h3, h4⟩
  · cases hnil
  · cases hv
    rw [toList_madeCells_one] at h4
    refine ⟨(Array.getElem?_eq_some_iff.1 hb).1, fun k hk => ?_⟩
    have hcur : cur[k]? = some (.int .u8 0) := by
      rw [← Array.getElem?_toList, ← List.getElem?_take_of_lt (show k < M * 1 by omega), h4]
      simp [hk]
    simp [World.cell?, World.frozen?, hb, hcur]
theorem New_ok (n : Nat) (h1 : 1 ≤ n) (hn : n ≤ 4096) (w : World) :
    Calls Tryz.prog 38 #[.int .i64 n] w fun e w' => ∃ p g, e = .returned (.tuple #[.pointer (some ⟨p, 0, none⟩), .int .i64 0]) ∧ Mem w' p g n (fun _ => 0) ∧ w.grownBy w' none ∧ w.heap.size ≤ p ∧ w.heap.size ≤ g := by
  obtain ⟨i0, hi, hz0, hz1, hz2⟩ := info_parts Tryz.infoU
  go_enter Tryz.func38, Tryz.ntmps38
  go_wp2_with (at_make; refine wpList_make_full _ rfl _ _ 141 rfl w.heap.size 5 i0 (.int .u8 0) 1 Tryz.underlying141 hi hz0 hz1 _ _ _ _ (n * 256) rfl rfl rfl rfl (by rw [hz2]; omega) (by unfold maxLen; omega) (Nat.le_refl _) ?_; intro w1 hown1 hgrow1)
  have hb : By w1 w.heap.size (n * 256) (fun _ => 0) := made_By hown1
  have hg := hgrow1
  have hsz : w.heap.size < w1.heap.size := hb.1
  clear hown1 hgrow1
  go_ret2
  refine ⟨w1.heap.size, w.heap.size, rfl, ⟨by simp, ?_, hb.kept (World.grownBy_alloc _ _ none) (by simp), by omega, fun i _ => ⟨by decide, by decide⟩⟩, hg.trans (World.grownBy_alloc _ _ none), by omega, by omega⟩
  show (match (w1.alloc _).heap[w1.heap.size]? with | some (Obj.cells c _ _) => c[0]? | _ => none) = _
  rw [heap_alloc_last]; rfl
end Go.Proofs.YtkbpnkjjmipjfaaGreat.F
namespace Go.Proofs.YtkbpnkjjmipjfaaGreat.F
open Go.ChangeShapes Go.WideShapes Go.ChangeAt Go.RowKit
set_option linter.unusedVariables false
set_option maxRecDepth 8192

theorem Byte_ok {w : World} {p g n : Nat} {f : Nat → Int} (hM : Mem w p g n f) (hn : n ≤ 4096) (pa : Nat) (hl : pa < n * 256) :
    Calls Tryz.prog 134 #[.pointer (some ⟨p, 0, none⟩), .int .u64 pa] w fun e w' => e = .returned (.tuple #[.int .u8 (f pa), .int .i64 0]) ∧ w' = w := by
  have hc := (hM.by'.2 pa hl).1
  have HM : Hid (Mem w p g n f) := hM
  clear hM
  go_enter Tryz.func134, Tryz.ntmps134
  go_wp2_with (go_at_call 175; refine (run_ok HM.out hn pa 1 (by omega) (by omega) (by omega)).mono ?_; rintro e w' ⟨rfl, rfl⟩)
  go_ret2
  exact ⟨rfl, rfl⟩
end Go.Proofs.YtkbpnkjjmipjfaaGreat.F
