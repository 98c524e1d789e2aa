/- What Zero, Copy, Page and Put of package frames give back and write. -/
import Derived.Test.YtbfagelmijimeaaCal
namespace Go.Proofs.Ytbfagelmijimeaa
open Go.ChangeShapes Go.WideShapes Go.ChangeAt Go.RowKit
set_option linter.unusedVariables false

theorem Try.zeroU : (Try.prog.info? 5).map (fun i => (i.zero, i.size)) = some (some (.int .u8 0), 1) := by kernel_rfl
theorem vals_zero (m : Nat) : List.replicate m (Value.int .u8 0) = vals m (fun _ => 0) := by
  simp only [vals, List.map_const', List.length_range]
theorem Zero_ok {w : World} {p g n : Nat} {f : Nat → Int} (hM : Mem w p g n f) (hn : n ≤ 4096) (k : Nat) (hk : k < n) :
    Calls Try.prog 23 #[.pointer (some ⟨p, 0, none⟩), .int .i64 k] w fun e w' => e = .returned (.int .i64 0) ∧ Mem w' p g n (lay f (k * 256) 256 (fun _ => 0)) ∧ w.grownBy w' (some g) := by
  have hcl : ∀ ty, (Builtin.clear_ #[33] ty #[.slice (some ⟨g, k * 256, none⟩) 256 256]).run Try.prog w = .ok (.tuple #[]) (w.setCells g (k * 256) (vals 256 (fun _ => 0))) := fun ty => by
    rw [← vals_zero]
    exact Lib.run_clear_slice w 33 5 ty (.int .u8 0) Try.underlying33 (zero_of_info Try.zeroU).1 rfl rfl g (k * 256) 256 256 (by decide) (fun j hj => by rw [(hM.by'.2 _ (by omega)).1]; rfl) (fun j hj => (hM.by'.2 _ (by omega)).2)
  have HM : Hid (Mem w p g n f) := hM
  clear hM
  have HZ : Hid (By (w.setCells g (k * 256) (vals 256 (fun _ => 0))) g (n * 256) (lay f (k * 256) 256 (fun _ => 0))) := HM.out.by'.cells _ _ _ (by omega)
  have HG : Hid (w.grownBy (w.setCells g (k * 256) (vals 256 (fun _ => 0))) (some g)) := grown_setCells _ _ _ _
  generalize w.setCells g (k * 256) (vals 256 (fun _ => 0)) = wz at *
  go_enter Try.func23, Try.ntmps23
  go_wp2_with (go_at_call 35; refine (frame_ok HM.out hn k hk).mono ?_; rintro e w' ⟨rfl, rfl⟩)
  go_ret
  exact ⟨rfl, HM.out.turn HG.out HZ.out (HM.out.ok.lay _ (fun _ _ => ⟨by decide, by decide⟩)), HG.out⟩
theorem Zero_no {w : World} {p g n : Nat} {f : Nat → Int} (hM : Mem w p g n f) (h1 : 1 ≤ n) (hn : n ≤ 4096) (k : Int) (hk : ¬ (0 ≤ k ∧ k < n)) :
    Calls Try.prog 23 #[.pointer (some ⟨p, 0, none⟩), .int .i64 k] w fun e w' => e = .returned (.int .i64 2) ∧ w' = w := by
  go_enter Try.func23, Try.ntmps23
  go_wp2_with (go_at_call 35; refine (frame_no hM h1 hn k hk).mono ?_; rintro e w' ⟨rfl, rfl⟩)
  go_ret
  exact ⟨rfl, rfl⟩
theorem Zero_nil {w : World} {q : Option Addr} (hN : NoM w q) (k : Int) :
    Calls Try.prog 23 #[.pointer q, .int .i64 k] w fun e w' => e = .returned (.int .i64 1) ∧ w' = w := by
  go_enter Try.func23, Try.ntmps23
  go_wp2_with (go_at_call 35; refine (frame_nil hN k).mono ?_; rintro e w' ⟨rfl, rfl⟩)
  go_ret
  exact ⟨rfl, rfl⟩
theorem Copy_ok {w : World} {p g n : Nat} {f : Nat → Int} (hM : Mem w p g n f) (hn : n ≤ 4096) (k j : Nat) (hk : k < n) (hj : j < n) :
    Calls Try.prog 19 #[.pointer (some ⟨p, 0, none⟩), .int .i64 k, .int .i64 j] w fun e w' => e = .returned (.int .i64 0) ∧ Mem w' p g n (lay f (k * 256) 256 (fun i => f (j * 256 + i))) ∧ w.grownBy w' (some g) := by
  have hcp : ∀ ty, (Builtin.copy_ #[33, 33] ty #[.slice (some ⟨g, k * 256, none⟩) 256 256, .slice (some ⟨g, j * 256, none⟩) 256 256]).run Try.prog w = .ok (goInt 256) (w.setCells g (k * 256) (vals 256 (fun i => f (j * 256 + i)))) := fun ty => by
    have e : Result.ok (goInt (vals 256 (fun i => f (j * 256 + i))).length) (w.setCells g (k * 256) (vals 256 (fun i => f (j * 256 + i)))) = Result.ok (goInt 256) (w.setCells g (k * 256) (vals 256 (fun i => f (j * 256 + i)))) := by rw [vals_len]; rfl
    rw [← e]
    exact run_copy_cells w 33 33 ty 5 g (k * 256) 256 256 ⟨g, j * 256, none⟩ 256 256 (vals 256 (fun i => f (j * 256 + i))) Try.underlying33 (zero_of_info Try.zeroU).2 (by rw [vals_len]; rfl)
      (fun i v hv => by
        have hi : i < 256 := by have := (List.getElem?_eq_some_iff.1 hv).1; rwa [vals_len] at this
        rw [vals_get _ _ _ hi] at hv
        rw [Go.WideShapes.add_plain, ← hv]
        exact (hM.by'.2 _ (by omega)).1)
      (fun i hi => by rw [vals_len] at hi; rw [(hM.by'.2 _ (by omega)).1]; rfl) (fun i hi => by rw [vals_len] at hi; exact (hM.by'.2 _ (by omega)).2) (vals_one _ _)
  have HM : Hid (Mem w p g n f) := hM
  clear hM
  have HZ : Hid (By (w.setCells g (k * 256) (vals 256 (fun i => f (j * 256 + i)))) g (n * 256) (lay f (k * 256) 256 (fun i => f (j * 256 + i)))) := HM.out.by'.cells _ _ _ (by omega)
  have HG : Hid (w.grownBy (w.setCells g (k * 256) (vals 256 (fun i => f (j * 256 + i)))) (some g)) := grown_setCells _ _ _ _
  generalize w.setCells g (k * 256) (vals 256 (fun i => f (j * 256 + i))) = wz at *
  go_enter Try.func19, Try.ntmps19
  go_wp2_with fail
  refine (frame_ok HM.out hn k hk).mono ?_
  rintro e w' ⟨rfl, rfl⟩
  go_wp2_with fail
  refine (frame_ok HM.out hn j hj).mono ?_
  rintro e w' ⟨rfl, rfl⟩
  go_wp2
  go_ret
  exact ⟨rfl, HM.out.turn HG.out HZ.out (HM.out.ok.lay _ (fun i _ => HM.out.ok _ (by omega))), HG.out⟩
theorem Copy_no {w : World} {p g n : Nat} {f : Nat → Int} (hM : Mem w p g n f) (h1 : 1 ≤ n) (hn : n ≤ 4096) (k j : Int) (hk : ¬ (0 ≤ k ∧ k < n ∧ 0 ≤ j ∧ j < n)) :
    Calls Try.prog 19 #[.pointer (some ⟨p, 0, none⟩), .int .i64 k, .int .i64 j] w fun e w' => e = .returned (.int .i64 2) ∧ w' = w := by
  by_cases h : 0 ≤ k ∧ k < n
  · obtain ⟨k0, k1⟩ := h
    obtain ⟨k, rfl⟩ := Int.eq_ofNat_of_zero_le k0
    go_enter Try.func19, Try.ntmps19
    go_wp2_with fail
    refine (frame_ok hM hn k (by omega)).mono ?_
    rintro e w' ⟨rfl, rfl⟩
    go_wp2_with fail
    refine (frame_no hM h1 hn j (by omega)).mono ?_
    rintro e w' ⟨rfl, rfl⟩
    go_wp2
    go_ret
    exact ⟨rfl, rfl⟩
  · go_enter Try.func19, Try.ntmps19
    go_wp2_with (go_at_call 35; refine (frame_no hM h1 hn k h).mono ?_; rintro e w' ⟨rfl, rfl⟩)
    go_ret
    exact ⟨rfl, rfl⟩
theorem Copy_nil {w : World} {q : Option Addr} (hN : NoM w q) (k j : Int) :
    Calls Try.prog 19 #[.pointer q, .int .i64 k, .int .i64 j] w fun e w' => e = .returned (.int .i64 1) ∧ w' = w := by
  go_enter Try.func19, Try.ntmps19
  go_wp2_with (go_at_call 35; refine (frame_nil hN k).mono ?_; rintro e w' ⟨rfl, rfl⟩)
  go_ret
  exact ⟨rfl, rfl⟩
theorem Page_no {w : World} {p g n : Nat} {f : Nat → Int} (hM : Mem w p g n f) (h1 : 1 ≤ n) (hn : n ≤ 4096) (k : Int) (hk : ¬ (0 ≤ k ∧ k < n)) :
    Calls Try.prog 20 #[.pointer (some ⟨p, 0, none⟩), .int .i64 k] w fun e w' => e = .returned (.tuple #[.slice none 0 0, .int .i64 2]) ∧ w' = w := by
  go_enter Try.func20, Try.ntmps20
  go_wp2_with (go_at_call 35; refine (frame_no hM h1 hn k hk).mono ?_; rintro e w' ⟨rfl, rfl⟩)
  go_ret2
  exact ⟨rfl, rfl⟩
theorem Page_nil {w : World} {q : Option Addr} (hN : NoM w q) (k : Int) :
    Calls Try.prog 20 #[.pointer q, .int .i64 k] w fun e w' => e = .returned (.tuple #[.slice none 0 0, .int .i64 1]) ∧ w' = w := by
  go_enter Try.func20, Try.ntmps20
  go_wp2_with (go_at_call 35; refine (frame_nil hN k).mono ?_; rintro e w' ⟨rfl, rfl⟩)
  go_ret2
  exact ⟨rfl, rfl⟩
theorem Put_no {w : World} {p g n : Nat} {f : Nat → Int} (hM : Mem w p g n f) (h1 : 1 ≤ n) (hn : n ≤ 4096) (k : Int) (hk : ¬ (0 ≤ k ∧ k < n)) (b : Value) :
    Calls Try.prog 22 #[.pointer (some ⟨p, 0, none⟩), .int .i64 k, b] w fun e w' => e = .returned (.int .i64 2) ∧ w' = w := by
  go_enter Try.func22, Try.ntmps22
  go_wp2_with (go_at_call 35; refine (frame_no hM h1 hn k hk).mono ?_; rintro e w' ⟨rfl, rfl⟩)
  go_ret
  exact ⟨rfl, rfl⟩
theorem Put_nil {w : World} {q : Option Addr} (hN : NoM w q) (k : Int) (b : Value) :
    Calls Try.prog 22 #[.pointer q, .int .i64 k, b] w fun e w' => e = .returned (.int .i64 1) ∧ w' = w := by
  go_enter Try.func22, Try.ntmps22
  go_wp2_with (go_at_call 35; refine (frame_nil hN k).mono ?_; rintro e w' ⟨rfl, rfl⟩)
  go_ret
  exact ⟨rfl, rfl⟩
theorem Put_len {w : World} {p g n : Nat} {f : Nat → Int} (hM : Mem w p g n f) (h1 : 1 ≤ n) (hn : n ≤ 4096) (k : Nat) (hk : k < n) (ao : Option Addr) (len cap : Nat) (hl : len ≠ 256) (hlm : len ≤ maxLen) :
    Calls Try.prog 22 #[.pointer (some ⟨p, 0, none⟩), .int .i64 k, .slice ao len cap] w fun e w' => e = .returned (.int .i64 2) ∧ w' = w := by
  have hb : ((len : Int) != 256) = true := by rw [bne_iff_ne]; omega
  unfold maxLen at hlm
  go_enter Try.func22, Try.ntmps22
  go_wp2_with (go_at_call 35; refine (frame_ok hM hn k hk).mono ?_; rintro e w' ⟨rfl, rfl⟩)
  go_ret
  exact ⟨rfl, rfl⟩
end Go.Proofs.Ytbfagelmijimeaa
