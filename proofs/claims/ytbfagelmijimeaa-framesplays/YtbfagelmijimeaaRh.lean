/- The reference's memory: what its Page, Put, Zero and Copy give back and write. -/
import Derived.Test.YtbfagelmijimeaaRg
namespace Go.Proofs.Ytbfagelmijimeaa
open Go.ChangeShapes Go.WideShapes Go.ChangeAt Go.RowKit
set_option linter.unusedVariables false

theorem some_ne' {a b : Nat} (h : a ≠ b) : some a ≠ some b := fun e => h (by injection e)
theorem grown_drewN' (w : World) (n : Nat) (row : Option Nat) : w.grownBy (w.drewN n) row := ⟨rfl, rfl, rfl, Nat.le_refl _, fun _ _ _ => rfl⟩
theorem rframe_nil (w : World) (k : Int) :
    Calls Try.prog 39 #[.pointer none, .int .i64 k] w fun e w' => e = .returned (.int .i64 1) ∧ w' = w := by
  go_enter Try.func39, Try.ntmps39
  go_wp2_with fail
  refine (rthere_nil w).mono ?_
  rintro e w' ⟨rfl, rfl⟩
  go_wp2
  go_ret
  exact ⟨rfl, rfl⟩
theorem rframe_any {w : World} {p g n : Nat} {f : Nat → Int} (hM : Mem w p g n f) (h1 : 1 ≤ n) (hn : n ≤ 4096) (k : Int) :
    Calls Try.prog 39 #[.pointer (some ⟨p, 0, none⟩), .int .i64 k] w fun e w' => e = .returned (.int .i64 (frE n k)) ∧ w' = w := by
  have hd := hM.cell
  have HM : Hid (Mem w p g n f) := hM
  clear hM
  have C := Within_any k 0 ((n : Int) - 1) w
  by_cases h : 0 ≤ k ∧ k < n
  · have e : frE n k = 0 := by unfold frE; rw [if_pos h]
    rw [e]
    rw [inB_t h.1 (show k ≤ (n : Int) - 1 by omega)] at C
    have HC : Hid (Calls _ _ _ _ _) := C
    clear C h e
    go_enter Try.func39, Try.ntmps39
    go_wp2_with fail
    refine (rthere_any HM.out h1 hn).mono ?_
    rintro e w' ⟨rfl, rfl⟩
    go_wp2_with fail
    refine HC.out.mono ?_
    rintro e w' ⟨rfl, rfl⟩
    go_wp2
    go_ret
    exact ⟨rfl, rfl⟩
  · have e : frE n k = 2 := by unfold frE; rw [if_neg h]
    rw [e]
    rw [inB_f (show k < 0 ∨ (n : Int) - 1 < k by omega)] at C
    have HC : Hid (Calls _ _ _ _ _) := C
    clear C h e
    go_enter Try.func39, Try.ntmps39
    go_wp2_with fail
    refine (rthere_any HM.out h1 hn).mono ?_
    rintro e w' ⟨rfl, rfl⟩
    go_wp2_with fail
    refine HC.out.mono ?_
    rintro e w' ⟨rfl, rfl⟩
    go_wp2
    go_ret
    exact ⟨rfl, rfl⟩
theorem frE_ok {n k : Nat} (h : k < n) : frE n k = 0 := by unfold frE; rw [if_pos (by omega)]
theorem frE_no {n : Nat} {k : Int} (h : ¬ (0 ≤ k ∧ k < n)) : frE n k = 2 := by unfold frE; rw [if_neg h]
theorem rPage_nil (w : World) (k : Int) :
    Calls Try.prog 33 #[.pointer none, .int .i64 k] w fun e w' => e = .returned (.tuple #[.slice none 0 0, .int .i64 1]) ∧ w' = w := by
  go_enter Try.func33, Try.ntmps33
  go_wp2_with fail
  refine (rframe_nil w k).mono ?_
  rintro e w' ⟨rfl, rfl⟩
  go_wp2
  go_ret2
  exact ⟨rfl, rfl⟩
theorem rPage_no {w : World} {p g n : Nat} {f : Nat → Int} (hM : Mem w p g n f) (h1 : 1 ≤ n) (hn : n ≤ 4096) (k : Int) (hk : ¬ (0 ≤ k ∧ k < n)) :
    Calls Try.prog 33 #[.pointer (some ⟨p, 0, none⟩), .int .i64 k] w fun e w' => e = .returned (.tuple #[.slice none 0 0, .int .i64 2]) ∧ w' = w := by
  have C := rframe_any hM h1 hn k
  rw [frE_no hk] at C
  go_enter Try.func33, Try.ntmps33
  go_wp2_with fail
  refine C.mono ?_
  rintro e w' ⟨rfl, rfl⟩
  go_wp2
  go_ret2
  exact ⟨rfl, rfl⟩
set_option maxRecDepth 100000 in
theorem rPage_ok {w : World} {p g n : Nat} {f : Nat → Int} (hM : Mem w p g n f) (hn : n ≤ 4096) (k : Nat) (hk : k < n) :
    Calls Try.prog 33 #[.pointer (some ⟨p, 0, none⟩), .int .i64 k] w fun e w' => ∃ b, e = .returned (.tuple #[.slice (some ⟨b, 0, none⟩) 256 256, .int .i64 0]) ∧ By w' b 256 (fun i => f (k * 256 + i)) ∧ w.grownBy w' none ∧ w.heap.size ≤ b := by
  have C := rframe_any hM (by omega) hn k
  rw [frE_ok hk] at C
  have HC : Hid (Calls _ _ _ _ _) := C
  clear C
  have HM : Hid (Mem w p g n f) := hM
  clear hM
  have m6 : ∀ w, (Instr.makeSlice 33 (.int .i64 256) (.int .i64 256)).run Try.prog w = .ok (.slice (some ⟨w.heap.size, 0, none⟩) 256 256) (w.alloc (.cells (vals 256 (fun _ => 0)).toArray 5)) := make_run 256 (by omega)
  have HN : Hid (∀ w : World, By (w.alloc (.cells (vals 256 (fun _ => 0)).toArray 5)) w.heap.size 256 (fun _ => 0)) := fun w => new_By
  generalize (vals 256 (fun _ => 0)).toArray = C6 at *
  go_enter Try.func33, Try.ntmps33
  go_wp2_with fail
  refine HC.out.mono ?_
  rintro e w' ⟨rfl, rfl⟩
  clear HC
  go_wp2_with fail
  go_loopw [8] (fun i wr => ∃ t : Nat, t ≤ 256 ∧ i = .int .i64 t ∧ By wr w'.heap.size 256 (lay (fun _ => 0) 0 t (fun i => f (k * 256 + i))) ∧ w'.grownBy wr none) (fun i _ => 256 - (intOf i).toNat)
  case atStart => exact ⟨0, by omega, rfl, (HN.out w').congr (fun i _ => (lay_zero (fun _ => 0) 0 _ i).symm), World.grownBy_alloc _ _ _⟩
  case round =>
    obtain ⟨t, ht, rfl, hb, hg⟩ := hrel
    have HB : Hid (By wr w'.heap.size 256 _) := hb
    have HG : Hid (w'.grownBy wr none) := hg
    clear hb hg
    have HM2 : Hid (Mem wr p g n f) := HM.out.kept HG.out (by simp) (by simp)
    by_cases hlt : t < 256
    · obtain ⟨hc, hf⟩ := HB.out.2 t hlt
      have hd := HM2.out.cell
      have hr := (HM2.out.by'.2 (k * 256 + t) (by omega)).1
      generalize lay (fun _ => 0) 0 t (fun i => f (k * 256 + i)) t = old at hc
      go_wp2
      go_roundw
      case rel =>
        refine ⟨t + 1, by omega, by go_num, ?_, ?_⟩
        · exact (HB.out.set t (f (k * 256 + t))).congr (fun i _ => by rw [lay_next, Nat.zero_add])
        · have g2 := grown_setCell' wr w'.heap.size t (.int .u8 (f (k * 256 + t)))
          exact ⟨g2.os.trans HG.out.os, g2.tape.trans HG.out.tape, g2.output.trans HG.out.output, Nat.le_trans HG.out.size g2.size, fun i hi _ => (g2.block i (Nat.lt_of_lt_of_le hi HG.out.size) (some_ne' (by omega))).trans (HG.out.block i hi (by simp))⟩
      case measure => simp [intOf]; omega
    · obtain rfl : t = 256 := by omega
      go_wp2
      go_ret2
      refine ⟨_, rfl, HB.out.congr (fun i hi => ?_), HG.out, Nat.le_refl _⟩
      unfold lay
      rw [if_pos (by omega), Nat.sub_zero]
theorem rPut_nil (w : World) (k : Int) (b : Value) :
    Calls Try.prog 38 #[.pointer none, .int .i64 k, b] w fun e w' => e = .returned (.int .i64 1) ∧ w' = w := by
  go_enter Try.func38, Try.ntmps38
  go_wp2_with fail
  refine (rframe_nil w k).mono ?_
  rintro e w' ⟨rfl, rfl⟩
  go_wp2
  go_ret
  exact ⟨rfl, rfl⟩
theorem rPut_no {w : World} {p g n : Nat} {f : Nat → Int} (hM : Mem w p g n f) (h1 : 1 ≤ n) (hn : n ≤ 4096) (k : Int) (hk : ¬ (0 ≤ k ∧ k < n)) (b : Value) :
    Calls Try.prog 38 #[.pointer (some ⟨p, 0, none⟩), .int .i64 k, b] w fun e w' => e = .returned (.int .i64 2) ∧ w' = w := by
  have C := rframe_any hM h1 hn k
  rw [frE_no hk] at C
  go_enter Try.func38, Try.ntmps38
  go_wp2_with fail
  refine C.mono ?_
  rintro e w' ⟨rfl, rfl⟩
  go_wp2
  go_ret
  exact ⟨rfl, rfl⟩
theorem rPut_len {w : World} {p g n : Nat} {f : Nat → Int} (hM : Mem w p g n f) (h1 : 1 ≤ n) (hn : n ≤ 4096) (k : Nat) (hk : k < n) (ao : Option Addr) (len cap : Nat) (hl : len ≠ 256) (hlm : len ≤ maxLen) :
    Calls Try.prog 38 #[.pointer (some ⟨p, 0, none⟩), .int .i64 k, .slice ao len cap] w fun e w' => e = .returned (.int .i64 2) ∧ w' = w := by
  have C := rframe_any hM h1 hn k
  rw [frE_ok hk] at C
  have hb : ((len : Int) != 256) = true := by rw [bne_iff_ne]; omega
  unfold maxLen at hlm
  go_enter Try.func38, Try.ntmps38
  go_wp2_with fail
  refine C.mono ?_
  rintro e w' ⟨rfl, rfl⟩
  go_wp2
  go_ret
  exact ⟨rfl, rfl⟩
set_option maxRecDepth 100000 in
set_option maxHeartbeats 1000000 in
theorem rPut_ok {w : World} {p g n : Nat} {f : Nat → Int} (hM : Mem w p g n f) (hn : n ≤ 4096) (k : Nat) (hk : k < n) (b off cap : Nat) (h : Nat → Int) (hr : Rd w b off 256 h) (hh : okB 256 h) (hbg : b ≠ g) :
    Calls Try.prog 38 #[.pointer (some ⟨p, 0, none⟩), .int .i64 k, .slice (some ⟨b, off, none⟩) 256 cap] w fun e w' => e = .returned (.int .i64 0) ∧ Mem w' p g n (lay f (k * 256) 256 h) ∧ w.grownBy w' (some g) := by
  have C := rframe_any hM (by omega) hn k
  rw [frE_ok hk] at C
  have HC : Hid (Calls _ _ _ _ _) := C
  clear C
  have HM : Hid (Mem w p g n f) := hM
  have HR : Hid (Rd w b off 256 h) := hr
  clear hM hr
  go_enter Try.func38, Try.ntmps38
  go_wp2_with fail
  refine HC.out.mono ?_
  rintro e w' ⟨rfl, rfl⟩
  clear HC
  go_wp2_with fail
  go_loopw [8] (fun i wr => ∃ t : Nat, t ≤ 256 ∧ i = .int .i64 t ∧ Mem wr p g n (lay f (k * 256) t h) ∧ w'.grownBy wr (some g)) (fun i _ => 256 - (intOf i).toNat)
  case atStart => exact ⟨0, by omega, rfl, ⟨HM.out.lt, HM.out.cell, HM.out.by'.congr (fun i _ => (lay_zero f _ _ i).symm), HM.out.ne, HM.out.ok.lay _ (fun i hi => by omega)⟩, World.grownBy.refl _ _⟩
  case round =>
    obtain ⟨t, ht, rfl, hb, hg⟩ := hrel
    have HB : Hid (Mem wr p g n _) := hb
    have HG : Hid (w'.grownBy wr (some g)) := hg
    clear hb hg
    by_cases hlt : t < 256
    · obtain ⟨hc, hf⟩ := HB.out.by'.2 (k * 256 + t) (by omega)
      have hd := HB.out.cell
      have hr := (HR.out.kept HG.out (some_ne' hbg)).2 t hlt
      generalize lay f (k * 256) t h (k * 256 + t) = old at hc
      go_wp2_with fail
      go_region
      go_wp2
      go_roundw
      case rel =>
        have G := grown_setCell' wr g (k * 256 + t) (.int .u8 (h t))
        refine ⟨t + 1, by omega, by go_num, ?_, ?_⟩
        · exact (HB.out.turn G ((HB.out.by'.set (k * 256 + t) (h t)).congr (fun i _ => (lay_next f (k * 256) t h i).symm)) (HM.out.ok.lay _ (fun i hi => hh i (by omega)))).kept (grown_drewN' _ _ none) (by simp) (by simp)
        · exact (HG.out.trans G).trans (grown_drewN' _ _ _)
      case measure => simp [intOf]; omega
    · obtain rfl : t = 256 := by omega
      go_wp2
      go_ret
      exact ⟨rfl, HB.out, HG.out⟩
theorem rZero_nil (w : World) (k : Int) :
    Calls Try.prog 30 #[.pointer none, .int .i64 k] w fun e w' => e = .returned (.int .i64 1) ∧ w.grownBy w' none := by
  have m6 : ∀ w, (Instr.makeSlice 33 (.int .i64 256) (.int .i64 256)).run Try.prog w = .ok (.slice (some ⟨w.heap.size, 0, none⟩) 256 256) (w.alloc (.cells (vals 256 (fun _ => 0)).toArray 5)) := make_run 256 (by omega)
  generalize (vals 256 (fun _ => 0)).toArray = C6 at *
  go_enter Try.func30, Try.ntmps30
  go_wp2_with fail
  refine (rPut_nil _ k _).mono ?_
  rintro e w' ⟨rfl, rfl⟩
  go_wp2
  go_ret
  exact ⟨rfl, World.grownBy_alloc _ _ _⟩
theorem rZero_no {w : World} {p g n : Nat} {f : Nat → Int} (hM : Mem w p g n f) (h1 : 1 ≤ n) (hn : n ≤ 4096) (k : Int) (hk : ¬ (0 ≤ k ∧ k < n)) :
    Calls Try.prog 30 #[.pointer (some ⟨p, 0, none⟩), .int .i64 k] w fun e w' => e = .returned (.int .i64 2) ∧ w.grownBy w' none := by
  have m6 : ∀ w, (Instr.makeSlice 33 (.int .i64 256) (.int .i64 256)).run Try.prog w = .ok (.slice (some ⟨w.heap.size, 0, none⟩) 256 256) (w.alloc (.cells (vals 256 (fun _ => 0)).toArray 5)) := make_run 256 (by omega)
  generalize (vals 256 (fun _ => 0)).toArray = C6 at *
  go_enter Try.func30, Try.ntmps30
  go_wp2_with fail
  refine (rPut_no (hM.kept (World.grownBy_alloc _ _ none) (by simp) (by simp)) h1 hn k hk _).mono ?_
  rintro e w' ⟨rfl, rfl⟩
  go_wp2
  go_ret
  exact ⟨rfl, World.grownBy_alloc _ _ _⟩
theorem rZero_ok {w : World} {p g n : Nat} {f : Nat → Int} (hM : Mem w p g n f) (hn : n ≤ 4096) (k : Nat) (hk : k < n) :
    Calls Try.prog 30 #[.pointer (some ⟨p, 0, none⟩), .int .i64 k] w fun e w' => e = .returned (.int .i64 0) ∧ Mem w' p g n (lay f (k * 256) 256 (fun _ => 0)) ∧ w.grownBy w' (some g) := by
  have m6 : ∀ w, (Instr.makeSlice 33 (.int .i64 256) (.int .i64 256)).run Try.prog w = .ok (.slice (some ⟨w.heap.size, 0, none⟩) 256 256) (w.alloc (.cells (vals 256 (fun _ => 0)).toArray 5)) := make_run 256 (by omega)
  have HN : Hid (By (w.alloc (.cells (vals 256 (fun _ => 0)).toArray 5)) w.heap.size 256 (fun _ => 0)) := new_By
  generalize (vals 256 (fun _ => 0)).toArray = C6 at *
  have hg := hM.by'.1
  have HM : Hid (Mem w p g n f) := hM
  clear hM
  go_enter Try.func30, Try.ntmps30
  go_wp2_with fail
  refine (rPut_ok (HM.out.kept (World.grownBy_alloc _ _ none) (by simp) (by simp)) hn k hk w.heap.size 0 256 (fun _ => 0) HN.out.rd (fun _ _ => ⟨Int.le_refl 0, by show (0 : Int) < 256; decide⟩) (by omega)).mono ?_
  rintro e w' ⟨rfl, hM2, gr⟩
  have HM2 : Hid (Mem w' p g n _) := hM2
  have GR : Hid (World.grownBy _ w' (some g)) := gr
  clear hM2 gr
  go_wp2
  go_ret
  exact ⟨rfl, HM2.out, (World.grownBy_alloc _ _ _).trans GR.out⟩
theorem rCopy_nil (w : World) (k j : Int) :
    Calls Try.prog 31 #[.pointer none, .int .i64 k, .int .i64 j] w fun e w' => e = .returned (.int .i64 1) ∧ w' = w := by
  go_enter Try.func31, Try.ntmps31
  go_wp2_with fail
  refine (rframe_nil w k).mono ?_
  rintro e w' ⟨rfl, rfl⟩
  go_wp2
  go_ret
  exact ⟨rfl, rfl⟩
theorem rCopy_no {w : World} {p g n : Nat} {f : Nat → Int} (hM : Mem w p g n f) (h1 : 1 ≤ n) (hn : n ≤ 4096) (k j : Int) (hk : ¬ (0 ≤ k ∧ k < n ∧ 0 ≤ j ∧ j < n)) :
    Calls Try.prog 31 #[.pointer (some ⟨p, 0, none⟩), .int .i64 k, .int .i64 j] w fun e w' => e = .returned (.int .i64 2) ∧ w' = w := by
  have C := rframe_any hM h1 hn k
  by_cases h : 0 ≤ k ∧ k < n
  · rw [show frE n k = 0 by unfold frE; rw [if_pos h]] at C
    go_enter Try.func31, Try.ntmps31
    go_wp2_with fail
    refine C.mono ?_
    rintro e w' ⟨rfl, rfl⟩
    go_wp2_with fail
    refine (rPage_no hM h1 hn j (by omega)).mono ?_
    rintro e w' ⟨rfl, rfl⟩
    go_wp2
    go_ret
    exact ⟨rfl, rfl⟩
  · rw [frE_no h] at C
    go_enter Try.func31, Try.ntmps31
    go_wp2_with fail
    refine C.mono ?_
    rintro e w' ⟨rfl, rfl⟩
    go_wp2
    go_ret
    exact ⟨rfl, rfl⟩
theorem rCopy_ok {w : World} {p g n : Nat} {f : Nat → Int} (hM : Mem w p g n f) (hn : n ≤ 4096) (k j : Nat) (hk : k < n) (hj : j < n) :
    Calls Try.prog 31 #[.pointer (some ⟨p, 0, none⟩), .int .i64 k, .int .i64 j] w fun e w' => e = .returned (.int .i64 0) ∧ Mem w' p g n (lay f (k * 256) 256 (fun i => f (j * 256 + i))) ∧ w.grownBy w' (some g) := by
  have C := rframe_any hM (by omega) hn k
  rw [frE_ok hk] at C
  have HC : Hid (Calls _ _ _ _ _) := C
  clear C
  have HM : Hid (Mem w p g n f) := hM
  clear hM
  go_enter Try.func31, Try.ntmps31
  go_wp2_with fail
  refine HC.out.mono ?_
  rintro e w' ⟨rfl, rfl⟩
  clear HC
  go_wp2_with fail
  refine (rPage_ok HM.out hn j hj).mono ?_
  rintro e w2 ⟨b, rfl, hB, gr, hb⟩
  have HB : Hid (By w2 b 256 _) := hB
  have GR : Hid (w'.grownBy w2 none) := gr
  clear hB gr
  have hg := HM.out.by'.1
  go_wp2_with fail
  refine (rPut_ok (HM.out.kept GR.out (by simp) (by simp)) hn k hk b 0 256 _ HB.out.rd (fun i hi => HM.out.ok _ (by omega)) (by omega)).mono ?_
  rintro e w3 ⟨rfl, hM2, gr⟩
  have HM2 : Hid (Mem w3 p g n _) := hM2
  have GR2 : Hid (w2.grownBy w3 (some g)) := gr
  clear hM2 gr
  go_wp2
  go_ret
  exact ⟨rfl, HM2.out, (GR.out.but (some g)).trans GR2.out⟩
end Go.Proofs.Ytbfagelmijimeaa
