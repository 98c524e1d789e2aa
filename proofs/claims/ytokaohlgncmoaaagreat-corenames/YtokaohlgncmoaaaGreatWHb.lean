/- The reference's memory: what its New, Frames, Byte, SetByte, Load and Store give back and write. -/
import Derived.Test.YtokaohlgncmoaaaGreatWHa
namespace Go.Proofs.YtokaohlgncmoaaaGreat.F
open Go.ChangeShapes Go.WideShapes Go.ChangeAt Go.RowKit
set_option linter.unusedVariables false
set_option maxRecDepth 8192

theorem Within_any (n a b : Int) (w : World) :
    Calls Tryz.prog 78 #[.int .i64 n, .int .i64 a, .int .i64 b] w fun e w' => e = .returned (.bool (inB n a b)) ∧ w' = w := by
  go_enter Tryz.func78, Tryz.ntmps78
  go_wp2
  all_goals (go_ret; exact ⟨ret_bool (by rw [Bool.eq_iff_iff]; simp [inB]; omega), rfl⟩)
theorem rNew_ok (n : Nat) (h1 : 1 ≤ n) (hn : n ≤ 4096) (w : World) :
    Calls Tryz.prog 34 #[.int .i64 n] w fun e w' => ∃ p g, e = .returned (.tuple #[.pointer (some ⟨p, 0, none⟩), .int .i64 0]) ∧ Mem w' p g n (fun _ => 0) ∧ w.grownBy w' none ∧ w.heap.size ≤ p ∧ w.heap.size ≤ g := by
  obtain ⟨i0, hi, hz0, hz1, hz2⟩ := info_parts Tryz.infoU
  have hb := inB_t (show (1 : Int) ≤ n by omega) (show (n : Int) ≤ 4096 by omega)
  go_enter Tryz.func34, Tryz.ntmps34
  go_wp2_with (first
    | (go_at_call 78; refine (Within_any _ _ _ _).mono ?_; rintro e w' ⟨rfl, rfl⟩)
    | (at_make; refine wpList_make_full _ rfl _ _ 41 rfl _ 5 i0 (.int .u8 0) 1 Tryz.underlying41 hi hz0 hz1 _ _ _ _ (n * 256) rfl rfl rfl rfl (by rw [hz2]; omega) (by unfold maxLen; omega) (Nat.le_refl _) ?_; intro w1 hown1 hgrow1))
  have hb : By w1 w'.heap.size (n * 256) (fun _ => 0) := made_By hown1
  have hg := hgrow1
  have hsz : w'.heap.size < w1.heap.size := hb.1
  clear hown1 hgrow1
  go_ret2
  refine ⟨w1.heap.size, w'.heap.size, rfl, ⟨by simp, ?_, hb.kept (World.grownBy_alloc _ _ none) (by simp), by omega, fun i _ => ⟨by decide, by decide⟩⟩, hg.trans (World.grownBy_alloc _ _ none), by omega, by omega⟩
  show (match (w1.alloc _).heap[w1.heap.size]? with | some (Obj.cells c _ _) => c[0]? | _ => none) = _
  rw [heap_alloc_last]; rfl
theorem rthere_any {w : World} {p g n : Nat} {f : Nat → Int} (hM : Mem w p g n f) (h1 : 1 ≤ n) (hn : n ≤ 4096) :
    Calls Tryz.prog 123 #[.pointer (some ⟨p, 0, none⟩)] w fun e w' => e = .returned (.bool true) ∧ w' = w := by
  have hc := hM.cell
  clear hM
  go_enter Tryz.func123, Tryz.ntmps123
  go_wp2
  go_ret
  exact ⟨ret_bool (by simp; omega), rfl⟩
theorem rthere_nil (w : World) :
    Calls Tryz.prog 123 #[.pointer none] w fun e w' => e = .returned (.bool false) ∧ w' = w := by
  go_enter Tryz.func123, Tryz.ntmps123
  go_wp2
  go_ret
  exact ⟨rfl, rfl⟩
theorem rByte_ok {w : World} {p g n : Nat} {f : Nat → Int} (hM : Mem w p g n f) (hn : n ≤ 4096) (pa : Nat) (hl : pa < n * 256) :
    Calls Tryz.prog 122 #[.pointer (some ⟨p, 0, none⟩), .int .u64 pa] w fun e w' => e = .returned (.tuple #[.int .u8 (f pa), .int .i64 0]) ∧ w' = w := by
  have hc := (hM.by'.2 pa hl).1
  have hd := hM.cell
  have HM : Hid (Mem w p g n f) := hM
  clear hM
  go_enter Tryz.func122, Tryz.ntmps122
  go_wp2_with (go_at_call 123; refine (rthere_any HM.out (by omega) hn).mono ?_; rintro e w' ⟨rfl, rfl⟩)
  go_ret2
  exact ⟨rfl, rfl⟩
theorem rByte_no {w : World} {p g n : Nat} {f : Nat → Int} (hM : Mem w p g n f) (h1 : 1 ≤ n) (hn : n ≤ 4096) (pa : Int) (hl : n * 256 ≤ pa) (h2 : pa < 18446744073709551616) :
    Calls Tryz.prog 122 #[.pointer (some ⟨p, 0, none⟩), .int .u64 pa] w fun e w' => e = .returned (.tuple #[.int .u8 0, .int .i64 10]) ∧ w' = w := by
  have hd := hM.cell
  have HM : Hid (Mem w p g n f) := hM
  clear hM
  go_enter Tryz.func122, Tryz.ntmps122
  go_wp2_with (go_at_call 123; refine (rthere_any HM.out (by omega) hn).mono ?_; rintro e w' ⟨rfl, rfl⟩)
  go_ret2
  exact ⟨rfl, rfl⟩
set_option maxRecDepth 100000 in
theorem rrun_any {w : World} {p g n : Nat} {f : Nat → Int} (hM : Mem w p g n f) (h1 : 1 ≤ n) (hn : n ≤ 4096) (pa size : Int) (h0 : 0 ≤ pa) (h2 : pa < 18446744073709551616) (hs0 : -9223372036854775808 ≤ size) (hs1 : size < 9223372036854775808) :
    Calls Tryz.prog 94 #[.pointer (some ⟨p, 0, none⟩), .int .u64 pa, .int .i64 size] w fun e w' => e = .returned (.int .i64 (runE n pa size)) ∧ w' = w := by
  have hd := hM.cell
  have HM : Hid (Mem w p g n f) := hM
  clear hM
  unfold runE
  by_cases a1 : pa < n * 256
  · obtain ⟨pa, rfl⟩ := Int.eq_ofNat_of_zero_le h0
    by_cases a2 : size < 1 ∨ 8 < size
    · rw [if_neg (by simpa using a1), if_pos a2]
      have hb := inB_f a2
      clear a2
      go_enter Tryz.func94, Tryz.ntmps94
      go_wp2_with fail
      refine (rByte_ok HM.out hn pa (by omega)).mono ?_
      rintro e w' ⟨rfl, rfl⟩
      go_wp2_with fail
      refine (Within_any _ _ _ _).mono ?_
      rintro e w' ⟨rfl, rfl⟩
      rw [hb]
      go_wp2
      go_ret
      exact ⟨rfl, rfl⟩
    · rw [if_neg (by simpa using a1), if_neg a2]
      obtain ⟨b1, b2⟩ : 1 ≤ size ∧ size ≤ 8 := by omega
      have hb := inB_t b1 b2
      clear a2 h0 h2 hs0 hs1
      obtain ⟨s, rfl⟩ := Int.eq_ofNat_of_zero_le (show 0 ≤ size by omega)
      have a5 : pa < n * 256 := by omega
      have a6 : 1 ≤ s ∧ s ≤ 8 := by omega
      clear a1 b1 b2
      by_cases a3 : (n : Int) * 256 < pa + s
      · rw [if_pos a3]
        have a4 : (n : Int) * 256 - pa < s := by omega
        clear a3
        go_enter Tryz.func94, Tryz.ntmps94
        go_wp2_with fail
        refine (rByte_ok HM.out hn pa (by omega)).mono ?_
        rintro e w' ⟨rfl, rfl⟩
        go_wp2_with fail
        refine (Within_any _ _ _ _).mono ?_
        rintro e w' ⟨rfl, rfl⟩
        rw [hb]
        go_wp2
        go_ret
        exact ⟨rfl, rfl⟩
      · rw [if_neg a3]
        have a4 : (s : Int) ≤ (n : Int) * 256 - pa := by omega
        clear a3
        go_enter Tryz.func94, Tryz.ntmps94
        go_wp2_with fail
        refine (rByte_ok HM.out hn pa (by omega)).mono ?_
        rintro e w' ⟨rfl, rfl⟩
        go_wp2_with fail
        refine (Within_any _ _ _ _).mono ?_
        rintro e w' ⟨rfl, rfl⟩
        rw [hb]
        go_wp2
        go_ret
        exact ⟨rfl, rfl⟩
  · rw [if_pos a1]
    go_enter Tryz.func94, Tryz.ntmps94
    go_wp2_with fail
    refine (rByte_no HM.out h1 hn pa (by omega) h2).mono ?_
    rintro e w' ⟨rfl, rfl⟩
    go_wp2
    go_ret
    exact ⟨rfl, rfl⟩
end Go.Proofs.YtokaohlgncmoaaaGreat.F
namespace Go.Proofs.YtokaohlgncmoaaaGreat.F
open Go.ChangeShapes Go.WideShapes Go.ChangeAt Go.RowKit
set_option linter.unusedVariables false
set_option maxRecDepth 8192

theorem runE_zero {n pa size : Nat} (h1 : 1 ≤ size) (h8 : size ≤ 8) (hl : pa + size ≤ n * 256) : runE n pa size = 0 := by
  unfold runE
  rw [if_neg (by omega), if_neg (by omega), if_neg (by omega)]
theorem num_front (f : Nat → Int) (a d : Nat) : num f a (d + 1) = num f (a + 1) d * 256 + f a := by
  rw [Nat.add_comm d 1, num_split f a 1 d]
  simp [num]
  omega
theorem div_next' (v : Int) (k : Nat) : v / 256 ^ k / 256 = v / 256 ^ (k + 1) := by
  rw [Int.ediv_ediv_of_nonneg (Int.le_of_lt (pow256 k)), Int.pow_succ]
theorem rLoad_no {w : World} {p g n : Nat} {f : Nat → Int} (hM : Mem w p g n f) (h1 : 1 ≤ n) (hn : n ≤ 4096) (pa size : Int) (h0 : 0 ≤ pa) (h2 : pa < 18446744073709551616) (hs0 : -9223372036854775808 ≤ size) (hs1 : size < 9223372036854775808) (he : runE n pa size ≠ 0) :
    Calls Tryz.prog 52 #[.pointer (some ⟨p, 0, none⟩), .int .u64 pa, .int .i64 size] w fun e w' => e = .returned (.tuple #[.int .u64 0, .int .i64 (runE n pa size)]) ∧ w' = w := by
  have C := rrun_any hM h1 hn pa size h0 h2 hs0 hs1
  generalize runE n pa size = r at *
  have hb : (r != 0) = true := by simpa using he
  go_enter Tryz.func52, Tryz.ntmps52
  go_wp2_with fail
  refine C.mono ?_
  rintro e w' ⟨rfl, rfl⟩
  go_wp2
  go_ret2
  exact ⟨rfl, rfl⟩
set_option maxRecDepth 100000 in
theorem rLoad_ok {w : World} {p g n : Nat} {f : Nat → Int} (hM : Mem w p g n f) (hn : n ≤ 4096) (pa size : Nat) (h1 : 1 ≤ size) (h8 : size ≤ 8) (hl : pa + size ≤ n * 256) :
    Calls Tryz.prog 52 #[.pointer (some ⟨p, 0, none⟩), .int .u64 pa, .int .i64 size] w fun e w' => e = .returned (.tuple #[.int .u64 (num f pa size), .int .i64 0]) ∧ w' = w := by
  have C := rrun_any hM (by omega) hn pa size (by omega) (by omega) (by omega) (by omega)
  rw [runE_zero h1 h8 hl] at C
  have HM : Hid (Mem w p g n f) := hM
  have hd := hM.cell
  clear hM
  have HC : Hid (Calls _ _ _ _ _) := C
  clear C
  go_enter Tryz.func52, Tryz.ntmps52
  go_wp2_with fail
  refine HC.out.mono ?_
  rintro e w' ⟨rfl, rfl⟩
  clear HC
  go_wp2_with fail
  go_loop [9, 10] (fun v i => ∃ k d : Nat, k + d = size ∧ i = .int .i64 ((k : Int) - 1) ∧ v = .int .u64 (num f (pa + k) d)) (fun _ i => (intOf i + 1).toNat)
  case atStart => exact ⟨size, 0, by omega, rfl, rfl⟩
  case round =>
    obtain ⟨k, d, hk, rfl, rfl⟩ := hrel
    cases k with
    | succ k =>
      have hc := (HM.out.by'.2 (pa + k) (by omega)).1
      obtain ⟨b0, b1⟩ := HM.out.ok (pa + k) (by omega)
      have HE : Hid _ := num_front f (pa + k) d
      obtain ⟨c0, c1⟩ := num_lt f (pa + k) (d + 1) (by omega) (fun i hi => HM.out.ok _ (by omega))
      obtain ⟨c2, c3⟩ := num_lt f (pa + k + 1) d (by omega) (fun i hi => HM.out.ok _ (by omega))
      rw [HE.out] at c0 c1
      rw [show pa + (k + 1) = pa + k + 1 by omega, show ((k + 1 : Nat) : Int) - 1 = k by omega]
      generalize num f (pa + k + 1) d = r at *
      go_wp2
      go_round
      case rel => exact ⟨k, d + 1, by omega, by go_num, by rw [HE.out]⟩
      case measure => simp [intOf]
    | zero =>
      obtain rfl : d = size := by omega
      go_wp2
      go_ret2
      exact ⟨rfl, rfl⟩
theorem rStore_no {w : World} {p g n : Nat} {f : Nat → Int} (hM : Mem w p g n f) (h1 : 1 ≤ n) (hn : n ≤ 4096) (pa size v : Int) (h0 : 0 ≤ pa) (h2 : pa < 18446744073709551616) (hs0 : -9223372036854775808 ≤ size) (hs1 : size < 9223372036854775808) (he : runE n pa size ≠ 0) :
    Calls Tryz.prog 51 #[.pointer (some ⟨p, 0, none⟩), .int .u64 pa, .int .i64 size, .int .u64 v] w fun e w' => e = .returned (.int .i64 (runE n pa size)) ∧ w' = w := by
  have C := rrun_any hM h1 hn pa size h0 h2 hs0 hs1
  generalize runE n pa size = r at *
  have hb : (r != 0) = true := by simpa using he
  go_enter Tryz.func51, Tryz.ntmps51
  go_wp2_with fail
  refine C.mono ?_
  rintro e w' ⟨rfl, rfl⟩
  go_wp2
  go_ret
  exact ⟨rfl, rfl⟩
set_option maxRecDepth 100000 in
theorem rStore_ok {w : World} {p g n : Nat} {f : Nat → Int} (hM : Mem w p g n f) (hn : n ≤ 4096) (pa size : Nat) (h1 : 1 ≤ size) (h8 : size ≤ 8) (hl : pa + size ≤ n * 256) (v : Int) (hv0 : 0 ≤ v) (hv1 : v < 18446744073709551616) :
    Calls Tryz.prog 51 #[.pointer (some ⟨p, 0, none⟩), .int .u64 pa, .int .i64 size, .int .u64 v] w fun e w' => e = .returned (.int .i64 0) ∧ Mem w' p g n (lay f pa size (byt v)) ∧ w.grownBy w' (some g) := by
  have C := rrun_any hM (by omega) hn pa size (by omega) (by omega) (by omega) (by omega)
  rw [runE_zero h1 h8 hl] at C
  have HM : Hid (Mem w p g n f) := hM
  clear hM
  have HC : Hid (Calls _ _ _ _ _) := C
  clear C
  go_enter Tryz.func51, Tryz.ntmps51
  go_wp2_with fail
  refine HC.out.mono ?_
  rintro e w' ⟨rfl, rfl⟩
  clear HC
  go_wp2_with fail
  go_loopw [3, 10] (fun u i wr => ∃ k : Nat, k ≤ size ∧ i = .int .i64 k ∧ u = .int .u64 (v / 256 ^ k) ∧ Mem wr p g n (lay f pa k (byt v)) ∧ w'.grownBy wr (some g)) (fun _ i _ => size - (intOf i).toNat)
  case atStart => exact ⟨0, by omega, rfl, by rw [Int.pow_zero, Int.ediv_one], ⟨HM.out.lt, HM.out.cell, HM.out.by'.congr (fun i _ => (lay_zero f pa _ i).symm), HM.out.ne, HM.out.ok.lay pa (byt_ok 0 v)⟩, World.grownBy.refl _ _⟩
  case round =>
    obtain ⟨k, hk, rfl, rfl, hb, hg⟩ := hrel
    have HB : Hid (Mem wr p g n (lay f pa k (byt v))) := hb
    have HG : Hid (w'.grownBy wr (some g)) := hg
    clear hb hg
    by_cases hlt : k < size
    · obtain ⟨hc, hf⟩ := HB.out.by'.2 (pa + k) (by omega)
      have hd := HB.out.cell
      generalize lay f pa k (byt v) (pa + k) = old at hc
      have HL : Hid (∃ lo : Int, lo = v / 256 ^ k) := ⟨_, rfl⟩
      obtain ⟨lo, hlo⟩ := HL
      have lo0 : 0 ≤ lo := by rw [hlo]; exact Int.ediv_nonneg hv0 (Int.le_of_lt (pow256 k))
      have lo1 : lo ≤ v := by rw [hlo]; exact Int.ediv_le_self _ hv0
      rw [← hlo]
      have HL : Hid (lo = v / 256 ^ k) := hlo
      clear hlo
      go_wp2
      go_roundw
      case rel =>
        have hb : byt v k = lo % 256 := by rw [HL.out]; rfl
        refine ⟨k + 1, by omega, by go_num, by rw [HL.out, div_next'], ?_, ?_⟩
        · rw [← hb]
          exact HB.out.turn (grown_setCell' _ _ _ _) ((HB.out.by'.set (pa + k) (byt v k)).congr (fun i _ => (lay_next f pa k _ i).symm)) (HM.out.ok.lay pa (byt_ok _ v))
        · exact HG.out.trans (grown_setCell' _ _ _ _)
      case measure => simp [intOf]; omega
    · obtain rfl : k = size := by omega
      generalize v / 256 ^ k = lo at *
      go_wp2
      go_ret
      exact ⟨rfl, HB.out, HG.out⟩
end Go.Proofs.YtokaohlgncmoaaaGreat.F
namespace Go.Proofs.YtokaohlgncmoaaaGreat.F
open Go.ChangeShapes Go.WideShapes Go.ChangeAt Go.RowKit
set_option linter.unusedVariables false
set_option maxRecDepth 8192
theorem make_run (n : Nat) (hn : n ≤ 1048576) (w : World) : (Instr.makeSlice 41 (.int .i64 n) (.int .i64 n)).run Tryz.prog w = .ok (.slice (some ⟨w.heap.size, 0, none⟩) n n) (w.alloc (.cells (vals n (fun _ => 0)).toArray 5)) := by
  obtain ⟨i0, hi, hz0, hz1, hz2⟩ := info_parts Tryz.infoU
  have h := run_makeSlice (P := Tryz.prog) w 41 5 i0 (.int .u8 0) Tryz.underlying41 hi hz0 .i64 .i64 n n (by omega) (by omega) (by rw [hz1]; simp; omega) (by rw [hz2]; omega) (by omega)
  rw [h]
  have e : madeCells (Value.int .u8 0).cells ((n : Int).toNat * i0.size) = (vals n (fun _ => 0)).toArray := by
    apply Array.toList_inj.1
    rw [hz1, Int.toNat_natCast]
    show (madeCells #[.int .u8 0] (n * 1)).toList = _
    rw [toList_madeCells_one, Nat.mul_one, vals_zero]
  rw [e, Int.toNat_natCast]

theorem some_ne' {a b : Nat} (h : a ≠ b) : some a ≠ some b := fun e => h (by injection e)
theorem grown_drewN' (w : World) (n : Nat) (row : Option Nat) : w.grownBy (w.drewN n) row := ⟨rfl, rfl, rfl, Nat.le_refl _, fun _ _ _ => rfl⟩
theorem rframe_nil (w : World) (k : Int) :
    Calls Tryz.prog 97 #[.pointer none, .int .i64 k] w fun e w' => e = .returned (.int .i64 1) ∧ w' = w := by
  go_enter Tryz.func97, Tryz.ntmps97
  go_wp2_with fail
  refine (rthere_nil w).mono ?_
  rintro e w' ⟨rfl, rfl⟩
  go_wp2
  go_ret
  exact ⟨rfl, rfl⟩
theorem rframe_any {w : World} {p g n : Nat} {f : Nat → Int} (hM : Mem w p g n f) (h1 : 1 ≤ n) (hn : n ≤ 4096) (k : Int) :
    Calls Tryz.prog 97 #[.pointer (some ⟨p, 0, none⟩), .int .i64 k] w fun e w' => e = .returned (.int .i64 (frE n k)) ∧ w' = w := by
  have hd := hM.cell
  have HM : Hid (Mem w p g n f) := hM
  clear hM
  have C := Within_any k 0 ((n : Int) - 1) w
  by_cases h : 0 ≤ k ∧ k < n
  · have e : frE n k = 0 := by unfold frE; rw [if_pos h]
    rw [e]
    rw [inB_t h.1 (show k ≤ (n : Int) - 1 by omega)] at C
    have HC : Hid (Calls _ _ _ _ _) := C
    clear C h e
    go_enter Tryz.func97, Tryz.ntmps97
    go_wp2_with fail
    refine (rthere_any HM.out h1 hn).mono ?_
    rintro e w' ⟨rfl, rfl⟩
    go_wp2_with fail
    refine HC.out.mono ?_
    rintro e w' ⟨rfl, rfl⟩
    go_wp2
    go_ret
    exact ⟨rfl, rfl⟩
  · have e : frE n k = 2 := by unfold frE; rw [if_neg h]
    rw [e]
    rw [inB_f (show k < 0 ∨ (n : Int) - 1 < k by omega)] at C
    have HC : Hid (Calls _ _ _ _ _) := C
    clear C h e
    go_enter Tryz.func97, Tryz.ntmps97
    go_wp2_with fail
    refine (rthere_any HM.out h1 hn).mono ?_
    rintro e w' ⟨rfl, rfl⟩
    go_wp2_with fail
    refine HC.out.mono ?_
    rintro e w' ⟨rfl, rfl⟩
    go_wp2
    go_ret
    exact ⟨rfl, rfl⟩
theorem frE_ok {n k : Nat} (h : k < n) : frE n k = 0 := by unfold frE; rw [if_pos (by omega)]
theorem frE_no {n : Nat} {k : Int} (h : ¬ (0 ≤ k ∧ k < n)) : frE n k = 2 := by unfold frE; rw [if_neg h]
theorem rPage_no {w : World} {p g n : Nat} {f : Nat → Int} (hM : Mem w p g n f) (h1 : 1 ≤ n) (hn : n ≤ 4096) (k : Int) (hk : ¬ (0 ≤ k ∧ k < n)) :
    Calls Tryz.prog 58 #[.pointer (some ⟨p, 0, none⟩), .int .i64 k] w fun e w' => e = .returned (.tuple #[.slice none 0 0, .int .i64 2]) ∧ w' = w := by
  have C := rframe_any hM h1 hn k
  rw [frE_no hk] at C
  go_enter Tryz.func58, Tryz.ntmps58
  go_wp2_with fail
  refine C.mono ?_
  rintro e w' ⟨rfl, rfl⟩
  go_wp2
  go_ret2
  exact ⟨rfl, rfl⟩
set_option maxRecDepth 100000 in
theorem rPage_ok {w : World} {p g n : Nat} {f : Nat → Int} (hM : Mem w p g n f) (hn : n ≤ 4096) (k : Nat) (hk : k < n) :
    Calls Tryz.prog 58 #[.pointer (some ⟨p, 0, none⟩), .int .i64 k] w fun e w' => ∃ b, e = .returned (.tuple #[.slice (some ⟨b, 0, none⟩) 256 256, .int .i64 0]) ∧ By w' b 256 (fun i => f (k * 256 + i)) ∧ w.grownBy w' none ∧ w.heap.size ≤ b := by
  have C := rframe_any hM (by omega) hn k
  rw [frE_ok hk] at C
  have HC : Hid (Calls _ _ _ _ _) := C
  clear C
  have HM : Hid (Mem w p g n f) := hM
  clear hM
  have m6 : ∀ w, (Instr.makeSlice 41 (.int .i64 256) (.int .i64 256)).run Tryz.prog w = .ok (.slice (some ⟨w.heap.size, 0, none⟩) 256 256) (w.alloc (.cells (vals 256 (fun _ => 0)).toArray 5)) := make_run 256 (by omega)
  have HN : Hid (∀ w : World, By (w.alloc (.cells (vals 256 (fun _ => 0)).toArray 5)) w.heap.size 256 (fun _ => 0)) := fun w => new_By
  generalize (vals 256 (fun _ => 0)).toArray = C6 at *
  go_enter Tryz.func58, Tryz.ntmps58
  go_wp2_with fail
  refine HC.out.mono ?_
  rintro e w' ⟨rfl, rfl⟩
  clear HC
  go_wp2_with fail
  go_loopw [8] (fun i wr => ∃ t : Nat, t ≤ 256 ∧ i = .int .i64 t ∧ By wr w'.heap.size 256 (lay (fun _ => 0) 0 t (fun i => f (k * 256 + i))) ∧ w'.grownBy wr none) (fun i _ => 256 - (intOf i).toNat)
  case atStart => exact ⟨0, by omega, rfl, (HN.out w').congr (fun i _ => (lay_zero (fun _ => 0) 0 _ i).symm), World.grownBy_alloc _ _ _⟩
  case round =>
    obtain ⟨t, ht, rfl, hb, hg⟩ := hrel
    have HB : Hid (By wr w'.heap.size 256 _) := hb
    have HG : Hid (w'.grownBy wr none) := hg
    clear hb hg
    have HM2 : Hid (Mem wr p g n f) := HM.out.kept HG.out (by simp) (by simp)
    by_cases hlt : t < 256
    · obtain ⟨hc, hf⟩ := HB.out.2 t hlt
      have hd := HM2.out.cell
      have hr := (HM2.out.by'.2 (k * 256 + t) (by omega)).1
      generalize lay (fun _ => 0) 0 t (fun i => f (k * 256 + i)) t = old at hc
      go_wp2
      go_roundw
      case rel =>
        refine ⟨t + 1, by omega, by go_num, ?_, ?_⟩
        · exact (HB.out.set t (f (k * 256 + t))).congr (fun i _ => by rw [lay_next, Nat.zero_add])
        · have g2 := grown_setCell' wr w'.heap.size t (.int .u8 (f (k * 256 + t)))
          exact ⟨g2.os.trans HG.out.os, g2.tape.trans HG.out.tape, g2.output.trans HG.out.output, Nat.le_trans HG.out.size g2.size, fun i hi _ => (g2.block i (Nat.lt_of_lt_of_le hi HG.out.size) (some_ne' (by omega))).trans (HG.out.block i hi (by simp))⟩
      case measure => simp [intOf]; omega
    · obtain rfl : t = 256 := by omega
      go_wp2
      go_ret2
      refine ⟨_, rfl, HB.out.congr (fun i hi => ?_), HG.out, Nat.le_refl _⟩
      unfold lay
      rw [if_pos (by omega), Nat.sub_zero]
set_option maxRecDepth 100000 in
set_option maxHeartbeats 1000000 in
theorem rPut_ok {w : World} {p g n : Nat} {f : Nat → Int} (hM : Mem w p g n f) (hn : n ≤ 4096) (k : Nat) (hk : k < n) (b off cap : Nat) (h : Nat → Int) (hr : Rd w b off 256 h) (hh : okB 256 h) (hbg : b ≠ g) :
    Calls Tryz.prog 84 #[.pointer (some ⟨p, 0, none⟩), .int .i64 k, .slice (some ⟨b, off, none⟩) 256 cap] w fun e w' => e = .returned (.int .i64 0) ∧ Mem w' p g n (lay f (k * 256) 256 h) ∧ w.grownBy w' (some g) := by
  have C := rframe_any hM (by omega) hn k
  rw [frE_ok hk] at C
  have HC : Hid (Calls _ _ _ _ _) := C
  clear C
  have HM : Hid (Mem w p g n f) := hM
  have HR : Hid (Rd w b off 256 h) := hr
  clear hM hr
  go_enter Tryz.func84, Tryz.ntmps84
  go_wp2_with fail
  refine HC.out.mono ?_
  rintro e w' ⟨rfl, rfl⟩
  clear HC
  go_wp2_with fail
  go_loopw [8] (fun i wr => ∃ t : Nat, t ≤ 256 ∧ i = .int .i64 t ∧ Mem wr p g n (lay f (k * 256) t h) ∧ w'.grownBy wr (some g)) (fun i _ => 256 - (intOf i).toNat)
  case atStart => exact ⟨0, by omega, rfl, ⟨HM.out.lt, HM.out.cell, HM.out.by'.congr (fun i _ => (lay_zero f _ _ i).symm), HM.out.ne, HM.out.ok.lay _ (fun i hi => by omega)⟩, World.grownBy.refl _ _⟩
  case round =>
    obtain ⟨t, ht, rfl, hb, hg⟩ := hrel
    have HB : Hid (Mem wr p g n _) := hb
    have HG : Hid (w'.grownBy wr (some g)) := hg
    clear hb hg
    by_cases hlt : t < 256
    · obtain ⟨hc, hf⟩ := HB.out.by'.2 (k * 256 + t) (by omega)
      have hd := HB.out.cell
      have hr := (HR.out.kept HG.out (some_ne' hbg)).2 t hlt
      generalize lay f (k * 256) t h (k * 256 + t) = old at hc
      go_wp2_with fail
      go_region
      go_wp2
      go_roundw
      case rel =>
        have G := grown_setCell' wr g (k * 256 + t) (.int .u8 (h t))
        refine ⟨t + 1, by omega, by go_num, ?_, ?_⟩
        · exact (HB.out.turn G ((HB.out.by'.set (k * 256 + t) (h t)).congr (fun i _ => (lay_next f (k * 256) t h i).symm)) (HM.out.ok.lay _ (fun i hi => hh i (by omega)))).kept (grown_drewN' _ _ none) (by simp) (by simp)
        · exact (HG.out.trans G).trans (grown_drewN' _ _ _)
      case measure => simp [intOf]; omega
    · obtain rfl : t = 256 := by omega
      go_wp2
      go_ret
      exact ⟨rfl, HB.out, HG.out⟩
theorem rCopy_ok {w : World} {p g n : Nat} {f : Nat → Int} (hM : Mem w p g n f) (hn : n ≤ 4096) (k j : Nat) (hk : k < n) (hj : j < n) :
    Calls Tryz.prog 83 #[.pointer (some ⟨p, 0, none⟩), .int .i64 k, .int .i64 j] w fun e w' => e = .returned (.int .i64 0) ∧ Mem w' p g n (lay f (k * 256) 256 (fun i => f (j * 256 + i))) ∧ w.grownBy w' (some g) := by
  have C := rframe_any hM (by omega) hn k
  rw [frE_ok hk] at C
  have HC : Hid (Calls _ _ _ _ _) := C
  clear C
  have HM : Hid (Mem w p g n f) := hM
  clear hM
  go_enter Tryz.func83, Tryz.ntmps83
  go_wp2_with fail
  refine HC.out.mono ?_
  rintro e w' ⟨rfl, rfl⟩
  clear HC
  go_wp2_with fail
  refine (rPage_ok HM.out hn j hj).mono ?_
  rintro e w2 ⟨b, rfl, hB, gr, hb⟩
  have HB : Hid (By w2 b 256 _) := hB
  have GR : Hid (w'.grownBy w2 none) := gr
  clear hB gr
  have hg := HM.out.by'.1
  go_wp2_with fail
  refine (rPut_ok (HM.out.kept GR.out (by simp) (by simp)) hn k hk b 0 256 _ HB.out.rd (fun i hi => HM.out.ok _ (by omega)) (by omega)).mono ?_
  rintro e w3 ⟨rfl, hM2, gr⟩
  have HM2 : Hid (Mem w3 p g n _) := hM2
  have GR2 : Hid (w2.grownBy w3 (some g)) := gr
  clear hM2 gr
  go_wp2
  go_ret
  exact ⟨rfl, HM2.out, (GR.out.but (some g)).trans GR2.out⟩
end Go.Proofs.YtokaohlgncmoaaaGreat.F
