/- The inner looks of package frames: the bytes from an address on, a frame's bytes; what New makes. -/
import Derived.Test.YtbfagelmijimeaaMem
namespace Go.Proofs.Ytbfagelmijimeaa
open Go.ChangeShapes Go.WideShapes Go.ChangeAt Go.RowKit
set_option linter.unusedVariables false

theorem ret_slice2 {a : Option Addr} {l l' c c' : Nat} {k : IntKind} {v : Int} (h : l = l') (h' : c = c') : Ending.returned (.tuple #[.slice a l c, .int k v]) = .returned (.tuple #[.slice a l' c', .int k v]) := by rw [h, h']
def runE (n : Nat) (pa size : Int) : Int := if ¬ pa < n * 256 then 10 else if size < 1 ∨ 8 < size then 2 else if n * 256 < pa + size then 10 else 0
theorem runE_ok {n : Nat} {pa size : Int} (h : runE n pa size = 0) : pa < n * 256 ∧ 1 ≤ size ∧ size ≤ 8 ∧ pa + size ≤ n * 256 := by
  unfold runE at h
  split at h
  · omega
  · split at h
    · omega
    · split at h <;> omega
theorem run_ok {w : World} {p g n : Nat} {f : Nat → Int} (hM : Mem w p g n f) (hn : n ≤ 4096) (pa size : Nat) (h1 : 1 ≤ size) (h8 : size ≤ 8) (hl : pa + size ≤ n * 256) :
    Calls Try.prog 34 #[.pointer (some ⟨p, 0, none⟩), .int .u64 pa, .int .i64 size] w fun e w' => e = .returned (.tuple #[.slice (some ⟨g, pa, none⟩) size size, .int .i64 0]) ∧ w' = w := by
  have hc := hM.cell
  have HM : Hid (Mem w p g n f) := hM
  clear hM
  go_enter Try.func34, Try.ntmps34
  go_wp2_with (first
    | (go_at_call 42; refine (made_any HM.out (by omega) hn).mono ?_; rintro e w' ⟨rfl, rfl⟩)
    | (go_at_call 43; refine (there_any HM.out hn _ (by omega) (by omega)).mono ?_; rintro e w' ⟨rfl, rfl⟩; rw [decide_eq_true (by omega)]))
  go_ret2
  exact ⟨ret_slice2 (by omega) (by omega), rfl⟩
theorem run_nil {w : World} {q : Option Addr} (hN : NoM w q) (pa size : Int) :
    Calls Try.prog 34 #[.pointer q, .int .u64 pa, .int .i64 size] w fun e w' => e = .returned (.tuple #[.slice none 0 0, .int .i64 1]) ∧ w' = w := by
  go_enter Try.func34, Try.ntmps34
  go_wp2_with (go_at_call 42; refine (made_nil hN).mono ?_; rintro e w' ⟨rfl, rfl⟩)
  go_ret2
  exact ⟨rfl, rfl⟩
theorem run_no {w : World} {p g n : Nat} {f : Nat → Int} (hM : Mem w p g n f) (h1 : 1 ≤ n) (hn : n ≤ 4096) (pa size : Int) (h0 : 0 ≤ pa) (h2 : pa < 18446744073709551616) (hs0 : -9223372036854775808 ≤ size) (hs1 : size < 9223372036854775808) (he : runE n pa size ≠ 0) :
    Calls Try.prog 34 #[.pointer (some ⟨p, 0, none⟩), .int .u64 pa, .int .i64 size] w fun e w' => e = .returned (.tuple #[.slice none 0 0, .int .i64 (runE n pa size)]) ∧ w' = w := by
  unfold runE at *
  by_cases a1 : pa < n * 256
  · by_cases a2 : size < 1 ∨ 8 < size
    · rw [if_neg (by simpa using a1), if_pos a2]
      clear he
      go_enter Try.func34, Try.ntmps34
      go_wp2_with (first
        | (go_at_call 42; refine (made_any hM (by omega) hn).mono ?_; rintro e w' ⟨rfl, rfl⟩)
        | (go_at_call 43; refine (there_any hM hn _ (by omega) (by omega)).mono ?_; rintro e w' ⟨rfl, rfl⟩; rw [decide_eq_true (by omega)]))
      all_goals (go_ret2; exact ⟨rfl, rfl⟩)
    · by_cases a3 : (n : Int) * 256 < pa + size
      · rw [if_neg (by simpa using a1), if_neg a2, if_pos a3]
        clear he
        obtain ⟨b1, b2⟩ : 1 ≤ size ∧ size ≤ 8 := by omega
        clear a2
        have hd : decide (pa + size - 1 < (n : Int) * 256) = false := by simp; omega
        go_enter Try.func34, Try.ntmps34
        go_wp2_with (first
          | (go_at_call 42; refine (made_any hM (by omega) hn).mono ?_; rintro e w' ⟨rfl, rfl⟩)
          | (go_at_call 43; refine (there_any hM hn _ (by omega) (by omega)).mono ?_; rintro e w' ⟨rfl, rfl⟩; first | rw [decide_eq_true (by omega)] | rw [decide_eq_false (by omega)]))
        go_ret2; exact ⟨rfl, rfl⟩
      · rw [if_neg (by simpa using a1), if_neg a2, if_neg a3] at he
        exact absurd rfl he
  · rw [if_pos a1]
    clear he
    go_enter Try.func34, Try.ntmps34
    go_wp2_with (first
      | (go_at_call 42; refine (made_any hM (by omega) hn).mono ?_; rintro e w' ⟨rfl, rfl⟩)
      | (go_at_call 43; refine (there_any hM hn _ (by omega) (by omega)).mono ?_; rintro e w' ⟨rfl, rfl⟩; rw [decide_eq_false (by omega)]))
    go_ret2; exact ⟨rfl, rfl⟩

theorem frame_ok {w : World} {p g n : Nat} {f : Nat → Int} (hM : Mem w p g n f) (hn : n ≤ 4096) (k : Nat) (hk : k < n) :
    Calls Try.prog 35 #[.pointer (some ⟨p, 0, none⟩), .int .i64 k] w fun e w' => e = .returned (.tuple #[.slice (some ⟨g, k * 256, none⟩) 256 256, .int .i64 0]) ∧ w' = w := by
  have hc := hM.cell
  have HM : Hid (Mem w p g n f) := hM
  clear hM
  go_enter Try.func35, Try.ntmps35
  go_wp2_with (first
    | (go_at_call 42; refine (made_any HM.out (by omega) hn).mono ?_; rintro e w' ⟨rfl, rfl⟩)
    | (go_at_call 44; refine (Place_ok k 0 (by omega) (by omega) (by omega) (by omega) _).mono ?_; rintro e w' ⟨rfl, rfl⟩; rw [Int.add_zero])
    | (go_at_call 43; refine (there_any HM.out hn _ (by omega) (by omega)).mono ?_; rintro e w' ⟨rfl, rfl⟩; rw [decide_eq_true (by omega)]))
  go_ret2
  exact ⟨ret_slice2 (by omega) (by omega), rfl⟩
def frE (n : Nat) (k : Int) : Int := if 0 ≤ k ∧ k < n then 0 else 2
theorem frame_nil {w : World} {q : Option Addr} (hN : NoM w q) (k : Int) :
    Calls Try.prog 35 #[.pointer q, .int .i64 k] w fun e w' => e = .returned (.tuple #[.slice none 0 0, .int .i64 1]) ∧ w' = w := by
  go_enter Try.func35, Try.ntmps35
  go_wp2_with (go_at_call 42; refine (made_nil hN).mono ?_; rintro e w' ⟨rfl, rfl⟩)
  go_ret2
  exact ⟨rfl, rfl⟩
theorem frame_no {w : World} {p g n : Nat} {f : Nat → Int} (hM : Mem w p g n f) (h1 : 1 ≤ n) (hn : n ≤ 4096) (k : Int) (hk : ¬ (0 ≤ k ∧ k < n)) :
    Calls Try.prog 35 #[.pointer (some ⟨p, 0, none⟩), .int .i64 k] w fun e w' => e = .returned (.tuple #[.slice none 0 0, .int .i64 2]) ∧ w' = w := by
  by_cases hp : 0 ≤ k ∧ k < 4096
  · obtain ⟨a, b⟩ := hp
    go_enter Try.func35, Try.ntmps35
    go_wp2_with (first
      | (go_at_call 42; refine (made_any hM (by omega) hn).mono ?_; rintro e w' ⟨rfl, rfl⟩)
      | (go_at_call 44; refine (Place_ok k 0 (by omega) (by omega) (by omega) (by omega) _).mono ?_; rintro e w' ⟨rfl, rfl⟩; rw [Int.add_zero])
      | (go_at_call 43; refine (there_any hM hn _ (by omega) (by omega)).mono ?_; rintro e w' ⟨rfl, rfl⟩; rw [decide_eq_false (by omega)]))
    go_ret2
    exact ⟨rfl, rfl⟩
  · go_enter Try.func35, Try.ntmps35
    go_wp2_with (first
      | (go_at_call 42; refine (made_any hM (by omega) hn).mono ?_; rintro e w' ⟨rfl, rfl⟩)
      | (go_at_call 44; refine (Place_no k 0 (by omega) _).mono ?_; rintro e w' ⟨rfl, rfl⟩))
    go_ret2
    exact ⟨rfl, rfl⟩
theorem New_no (n : Int) (h : n < 1 ∨ 4096 < n) (w : World) :
    Calls Try.prog 8 #[.int .i64 n] w fun e w' => e = .returned (.tuple #[.pointer none, .int .i64 2]) ∧ w' = w := by
  go_enter Try.func8, Try.ntmps8
  go_wp2
  all_goals (go_ret2; exact ⟨rfl, rfl⟩)
theorem Try.infoU : (Try.prog.info? 5).map (fun i => (i.zero, i.size, i.bytes)) = some (some (.int .u8 0), 1, 1) := by kernel_rfl
theorem made_By {w : World} {base g M : Nat} (h : w.ownsRow base 5 1 (.slice (some ⟨g, 0, none⟩) M M) M (madeCells #[.int .u8 0] (M * 1)).toList) : By w g M (fun _ => 0) := by
  rcases h.2 with ⟨hnil, _⟩ | ⟨g', cap', cur, hv, hbase, hb, h1, h2, h3, h4⟩
  · cases hnil
  · cases hv
    rw [toList_madeCells_one] at h4
    refine ⟨(Array.getElem?_eq_some_iff.1 hb).1, fun k hk => ?_⟩
    have hcur : cur[k]? = some (.int .u8 0) := by
      rw [← Array.getElem?_toList, ← List.getElem?_take_of_lt (show k < M * 1 by omega), h4]
      simp [hk]
    simp [World.cell?, World.frozen?, hb, hcur]
theorem New_ok (n : Nat) (h1 : 1 ≤ n) (hn : n ≤ 4096) (w : World) :
    Calls Try.prog 8 #[.int .i64 n] w fun e w' => ∃ p g, e = .returned (.tuple #[.pointer (some ⟨p, 0, none⟩), .int .i64 0]) ∧ Mem w' p g n (fun _ => 0) ∧ w.grownBy w' none ∧ w.heap.size ≤ p ∧ w.heap.size ≤ g := by
  obtain ⟨i0, hi, hz0, hz1, hz2⟩ := info_parts Try.infoU
  go_enter Try.func8, Try.ntmps8
  go_wp2_with (at_make; refine wpList_make_full _ rfl _ _ 33 rfl w.heap.size 5 i0 (.int .u8 0) 1 Try.underlying33 hi hz0 hz1 _ _ _ _ (n * 256) rfl rfl rfl rfl (by rw [hz2]; omega) (by unfold maxLen; omega) (Nat.le_refl _) ?_; intro w1 hown1 hgrow1)
  have hb : By w1 w.heap.size (n * 256) (fun _ => 0) := made_By hown1
  have hg := hgrow1
  have hsz : w.heap.size < w1.heap.size := hb.1
  clear hown1 hgrow1
  go_ret2
  refine ⟨w1.heap.size, w.heap.size, rfl, ⟨by simp, ?_, hb.kept (World.grownBy_alloc _ _ none) (by simp), by omega, fun i _ => ⟨by decide, by decide⟩⟩, hg.trans (World.grownBy_alloc _ _ none), by omega, by omega⟩
  show (match (w1.alloc _).heap[w1.heap.size]? with | some (Obj.cells c _ _) => c[0]? | _ => none) = _
  rw [heap_alloc_last]; rfl
end Go.Proofs.Ytbfagelmijimeaa
