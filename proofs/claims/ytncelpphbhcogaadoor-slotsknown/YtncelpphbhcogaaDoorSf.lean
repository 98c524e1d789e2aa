/- What New makes; no condition but that the number may be, or may not. -/
import Derived.Test.YtncelpphbhcogaaDoorSe
namespace Go.Proofs.YtncelpphbhcogaaDoor.Z
open Go.ChangeShapes Go.WideShapes Go.ChangeAt Go.RowKit
set_option linter.unusedVariables false
set_option maxRecDepth 8192

theorem New_no (n : Int) (h : n < 0 ∨ 1024 < n) (w : World) : Calls Tryd.prog 6 #[.int .i64 n] w fun e w' => e = .returned (.tuple #[.pointer none, .int .i64 2]) ∧ w' = w := by
  go_enter Tryd.func6, Tryd.ntmps6
  go_wp2
  all_goals (go_ret2; exact ⟨rfl, rfl⟩)
theorem Tryd.infoU64 : (Tryd.prog.info? 47).map (fun i => (i.zero, i.size, i.bytes)) = some (some (.int .u64 0), 1, 8) := by kernel_rfl
theorem make_words (n : Nat) (hn : n ≤ 4096) (w : World) : (Instr.makeSlice 44 (.int .i64 n) (.int .i64 n)).run Tryd.prog w = .ok (.slice (some ⟨w.heap.size, 0, none⟩) n n) (w.alloc (.cells (wv (List.replicate n 0)).toArray 47)) := by
  have e0 : wv (List.replicate n 0) = List.replicate n (.int .u64 0) := by unfold wv; rw [List.map_replicate]; rfl
  rw [e0]
  obtain ⟨i0, hi, hz0, hz1, hz2⟩ := info_parts Tryd.infoU64
  have h := run_makeSlice (P := Tryd.prog) w 44 47 i0 (.int .u64 0) Tryd.underlying44 hi hz0 .i64 .i64 n n (by omega) (by omega) (by rw [hz1]; simp; omega) (by rw [hz2]; omega) (by omega)
  rw [h]
  have e : madeCells (Value.int .u64 0).cells ((n : Int).toNat * i0.size) = (List.replicate n (.int .u64 0)).toArray := by
    apply Array.toList_inj.1
    rw [hz1, Int.toNat_natCast]
    show (madeCells #[.int .u64 0] (n * 1)).toList = _
    rw [toList_madeCells_one, Nat.mul_one]
  rw [e, Int.toNat_natCast]
/-- The slots below k free, the others not yet. -/
def cl (n k : Nat) : List Bool := List.replicate k false ++ List.replicate (n - k) true
theorem cl_len {n k : Nat} (h : k ≤ n) : (cl n k).length = n := by unfold cl; simp; omega
theorem cl_zero (n : Nat) : cl n 0 = List.replicate n true := rfl
theorem cl_all (n : Nat) : cl n n = nw n := by unfold cl nw; simp
theorem cl_step {n k : Nat} (h : k < n) : (cl n k).set k false = cl n (k + 1) := cl_set n k h
/-- What stands while New sets bit after bit. -/
structure Nu (w wr : World) (s g n m k : Nat) (W : List Nat) : Prop where
  be : Below w.heap.size w wr
  ls : w.heap.size ≤ s
  lg : w.heap.size ≤ g
  st : Blk wr s 46 [.int .i64 n, .slice (some ⟨g, 0, none⟩) m m]
  wd : Blk wr g 47 (wv W)
  ne : s ≠ g
  ws : Wd W (cl n k)
  l : W.length = m
theorem Nu.step {w wr : World} {s g n m k : Nat} {W : List Nat} (h : Nu w wr s g n m k W) (hk : k < n) : Nu w (wr.drew.setCell ⟨g, k / 64, none⟩ (.int .u64 ((W.getD (k / 64) 0 ||| 2 ^ (k % 64) : Nat) : Int))) s g n m (k + 1) (W.set (k / 64) (W.getD (k / 64) 0 ||| 2 ^ (k % 64))) := by
  have hg := grown_setCell' wr.drew g (k / 64) (.int .u64 ((W.getD (k / 64) 0 ||| 2 ^ (k % 64) : Nat) : Int))
  have hd : Below w.heap.size w wr.drew := h.be.drew
  refine ⟨hd.trans (below_setCell h.lg hd.size _ _), h.ls, h.lg, h.st.drew.kept hg (some_ne h.ne), ?_, h.ne, ?_, by rw [List.length_set]; exact h.l⟩
  · have := h.wd.drew.set (k / 64) (.int .u64 ((W.getD (k / 64) 0 ||| 2 ^ (k % 64) : Nat) : Int))
    rwa [wv_set] at this
  · have := Wd.give h.ws (k := k) (by rw [cl_len (by omega)]; exact hk)
    rwa [cl_step hk] at this
theorem New_ok {n : Nat} (hn : n ≤ 1024) (w : World) : Calls Tryd.prog 6 #[.int .i64 (n : Int)] w fun e w' => ∃ s g W, e = .returned (.tuple #[.pointer (some ⟨s, 0, none⟩), .int .i64 0]) ∧ Sl w' s g (nw n) W ∧ w.heap.size ≤ s ∧ w.heap.size ≤ g ∧ Below w.heap.size w w' := by
  have hm : ((n : Int) + 64 - 1) / 64 = (((n + 63) / 64 : Nat) : Int) := by omega
  have m6 := make_words ((n + 63) / 64) (by omega)
  obtain ⟨m, hmm⟩ : ∃ m, (n + 63) / 64 = m := ⟨_, rfl⟩
  have hm16 : m ≤ 16 := by omega
  have hnm : n ≤ 64 * m := by omega
  rw [hmm] at hm m6
  have N0 : Hid (Nu w ((w.alloc (.cells (wv (List.replicate m 0)).toArray 47)).alloc (.cells #[.int .i64 n, .slice (some ⟨w.heap.size, 0, none⟩) m m] 46)) (w.heap.size + 1) w.heap.size n m 0 (List.replicate m 0)) := by
    have b1 := below1 w (.cells (wv (List.replicate m 0)).toArray 47)
    have b2 := below1 (w.alloc (.cells (wv (List.replicate m 0)).toArray 47)) (.cells #[.int .i64 n, .slice (some ⟨w.heap.size, 0, none⟩) m m] 46)
    have k1 := blk_new w (wv (List.replicate m 0)) 47
    have k2 := blk_new (w.alloc (.cells (wv (List.replicate m 0)).toArray 47)) [.int .i64 n, .slice (some ⟨w.heap.size, 0, none⟩) m m] 46
    rw [World.size_alloc] at k2
    exact ⟨bs b1 b2, by omega, by omega, k2, k1.below b2, by omega, wd_all n m hnm, by simp⟩
  clear hmm
  go_enter Tryd.func6, Tryd.ntmps6
  go_wp2
  generalize ((w.alloc (.cells (wv (List.replicate m 0)).toArray 47)).alloc (.cells #[.int .i64 n, .slice (some ⟨w.heap.size, 0, none⟩) m m] 46)) = w0 at *
  obtain ⟨s, hs⟩ : ∃ s, w.heap.size + 1 = s := ⟨_, rfl⟩
  obtain ⟨g, hgg⟩ : ∃ g, w.heap.size = g := ⟨_, rfl⟩
  rw [hs, hgg] at N0
  rw [hs]
  clear hs hgg hm m6 hnm
  go_loopw [21] (fun i wr => ∃ k W, k ≤ n ∧ i = .int .i64 (k : Nat) ∧ Nu w wr s g n m k W) (fun i _ => n - (intOf i).toNat)
  case atStart => exact ⟨0, _, by omega, rfl, N0.out⟩
  case round =>
    obtain ⟨k, W, hk, rfl, hN⟩ := hrel
    by_cases hlt : k < n
    · have HS := hN.step hlt
      have c1 : wr.cell? ⟨s, 1, none⟩ = some (.slice (some ⟨g, 0, none⟩) m m) := hN.st.cell 1
      have hkw := hN.ws.word (k := k) (by rw [cl_len (by omega)]; exact hlt)
      have cw : wr.cell? ⟨g, k / 64, none⟩ = some (.int .u64 (W.getD (k / 64) 0 : Nat)) := (hN.wd.cell _).trans (wv_at hkw)
      have hfz := hN.wd.frozen (k / 64)
      have hor := bits_or_u64_nat (W.getD (k / 64) 0) (2 ^ (k % 64)) hN.ws.lt (Nat.lt_of_lt_of_le (Nat.pow_lt_pow_right (by omega) (Nat.mod_lt _ (by omega))) (by decide))
      have HB : Hid (∀ w, Calls Tryd.prog 19 #[.int .i64 (k : Int)] w fun e w' => e = .returned (.int .u64 ((2 ^ (k % 64) : Nat) : Int)) ∧ w' = w) := fun w => bit_any k (by omega) w
      have hdv : (k : Int) / 64 = ((k / 64 : Nat) : Int) := by omega
      rw [hN.l] at hkw
      have HN : Hid (Nu w _ s g n m (k + 1) _) := HS
      generalize 2 ^ (k % 64) = pw at *
      generalize W.getD (k / 64) 0 = wd at *
      generalize wd ||| pw = wx at *
      obtain ⟨j, hj⟩ : ∃ j, k / 64 = j := ⟨_, rfl⟩
      rw [hj] at hdv hkw cw hfz HN
      clear hN hj HS
      have b0 : (0 : Int) ≤ (j : Int) := by omega
      have b1 : (j : Int) < (m : Int) := by omega
      have b2 : (0 : Int) ≤ (k : Int) / 64 := by omega
      have b3 : (k : Int) / 64 < (m : Int) := by omega
      have b5 : IntKind.i64.wrap (j : Int) = j := by simp (disch := omega) only [IntWalk.i64_in]
      go_wp2
      go_region_with ((go_at_call 19; refine (HB.out _).mono ?_; rintro e w' ⟨rfl, rfl⟩))
      all_goals
        go_wp2
        go_roundw
        case rel => exact ⟨k + 1, _, by omega, by go_num, HN.out⟩
        case measure => simp [intOf]; omega
    · obtain rfl : k = n := by omega
      have HQ : Hid (Sl wr s g (nw k) W ∧ w.heap.size ≤ s ∧ w.heap.size ≤ g ∧ Below w.heap.size w wr) := by
        have e : (nw k).length = k := nw_len k
        refine ⟨⟨?_, hN.wd, hN.ne, ?_, by rw [e]; exact hn, by rw [hN.l]; exact hm16⟩, hN.ls, hN.lg, hN.be⟩
        · rw [e, hN.l]; exact hN.st
        · rw [← cl_all]; exact hN.ws
      clear hN
      go_wp2
      go_ret2
      exact ⟨s, g, W, rfl, HQ.out.1, HQ.out.2.1, HQ.out.2.2.1, HQ.out.2.2.2⟩
end Go.Proofs.YtncelpphbhcogaaDoor.Z
