/- The library's sort at a row of spans, as addr.Tables calls it: the row then holds the same spans, their first pages rising; for every row of up to 1024 spans that the call itself made. -/
import Derived.Test.YthmcempfiimkkabTall
import Derived.Test.YthmcempfiimkkabLay
namespace Go.Proofs.Ythmcempfiimkkab
open Go.Shelf Go.RowKit Go.Lib Go.Sort
set_option linter.unusedVariables false

theorem isNaN_any (a : Int) (w : World) : Calls Try.prog 29 #[.int .i64 a] w fun e w' => e = .returned (.bool false) ∧ w' = w := by
  have h : (a != a) = false := by simp
  go_enter Try.func29, Try.ntmps29
  go_wp2
  go_ret
  exact ⟨rfl, rfl⟩
theorem Compare_any (a b : Int) (w : World) : Calls Try.prog 18 #[.int .i64 a, .int .i64 b] w fun e w' => e = .returned (.int .i64 (compareInt a b)) ∧ w' = w := by
  by_cases c1 : a < b
  · have hr : compareInt a b = -1 := by simp [compareInt, c1]
    rw [hr]
    go_enter Try.func18, Try.ntmps18
    go_wp2_with (go_at_call 29; refine (isNaN_any _ _).mono ?_; rintro e w' ⟨rfl, rfl⟩)
    go_ret
    exact ⟨rfl, rfl⟩
  · by_cases c2 : b < a
    · have hr : compareInt a b = 1 := by simp [compareInt, c1, c2]
      rw [hr]
      go_enter Try.func18, Try.ntmps18
      go_wp2_with (go_at_call 29; refine (isNaN_any _ _).mono ?_; rintro e w' ⟨rfl, rfl⟩)
      go_ret
      exact ⟨rfl, rfl⟩
    · have hr : compareInt a b = 0 := by simp [compareInt, c1, c2]
      rw [hr]
      go_enter Try.func18, Try.ntmps18
      go_wp2_with (go_at_call 29; refine (isNaN_any _ _).mono ?_; rintro e w' ⟨rfl, rfl⟩)
      go_ret
      exact ⟨rfl, rfl⟩
theorem cmp_lt (x y : Int × Int) : ltOf (fun x y : Int × Int => compareInt x.1 y.1) x y = decide (x.1 < y.1) := by
  unfold ltOf compareInt
  by_cases h1 : x.1 < y.1
  · simp [h1]
  · by_cases h2 : y.1 < x.1 <;> simp [h1, h2]
theorem cmp_swo : SWO (ltOf fun x y : Int × Int => compareInt x.1 y.1) := by
  refine ⟨fun x => ?_, fun x y z h1 h2 => ?_, fun x y z h1 h2 => ?_⟩ <;> simp only [cmp_lt, decide_eq_true_eq, decide_eq_false_iff_not] at * <;> omega
def encS (x : Int × Int) : List Value := [.int .i64 x.1, .int .i64 x.2]
set_option maxHeartbeats 1000000 in
theorem closure_any (x y : Int × Int) (W : World) : Calls Try.prog 17 #[.agg #[.int .i64 x.1, .int .i64 x.2], .agg #[.int .i64 y.1, .int .i64 y.2]] W fun e w' => e = .returned (.int .i64 (compareInt x.1 y.1)) ∧ ∃ q os', w' = grow (W.drewN q) os' := by
  have hc := fun w => Compare_any x.1 y.1 w
  generalize compareInt x.1 y.1 = r at hc ⊢
  have Hc : Hid _ := hc
  clear hc
  go_enter Try.func17, Try.ntmps17
  go_wp2_with (go_at_call 18; refine (Hc.out _).mono ?_; rintro e w' ⟨rfl, rfl⟩)
  go_ret
  exact ⟨rfl, 0, _, by rw [alloc_eq_grow, alloc_eq_grow, grow_grow]; rfl⟩
theorem isAggS (w : World) : (isAgg 24).run Try.prog w = .ok true w := by kernel_rfl
theorem sizeOfS (w : World) : (Go.sizeOf 24).run Try.prog w = .ok 2 w := by kernel_rfl

theorem flat_get : ∀ (ys : List (Int × Int)) (t : Nat), t < ys.length * 2 → (flat ys)[t]? = some ((encS (ys.toArray[t / 2]!))[t % 2]!)
  | [], t, h => by simp at h
  | y :: ys, 0, _ => by simp [flat, encS]
  | y :: ys, 1, _ => by simp [flat, encS]
  | y :: ys, t + 2, h => by
    have ih := flat_get ys t (by simp at h; omega)
    have e1 : (flat (y :: ys))[t + 2]? = (flat ys)[t]? := by simp [flat]
    have e2 : (t + 2) / 2 = t / 2 + 1 := by omega
    have e3 : (t + 2) % 2 = t % 2 := by omega
    rw [e1, ih, e2, e3]
    simp
theorem flat_length (ys : List (Int × Int)) : (flat ys).length = ys.length * 2 := by
  induction ys with
  | nil => rfl
  | cons y ys ih => simp [flat] at ih ⊢; omega
theorem holds_of_owns {w : World} {g : Nat} {cur : Array Value} {ys : List (Int × Int)} (hb : w.heap[g]? = some (.cells cur 24 (0, 0))) (ht : cur.toList.take (ys.length * 2) = flat ys) : HoldsK encS 2 w g 0 ys.toArray := by
  intro j hj
  rw [size_flatK] at hj
  have hj' : j < ys.length * 2 := by simpa using hj
  have hcur : cur[j]? = some ((encS (ys.toArray[j / 2]!))[j % 2]!) := by
    rw [← flat_get ys j hj', ← ht, List.getElem?_take_of_lt hj', Array.getElem?_toList]
  rw [get_flatK _ _ _ _ (by simpa using hj')]
  simp [World.cell?, World.frozen?, hb, hcur]

theorem below_sorted {w : World} {g n base : Nat} {os : Array Obj} (d : Array (Int × Int)) (hg : base ≤ g) (hs : g < w.heap.size) : Go.RowKit.Below base w (sortWorldK encS 2 w g 0 n d os) := by
  have hsz : w.heap.size ≤ (sortWorldK encS 2 w g 0 n d os).heap.size := by
    unfold sortWorldK; rw [size_grow, size_putRowK]; exact Nat.le_add_right w.heap.size _
  refine ⟨rfl, rfl, rfl, hsz, fun k hk => ?_⟩
  unfold sortWorldK
  rw [heap_grow_old _ _ (by rw [size_putRowK]; exact Nat.lt_trans (Nat.lt_of_lt_of_le hk hg) hs)]
  have : g ≠ k := by omega
  simp [putRowK, putRow, mapBlock, Sort.ahead, Array.getElem?_modify, this]

set_option maxHeartbeats 1000000 in
theorem srt : Srt := by
  intro base g cap ys w hown hlen
  rcases hown.2 with ⟨hnil, _⟩ | ⟨g', cap', cur, hv, hbase, hb, h1, h2, h3, h4⟩
  · cases hnil
  · cases hv
    have hH : HoldsK encS 2 w g 0 ys.toArray := holds_of_owns hb h4
    have hblk : g < w.heap.size := (Array.getElem?_eq_some_iff.1 hb).1
    have eg : ∀ args w, (callFunc 17 args).run Try.prog w = .ok (.enter 17 args) w := enters_of Try.func17 (by kernel_rfl) rfl
    have hcon := AnyQ.slices_SortFunc sortS 2 isAggS sizeOfS encS (fun _ => rfl) (fun x v hv => by simp [encS] at hv; rcases hv with rfl | rfl <;> rfl) (fun x y => compareInt x.1 y.1) cmp_swo 17 #[] g 0 cap ys.toArray w eg (fun _ _ _ _ x y => closure_any x y _) hH hblk (by simp; omega)
    refine hcon.mono ?_
    rintro e w' ⟨rfl, d', n, os, hp, hs, rfl⟩
    obtain ⟨hsz, _, hperm⟩ := hp
    have hsz' : d'.size = ys.length := hsz
    refine ⟨rfl, d'.toList, ?_, ?_, below_sorted d' hbase hblk, ?_, ?_⟩
    · have e1 : d'.extract 0 ys.toArray.size = d' := by rw [← hsz]; exact Array.extract_size
      have e2 : ys.toArray.extract 0 ys.toArray.size = ys.toArray := Array.extract_size
      rw [e1, e2] at hperm
      exact hperm
    · rw [List.pairwise_iff_getElem]
      intro i j hi hj hij
      have := hs i j (Nat.zero_le _) hij (by rw [← hsz]; simpa using hj)
      rw [cmp_lt] at this
      simp at hi hj
      rw [getElem!_pos d' i hi, getElem!_pos d' j hj] at this
      simp at this ⊢
      exact this
    · unfold sortWorldK; rw [size_grow, size_putRowK]; exact Nat.lt_of_lt_of_le hblk (Nat.le_add_right w.heap.size _)
    · intro i hi
      have hi' : i < d'.size := by simpa using hi
      have hh := holdsK_sortWorldK_c encS 2 w g 0 ys.toArray d' n os hH hblk hsz
      have c0 := (hh.cell hi' (show 0 < 2 by omega)).1
      have c1 := (hh.cell hi' (show 1 < 2 by omega)).1
      rw [getElem!_pos d' i hi'] at c0 c1
      exact ⟨by simpa [encS] using c0, by simpa [encS] using c1⟩
end Go.Proofs.Ythmcempfiimkkab
