/- The reference's cache: what its New, There, Has, Touch, Count, Flush and Lines give back and write. -/
import Derived.Test.YtpedgpaebdoafaaSm
namespace Go.Proofs.Ytpedgpaebdoafaa
open Go.ChangeShapes Go.WideShapes Go.ChangeAt Go.RowKit
set_option linter.unusedVariables false

def pow2 (n : Int) : Bool := decide (0 < n) && decide (bits .and .i64 n (n - 1) = 0)
theorem Power_any (n : Int) (h0 : -9223372036854775808 < n) (h9 : n < 9223372036854775808) (w : World) :
    Calls Try.prog 22 #[.int .i64 n] w fun e w' => e = .returned (.bool (pow2 n)) ∧ w' = w := by
  by_cases h : 0 < n
  · by_cases b : bits .and .i64 n (n - 1) = 0
    · rw [show pow2 n = true by simp [pow2, h, b]]
      go_enter Try.func22, Try.ntmps22
      go_wp2
      go_ret
      exact ⟨rfl, rfl⟩
    · rw [show pow2 n = false by simp [pow2, b]]
      have hb : (bits .and .i64 n (n - 1) == 0) = false := by simpa using b
      go_enter Try.func22, Try.ntmps22
      go_wp2
      go_ret
      exact ⟨rfl, rfl⟩
  · rw [show pow2 n = false by simp [pow2, h]]
    go_enter Try.func22, Try.ntmps22
    go_wp2
    go_ret
    exact ⟨rfl, rfl⟩
theorem Power_min (w : World) : Calls Try.prog 22 #[.int .i64 (-9223372036854775808)] w fun e w' => e = .returned (.bool false) ∧ w' = w := by
  go_enter Try.func22, Try.ntmps22
  go_wp2
  go_ret
  exact ⟨rfl, rfl⟩
/-- May such a cache be? -/
def fit (s k : Int) : Bool := pow2 s && decide (s ≤ 4096) && decide (1 ≤ k) && decide (k ≤ 16)
theorem fit_t {s k : Int} (h : fit s k = true) : 1 ≤ s ∧ s ≤ 4096 ∧ 1 ≤ k ∧ k ≤ 16 ∧ bits .and .i64 s (s - 1) = 0 := by
  simp only [fit, pow2, Bool.and_eq_true, decide_eq_true_eq] at h
  omega
theorem fit_f {s k : Int} (h : fit s k = false) : s < 1 ∨ 4096 < s ∨ k < 1 ∨ 16 < k ∨ bits .and .i64 s (s - 1) ≠ 0 := by
  simp only [fit, pow2, Bool.and_eq_false_iff, decide_eq_false_iff_not] at h
  omega
theorem rNew_no (s k : Int) (h : fit s k = false) (h0 : -9223372036854775808 ≤ s) (h9 : s < 9223372036854775808) (w : World) :
    Calls Try.prog 9 #[.int .i64 s, .int .i64 k] w fun e w' => e = .returned (.tuple #[.pointer none, .bool false]) ∧ w' = w := by
  have CP : ∃ b, (Calls Try.prog 22 #[.int .i64 s] w fun e w' => e = .returned (.bool b) ∧ w' = w) ∧ (b = false ∨ 4096 < s ∨ k < 1 ∨ 16 < k) := by
    by_cases e : s = -9223372036854775808
    · subst e
      exact ⟨false, Power_min w, Or.inl rfl⟩
    · refine ⟨pow2 s, Power_any s (by omega) h9 w, ?_⟩
      simp only [fit, Bool.and_eq_false_iff, decide_eq_false_iff_not] at h
      rcases h with ((h | h) | h) | h
      · exact Or.inl h
      · exact Or.inr (Or.inl (by omega))
      · exact Or.inr (Or.inr (Or.inl (by omega)))
      · exact Or.inr (Or.inr (Or.inr (by omega)))
  obtain ⟨b, C, hb⟩ := CP
  have HC : Hid (Calls Try.prog 22 #[.int .i64 s] w fun e w' => e = .returned (.bool b) ∧ w' = w) := C
  clear C h
  cases b with
  | false =>
    clear hb
    go_enter Try.func9, Try.ntmps9
    go_wp2_with fail
    refine HC.out.mono ?_
    rintro e w' ⟨rfl, rfl⟩
    go_wp2
    go_ret2
    exact ⟨rfl, rfl⟩
  | true =>
    have hb' : 4096 < s ∨ (s ≤ 4096 ∧ k < 1) ∨ (s ≤ 4096 ∧ 1 ≤ k ∧ 16 < k) := by
      rcases hb with q | q
      · cases q
      · omega
    clear hb
    rcases hb' with a | ⟨a, b⟩ | ⟨a, b, c⟩
    all_goals (
      go_enter Try.func9, Try.ntmps9
      go_wp2_with fail
      refine HC.out.mono ?_
      rintro e w' ⟨rfl, rfl⟩
      go_wp2
      go_ret2
      exact ⟨rfl, rfl⟩)
theorem rNew_ok (n ways : Nat) (h1 : 1 ≤ n) (hn : n ≤ 4096) (k1 : 1 ≤ ways) (k2 : ways ≤ 16) (hb : bits .and .i64 n ((n : Int) - 1) = 0) (w : World) :
    Calls Try.prog 9 #[.int .i64 n, .int .i64 ways] w fun e w' => ∃ p F, e = .returned (.tuple #[.pointer (some ⟨p, 0, none⟩), .bool true]) ∧ Ca w' F p n ways (fun _ => []) ∧ Kp (fun _ => False) F w w' := by
  have m6 := make_run n hn w
  have HN : Hid (∀ w', w' = (w.alloc (.cells (List.replicate n (.slice none 0 0)).toArray 37)).alloc (.cells #[.int .i64 ways, .slice (some ⟨w.heap.size, 0, none⟩) n n] 61) → ∃ F, Ca w' F (w.heap.size + 1) n ways (fun _ => []) ∧ Kp (fun _ => False) F w w') := fun w' => new_cache (w := w) (w' := w') (ty := 61) h1 hn k1 k2
  have HC : Hid (Calls _ _ _ _ _) := Power_any n (by omega) (by omega) w
  rw [show pow2 n = true by simp [pow2, hb]; omega] at HC
  generalize (List.replicate n (Value.slice none 0 0)).toArray = C6 at *
  go_enter Try.func9, Try.ntmps9
  go_wp2_with fail
  refine HC.out.mono ?_
  rintro e w' ⟨rfl, rfl⟩
  go_wp2
  go_ret2
  obtain ⟨F, hF⟩ := HN.out _ rfl
  exact ⟨w'.heap.size + 1, F, by simp, hF⟩
theorem There_any {w : World} {F : Nat → Prop} {p n ways : Nat} {f : Nat → List Int} (h : Ca w F p n ways f) (i : Int) :
    Calls Try.prog 23 #[.pointer (some ⟨p, 0, none⟩), .int .i64 i] w fun e w' => e = .returned (.bool (decide (0 ≤ i ∧ i < n))) ∧ w' = w := by
  obtain ⟨b, V, hP⟩ := h.parts
  have hc := hP.c.c1
  have h4 := hP.c.n4
  clear hP h
  by_cases h0 : 0 ≤ i
  · by_cases h1 : i < n
    · rw [decide_eq_true ⟨h0, h1⟩]
      go_enter Try.func23, Try.ntmps23
      go_wp2
      go_ret
      exact ⟨ret_bool (by first | (simp; done) | (simp; omega)), rfl⟩
    · rw [decide_eq_false (fun q => h1 q.2)]
      go_enter Try.func23, Try.ntmps23
      go_wp2
      go_ret
      exact ⟨ret_bool (by first | (simp; done) | (simp; omega)), rfl⟩
  · rw [decide_eq_false (fun q => h0 q.1)]
    go_enter Try.func23, Try.ntmps23
    go_wp2
    go_ret
    exact ⟨rfl, rfl⟩
theorem rHas_c {w : World} {p b n ways : Nat} {V : Nat → Value} {f : Nat → List Int} (hM : Cch w p b n ways V f) (i : Nat) (hi : i < n) (t : Int) :
    Calls Try.prog 25 #[.pointer (some ⟨p, 0, none⟩), .int .i64 i, .int .u64 t] w fun e w' => e = .returned (.bool (decide (t ∈ f i))) ∧ w' = w := by
  have hc := hM.c1
  have hr := hM.row i hi
  have h4 := hM.n4
  have ho := hM.own i hi
  have hl := hM.len i hi
  have h16 := hM.w16
  clear hM
  obtain ⟨a, cap, hv⟩ := ho.len
  rw [hv] at ho hr
  clear hv
  generalize f i = l at *
  have HO : Hid (Own w (.slice a l.length cap) l) := ho
  clear ho
  go_enter Try.func25, Try.ntmps25
  go_wp2_with fail
  go_loop [7] (fun i => ∃ k : Nat, k ≤ l.length ∧ i = .int .i64 k ∧ ∀ j, j < k → l[j]? ≠ some t) (fun i => l.length - (intOf i).toNat)
  case atStart => exact ⟨0, by omega, rfl, fun j hj => by omega⟩
  case round =>
    obtain ⟨k, hk, rfl, hb⟩ := hrel
    have HB : Hid (∀ j, j < k → l[j]? ≠ some t) := hb
    clear hb
    by_cases hlt : k < l.length
    · have hg : l[k]? = some l[k] := List.getElem?_eq_getElem hlt
      obtain ⟨g, cap', e1, hcc⟩ := HO.out.cell hg
      cases e1
      have HG : Hid (l[k]? = some l[k]) := hg
      clear hg
      generalize l[k] = x at *
      by_cases e : x = t
      · subst e
        have HI : Hid (decide (x ∈ l) = true) := decide_eq_true (List.mem_of_getElem? HG.out)
        go_wp2
        go_ret
        exact ⟨ret_bool HI.out.symm, rfl⟩
      · go_wp2_with fail
        go_round
        case rel =>
          refine ⟨k + 1, by omega, by go_num, fun j hj => ?_⟩
          by_cases q : j < k
          · exact HB.out j q
          · obtain rfl : j = k := by omega
            rw [HG.out]
            intro z
            injection z with z
            exact e z
        case measure => simp [intOf]; omega
    · obtain rfl : k = l.length := by omega
      have HI : Hid (decide (t ∈ l) = false) := by
        refine decide_eq_false (fun h => ?_)
        obtain ⟨j, hj⟩ := List.getElem?_of_mem h
        exact HB.out j (List.getElem?_eq_some_iff.1 hj).1 hj
      go_wp2
      go_ret
      exact ⟨ret_bool HI.out.symm, rfl⟩
theorem rHas_ok {w : World} {F : Nat → Prop} {p n ways : Nat} {f : Nat → List Int} (h : Ca w F p n ways f) (i : Nat) (hi : i < n) (t : Int) :
    Calls Try.prog 25 #[.pointer (some ⟨p, 0, none⟩), .int .i64 i, .int .u64 t] w fun e w' => e = .returned (.bool (decide (t ∈ f i))) ∧ w' = w := by
  obtain ⟨b, V, hP⟩ := h.parts
  exact rHas_c hP.c i hi t
theorem rCount_ok {w : World} {F : Nat → Prop} {p n ways : Nat} {f : Nat → List Int} (h : Ca w F p n ways f) :
    Calls Try.prog 27 #[.pointer (some ⟨p, 0, none⟩)] w fun e w' => e = .returned (.int .i64 (cnt f n)) ∧ w' = w := by
  obtain ⟨b, V, hP⟩ := h.parts
  have hc := hP.c.c1
  have h4 := hP.c.n4
  have HM : Hid (Cch w p b n ways V f) := hP.c
  clear hP h
  go_enter Try.func27, Try.ntmps27
  go_wp2_with fail
  go_loop [3, 4] (fun s i => ∃ k : Nat, k ≤ n ∧ i = .int .i64 k ∧ s = .int .i64 (cnt f k)) (fun _ i => n - (intOf i).toNat)
  case atStart => exact ⟨0, by omega, rfl, rfl⟩
  case round =>
    obtain ⟨k, hk, rfl, rfl⟩ := hrel
    by_cases hlt : k < n
    · have hr := HM.out.row k hlt
      obtain ⟨a, cap, hv⟩ := (HM.out.own k hlt).len
      rw [hv] at hr
      have b1 := HM.out.cnt (k + 1) (by omega)
      have HE : Hid (cnt f (k + 1) = cnt f k + (f k).length) := rfl
      rw [HE.out] at b1
      generalize (f k).length = m at *
      generalize cnt f k = c at *
      go_wp2
      go_round
      case rel => exact ⟨k + 1, by omega, by go_num, by rw [HE.out]; go_num⟩
      case measure => simp [intOf]; omega
    · obtain rfl : k = n := by omega
      go_wp2
      go_ret
      exact ⟨rfl, rfl⟩
/-- A new row of empty sets. -/
theorem Pt.anew {w w' : World} {F : Nat → Prop} {p b n ways : Nat} {V : Nat → Value} {f : Nat → List Int} (h : Pt w F p b n ways V f)
    (e : w' = (w.setCell ⟨p, 1, none⟩ (.slice (some ⟨w.heap.size, 0, none⟩) n n)).alloc (.cells (List.replicate n (.slice none 0 0)).toArray 37)) : Flu w F p n ways w' := by
  have hp := h.c.lt
  have G1 := grown_setCell' w p 1 (.slice (some ⟨w.heap.size, 0, none⟩) n n)
  have hs1 : (w.setCell ⟨p, 1, none⟩ (.slice (some ⟨w.heap.size, 0, none⟩) n n)).heap.size = w.heap.size := by simp [World.setCell]
  have c01 : (w.setCell ⟨p, 1, none⟩ (.slice (some ⟨w.heap.size, 0, none⟩) n n)).cell? ⟨p, 0, none⟩ = some (.int .i64 ways) := by
    rw [World.cell?_setCell_other _ _ _ _ (by intro h; cases h)]
    exact h.c.c0
  have c11 : (w.setCell ⟨p, 1, none⟩ (.slice (some ⟨w.heap.size, 0, none⟩) n n)).cell? ⟨p, 1, none⟩ = some (.slice (some ⟨w.heap.size, 0, none⟩) n n) := World.cell?_setCell_same _ _ _ h.c.c1
  have z11 : (w.setCell ⟨p, 1, none⟩ (.slice (some ⟨w.heap.size, 0, none⟩) n n)).frozen? ⟨p, 1, none⟩ = false := by
    rw [World.frozen?_setCell]
    exact h.c.z1
  generalize w.setCell ⟨p, 1, none⟩ (.slice (some ⟨w.heap.size, 0, none⟩) n n) = w1 at *
  have G2 : w1.grownBy w' none := by rw [e]; exact World.grownBy_alloc _ _ none
  have hb : Blk w' w.heap.size 37 (List.replicate n (.slice none 0 0)) := by
    rw [e, ← hs1]
    exact blk_new w1 _ 37
  have hs := G2.size
  have c0 := (G2.cell_far ⟨p, 0, none⟩ (show p < w1.heap.size by omega) (by simp)).trans c01
  have c1 := (G2.cell_far ⟨p, 1, none⟩ (show p < w1.heap.size by omega) (by simp)).trans c11
  have z1 := (G2.frozen_far ⟨p, 1, none⟩ (show p < w1.heap.size by omega) (by simp)).trans z11
  refine ⟨fun k => k = p ∨ k = w.heap.size, ⟨fun k hk => ?_, w.heap.size, fun _ => .slice none 0 0, ?_, Or.inl rfl, Or.inr rfl, fun i g _ hg => (by cases hg)⟩, ⟨G2.os.trans G1.os, G2.tape.trans G1.tape, G2.output.trans G1.output, by omega, fun k hk hF => ?_, fun k hk => ?_⟩⟩
  · rcases hk with rfl | rfl
    · omega
    · exact hb.lt
  · exact ⟨by omega, c0, c1, z1, hb.lt, fun i hi => by rw [hb.cell i]; simp [hi], fun i _ => hb.frozen i, fun i _ => Own.nil _, by omega, fun i _ q => (by cases q), fun i _ q => (by cases q), fun i j g _ _ _ q => (by cases q), fun i _ => (by simp), fun i _ => (by simp), fun i _ t ht => (by simp at ht), h.c.w1, h.c.w16, h.c.n1, h.c.n4⟩
  · exact (G2.block k (by omega) (by simp)).trans (G1.block k hk (fun q => hF (by injection q with q; rw [q]; exact h.fp)))
  · rcases hk with rfl | rfl
    · exact Or.inl h.fp
    · exact Or.inr (Nat.le_refl _)
theorem rFlush_ok {w : World} {F : Nat → Prop} {p n ways : Nat} {f : Nat → List Int} (h : Ca w F p n ways f) :
    Calls Try.prog 28 #[.pointer (some ⟨p, 0, none⟩)] w fun e w' => e = .returned (.int .i64 (cnt f n)) ∧ Flu w F p n ways w' := by
  obtain ⟨b, V, hP⟩ := h.parts
  have hc := hP.c.c1
  have hz := hP.c.z1
  have h4 := hP.c.n4
  have hplt := hP.c.lt
  have m6 := make_run n h4 w
  have HF : Hid (∀ w', w' = (w.setCell ⟨p, 1, none⟩ (.slice (some ⟨w.heap.size, 0, none⟩) n n)).alloc (.cells (List.replicate n (.slice none 0 0)).toArray 37) → Flu w F p n ways w') := fun w' e => hP.anew e
  have HC : Hid (Calls _ _ _ _ _) := rCount_ok h
  generalize cnt f n = c at *
  generalize (List.replicate n (Value.slice none 0 0)).toArray = C6 at *
  have hc' : (w.alloc (.cells C6 37)).cell? ⟨p, 1, none⟩ = some (.slice (some ⟨b, 0, none⟩) n n) := ((World.grownBy_alloc w (.cells C6 37) none).cell_far ⟨p, 1, none⟩ hplt (by simp)).trans hc
  have hz' : (w.alloc (.cells C6 37)).frozen? ⟨p, 1, none⟩ = false := ((World.grownBy_alloc w (.cells C6 37) none).frozen_far ⟨p, 1, none⟩ hplt (by simp)).trans hz
  clear hP h
  go_enter Try.func28, Try.ntmps28
  go_wp2_with fail
  refine HC.out.mono ?_
  rintro e w' ⟨rfl, rfl⟩
  go_wp2
  go_ret
  exact ⟨rfl, HF.out _ rfl⟩
end Go.Proofs.Ytpedgpaebdoafaa
