/- What the reference's Make, Read and Allows give back, each for every entry and word. -/
import Derived.Test.YtinegjobjpmkcaaAl
namespace Go.Proofs.Ytinegjobjpmkcaa
open Go.ChangeShapes Go.WideShapes Go.ChangeAt Go.RowKit
set_option linter.unusedVariables false

/-- A truth at the place k. -/
def bk (b : Bool) (k : Int) : Int := bi b (2 ^ k.toNat)
theorem bk_any (b : Bool) (k : Int) (h0 : 0 ≤ k) (h1 : k < 6) (w : World) : Calls Try.prog 18 #[.bool b, .int .u64 k] w fun e w' => e = .returned (.int .u64 (bk b k)) ∧ w' = w := by
  obtain ⟨n, rfl⟩ := Int.eq_ofNat_of_zero_le h0
  have e : bk b (n : Int) = bi b ((2 ^ n : Nat) : Int) := by
    unfold bk
    rw [Int.toNat_natCast]
    simp
  rw [e]
  exact bit_any b n (by omega) w
theorem lo_bk (p s r u a d : Bool) : bk p 0 + bk s 1 + bk r 2 + bk u 3 + bk a 4 + bk d 5 = lo p s r u a d := rfl
theorem rMake_no (p s r u a d : Bool) (t : Int) (hm : may p s r u a d t = false) (w : World) : Calls Try.prog 8 #[.agg #[.bool p, .bool s, .bool r, .bool u, .bool a, .bool d, .int .i64 t]] w fun e w' => e = .returned (.tuple #[.int .u64 0, .int .i64 70]) ∧ Below w.heap.size w w' := by
  have hb := below_new w (.cells #[.bool p, .bool s, .bool r, .bool u, .bool a, .bool d, .int .i64 t] 23)
  have C := rCheck_any p s r u a d t (w.alloc (.cells #[.bool p, .bool s, .bool r, .bool u, .bool a, .bool d, .int .i64 t] 23))
  rw [hm] at C
  clear hm
  go_enter Try.func8, Try.ntmps8
  go_wp2_with fail
  refine C.mono ?_
  rintro e w1 ⟨rfl, k⟩
  clear C
  rw [show er false = 70 from rfl]
  go_wp2
  go_ret2
  exact ⟨rfl, hb.trans (k.mono (by simp))⟩
set_option maxHeartbeats 1000000 in
theorem rMake_ok (p s r u a d : Bool) (t : Int) (hm : may p s r u a d t = true) (w : World) : Calls Try.prog 8 #[.agg #[.bool p, .bool s, .bool r, .bool u, .bool a, .bool d, .int .i64 t]] w fun e w' => e = .returned (.tuple #[.int .u64 (lo p s r u a d + t * 256), .int .i64 0]) ∧ Below w.heap.size w w' := by
  have hb := below_new w (.cells #[.bool p, .bool s, .bool r, .bool u, .bool a, .bool d, .int .i64 t] 23)
  have S := sev_new w p s r u a d t
  have C := rCheck_any p s r u a d t (w.alloc (.cells #[.bool p, .bool s, .bool r, .bool u, .bool a, .bool d, .int .i64 t] 23))
  obtain ⟨h0, h1⟩ := may_range hm
  rw [hm] at C
  clear hm
  rw [← lo_bk]
  go_enter Try.func8, Try.ntmps8
  go_wp2_with fail
  refine C.mono ?_
  rintro e w1 ⟨rfl, k⟩
  have FIN : Hid (Below w.heap.size w w1) := hb.trans (k.mono (by simp))
  obtain ⟨_, c0, c1, c2, c3, c4, c5, c6⟩ := S.below k
  clear C k hb S
  rw [show er true = 0 from rfl]
  obtain ⟨b0, b1⟩ : 0 ≤ bk p 0 ∧ bk p 0 ≤ 1 := bi_range p 1 (by decide)
  obtain ⟨b2, b3⟩ : 0 ≤ bk s 1 ∧ bk s 1 ≤ 2 := bi_range s 2 (by decide)
  obtain ⟨b4, b5⟩ : 0 ≤ bk r 2 ∧ bk r 2 ≤ 4 := bi_range r 4 (by decide)
  obtain ⟨b6, b7⟩ : 0 ≤ bk u 3 ∧ bk u 3 ≤ 8 := bi_range u 8 (by decide)
  obtain ⟨b8, b9⟩ : 0 ≤ bk a 4 ∧ bk a 4 ≤ 16 := bi_range a 16 (by decide)
  obtain ⟨b10, b11⟩ : 0 ≤ bk d 5 ∧ bk d 5 ≤ 32 := bi_range d 32 (by decide)
  go_wp2_with fail
  go_quiet ((go_at_call 18; exact Calls.quiet_of_same (bk_any _ _ (by decide) (by decide) _)))
  go_wp2
  go_ret2
  exact ⟨rfl, below_drewN FIN.out _⟩
theorem gt_fb (a : Int) (h0 : 0 ≤ a) (h1 : a < 18446744073709551616) (k : Nat) (hk : k < 256) : decide (0 < bits .and .u64 a (k : Int)) = fb a (k : Int) := by
  unfold fb
  rw [and_low a h0 h1 k hk, Bool.eq_iff_iff]
  simp only [decide_eq_true_eq, bne_iff_ne, ne_eq]
  omega
theorem mayW_out {n : Int} (h0 : 0 ≤ n) (h1 : n < 18446744073709551616) (h : 4095 < n / 256 ∨ 63 < n % 256) : mayW n = false := by
  cases hm : mayW n
  · rfl
  · unfold mayW at hm
    rw [Bool.and_eq_true] at hm
    have h2 := may_range hm.2
    have h3 : n % 256 < 64 := by simpa using hm.1
    omega
theorem mayW_in {n : Int} (h : n % 256 ≤ 63) : mayW n = may (fb n 1) (fb n 2) (fb n 4) (fb n 8) (fb n 16) (fb n 32) (n / 256) := by
  unfold mayW
  rw [show decide (n % 256 < 64) = true by simp; omega, Bool.true_and]
theorem rRead_out (n : Int) (h0 : 0 ≤ n) (h1 : n < 18446744073709551616) (h : 4095 < n / 256 ∨ 63 < n % 256) (w : World) : Calls Try.prog 15 #[.int .u64 n] w fun e w' => e = .returned (.tuple #[.agg #[.bool false, .bool false, .bool false, .bool false, .bool false, .bool false, .int .i64 0], .int .i64 70]) ∧ Below w.heap.size w w' := by
  by_cases k0 : 4095 < n / 256
  · have k1 : decide (4095 < n / 256) = true := by simpa using k0
    clear h k0
    go_enter Try.func15, Try.ntmps15
    go_wp2
    exact bodyPost_ret (v := .tuple #[.agg #[.bool false, .bool false, .bool false, .bool false, .bool false, .bool false, .int .i64 0], .int .i64 70]) (by simp [results, Try.results15, go_sem, *]) rfl ⟨rfl, below_new _ _⟩
  · have k1 : decide (4095 < n / 256) = false := by simpa using k0
    have k2 : decide (63 < n % 256) = true := by simp; omega
    clear h k0
    go_enter Try.func15, Try.ntmps15
    go_wp2
    exact bodyPost_ret (v := .tuple #[.agg #[.bool false, .bool false, .bool false, .bool false, .bool false, .bool false, .int .i64 0], .int .i64 70]) (by simp [results, Try.results15, go_sem, *]) rfl ⟨rfl, below_new _ _⟩
theorem frozen_of {w : World} {g : Nat} {cs : Array Value} {ty : TypeId} (h : w.heap[g]? = some (.cells cs ty (0, 0))) (j : Nat) : w.frozen? ⟨g, j, none⟩ = false := by
  simp [World.frozen?, h]
theorem fz_new (w : World) (L : List Value) (ty : TypeId) (j : Nat) : (w.alloc (.cells L.toArray ty)).frozen? ⟨w.heap.size, j, none⟩ = false := by
  exact frozen_of (heap_alloc_last w _) j
theorem below_set7 {B : Nat} {w w' : World} (h : Below B w w') (g : Nat) (hg : B ≤ g) (v0 v1 v2 v3 v4 v5 v6 : Value) : Below B w (((((((w'.setCell ⟨g, 0, none⟩ v0).setCell ⟨g, 1, none⟩ v1).setCell ⟨g, 2, none⟩ v2).setCell ⟨g, 3, none⟩ v3).setCell ⟨g, 4, none⟩ v4).setCell ⟨g, 5, none⟩ v5).setCell ⟨g, 6, none⟩ v6) :=
  ((((((h.setCell hg v0).setCell hg v1).setCell hg v2).setCell hg v3).setCell hg v4).setCell hg v5).setCell hg v6
set_option maxHeartbeats 1000000 in
theorem rRead_in (n : Int) (h0 : 0 ≤ n) (h1 : n < 18446744073709551616) (h2 : n / 256 ≤ 4095) (h3 : n % 256 ≤ 63) (hm : mayW n = false) (w : World) : Calls Try.prog 15 #[.int .u64 n] w fun e w' => e = .returned (.tuple #[.agg #[.bool false, .bool false, .bool false, .bool false, .bool false, .bool false, .int .i64 0], .int .i64 70]) ∧ Below w.heap.size w w' := by
  have k1 : decide (4095 < n / 256) = false := by simp; omega
  have k2 : decide (63 < n % 256) = false := by simp; omega
  have g1 : decide (0 < bits .and .u64 n 1) = fb n 1 := gt_fb n h0 h1 1 (by decide)
  have g2 : decide (0 < bits .and .u64 n 2) = fb n 2 := gt_fb n h0 h1 2 (by decide)
  have g3 : decide (0 < bits .and .u64 n 4) = fb n 4 := gt_fb n h0 h1 4 (by decide)
  have g4 : decide (0 < bits .and .u64 n 8) = fb n 8 := gt_fb n h0 h1 8 (by decide)
  have g5 : decide (0 < bits .and .u64 n 16) = fb n 16 := gt_fb n h0 h1 16 (by decide)
  have g6 : decide (0 < bits .and .u64 n 32) = fb n 32 := gt_fb n h0 h1 32 (by decide)
  rw [mayW_in h3] at hm
  go_enter Try.func15, Try.ntmps15
  go_wp2_with fail
  generalize hp : fb n 1 = p at *
  generalize hs : fb n 2 = s at *
  generalize hr : fb n 4 = r at *
  generalize hu : fb n 8 = u at *
  generalize ha : fb n 16 = a at *
  generalize hd : fb n 32 = d at *
  generalize ht : n / 256 = t at *
  refine (rCheck_any _ _ _ _ _ _ _ _).mono ?_
  rintro e w1 ⟨rfl, k⟩
  rw [hm]
  rw [show er false = 70 from rfl]
  have FIN : Hid (Below w.heap.size w w1) := (((below_new w (.cells #[.bool false, .bool false, .bool false, .bool false, .bool false, .bool false, .int .i64 0] 23)).alloc (by simp) (.cells #[.bool p, .bool s, .bool r, .bool u, .bool a, .bool d, .int .i64 t] 23))).trans (k.mono (by simp; omega))
  have hz : w.heap.size < ((w.alloc (.cells #[.bool false, .bool false, .bool false, .bool false, .bool false, .bool false, .int .i64 0] 23)).alloc (.cells #[.bool p, .bool s, .bool r, .bool u, .bool a, .bool d, .int .i64 t] 23)).heap.size := by simp; omega
  obtain ⟨_, c0, c1, c2, c3, c4, c5, c6⟩ := ((sev_new w false false false false false false 0).below (below_new (w.alloc (.cells #[.bool false, .bool false, .bool false, .bool false, .bool false, .bool false, .int .i64 0] 23)) (.cells #[.bool p, .bool s, .bool r, .bool u, .bool a, .bool d, .int .i64 t] 23))).below k
  obtain ⟨hl, d0, d1, d2, d3, d4, d5, d6⟩ := (sev_new (w.alloc (.cells #[.bool false, .bool false, .bool false, .bool false, .bool false, .bool false, .int .i64 0] 23)) p s r u a d t).below k
  have f : ∀ j, w1.frozen? ⟨w.heap.size, j, none⟩ = false := fun j => (k.frozen (p := ⟨w.heap.size, j, none⟩) hz).trans (((below_new (w.alloc (.cells #[.bool false, .bool false, .bool false, .bool false, .bool false, .bool false, .int .i64 0] 23)) (.cells #[.bool p, .bool s, .bool r, .bool u, .bool a, .bool d, .int .i64 t] 23)).frozen (p := ⟨w.heap.size, j, none⟩) (by simp)).trans (fz_new w _ 23 j))
  have f0 := f 0
  have f1 := f 1
  have f2 := f 2
  have f3 := f 3
  have f4 := f 4
  have f5 := f 5
  have f6 := f 6
  have es : (w.alloc (.cells #[.bool false, .bool false, .bool false, .bool false, .bool false, .bool false, .int .i64 0] 23)).heap.size = w.heap.size + 1 := by simp
  rw [es] at hl d0 d1 d2 d3 d4 d5 d6
  clear f k hm hz es g1 g2 g3 g4 g5 g6 k1 k2 h2 h3
  go_wp2
  refine bodyPost_ret (v := .tuple #[.agg #[.bool false, .bool false, .bool false, .bool false, .bool false, .bool false, .int .i64 0], .int .i64 70]) (by simp [results, Try.results15, go_sem, *]) rfl ⟨by subst hp hs hr hu ha hd ht; rfl, ?_⟩
  exact below_set7 FIN.out _ (Nat.le_refl _) _ _ _ _ _ _ _
set_option maxHeartbeats 1000000 in
theorem rRead_ok' (n : Int) (h0 : 0 ≤ n) (h1 : n < 18446744073709551616) (h2 : n / 256 ≤ 4095) (h3 : n % 256 ≤ 63) (hm : mayW n = true) (w : World) : Calls Try.prog 15 #[.int .u64 n] w fun e w' => e = .returned (.tuple #[.agg #[.bool (fb n 1), .bool (fb n 2), .bool (fb n 4), .bool (fb n 8), .bool (fb n 16), .bool (fb n 32), .int .i64 (n / 256)], .int .i64 0]) ∧ Below w.heap.size w w' := by
  have k1 : decide (4095 < n / 256) = false := by simp; omega
  have k2 : decide (63 < n % 256) = false := by simp; omega
  have g1 : decide (0 < bits .and .u64 n 1) = fb n 1 := gt_fb n h0 h1 1 (by decide)
  have g2 : decide (0 < bits .and .u64 n 2) = fb n 2 := gt_fb n h0 h1 2 (by decide)
  have g3 : decide (0 < bits .and .u64 n 4) = fb n 4 := gt_fb n h0 h1 4 (by decide)
  have g4 : decide (0 < bits .and .u64 n 8) = fb n 8 := gt_fb n h0 h1 8 (by decide)
  have g5 : decide (0 < bits .and .u64 n 16) = fb n 16 := gt_fb n h0 h1 16 (by decide)
  have g6 : decide (0 < bits .and .u64 n 32) = fb n 32 := gt_fb n h0 h1 32 (by decide)
  rw [mayW_in h3] at hm
  go_enter Try.func15, Try.ntmps15
  go_wp2_with fail
  generalize hp : fb n 1 = p at *
  generalize hs : fb n 2 = s at *
  generalize hr : fb n 4 = r at *
  generalize hu : fb n 8 = u at *
  generalize ha : fb n 16 = a at *
  generalize hd : fb n 32 = d at *
  generalize ht : n / 256 = t at *
  refine (rCheck_any _ _ _ _ _ _ _ _).mono ?_
  rintro e w1 ⟨rfl, k⟩
  rw [hm]
  rw [show er true = 0 from rfl]
  have FIN : Hid (Below w.heap.size w w1) := (((below_new w (.cells #[.bool false, .bool false, .bool false, .bool false, .bool false, .bool false, .int .i64 0] 23)).alloc (by simp) (.cells #[.bool p, .bool s, .bool r, .bool u, .bool a, .bool d, .int .i64 t] 23))).trans (k.mono (by simp; omega))
  have hz : w.heap.size < ((w.alloc (.cells #[.bool false, .bool false, .bool false, .bool false, .bool false, .bool false, .int .i64 0] 23)).alloc (.cells #[.bool p, .bool s, .bool r, .bool u, .bool a, .bool d, .int .i64 t] 23)).heap.size := by simp; omega
  obtain ⟨_, c0, c1, c2, c3, c4, c5, c6⟩ := ((sev_new w false false false false false false 0).below (below_new (w.alloc (.cells #[.bool false, .bool false, .bool false, .bool false, .bool false, .bool false, .int .i64 0] 23)) (.cells #[.bool p, .bool s, .bool r, .bool u, .bool a, .bool d, .int .i64 t] 23))).below k
  obtain ⟨hl, d0, d1, d2, d3, d4, d5, d6⟩ := (sev_new (w.alloc (.cells #[.bool false, .bool false, .bool false, .bool false, .bool false, .bool false, .int .i64 0] 23)) p s r u a d t).below k
  have f : ∀ j, w1.frozen? ⟨w.heap.size, j, none⟩ = false := fun j => (k.frozen (p := ⟨w.heap.size, j, none⟩) hz).trans (((below_new (w.alloc (.cells #[.bool false, .bool false, .bool false, .bool false, .bool false, .bool false, .int .i64 0] 23)) (.cells #[.bool p, .bool s, .bool r, .bool u, .bool a, .bool d, .int .i64 t] 23)).frozen (p := ⟨w.heap.size, j, none⟩) (by simp)).trans (fz_new w _ 23 j))
  have f0 := f 0
  have f1 := f 1
  have f2 := f 2
  have f3 := f 3
  have f4 := f 4
  have f5 := f 5
  have f6 := f 6
  have es : (w.alloc (.cells #[.bool false, .bool false, .bool false, .bool false, .bool false, .bool false, .int .i64 0] 23)).heap.size = w.heap.size + 1 := by simp
  rw [es] at hl d0 d1 d2 d3 d4 d5 d6
  clear f k hm hz es g1 g2 g3 g4 g5 g6 k1 k2 h2 h3
  go_wp2
  refine bodyPost_ret (v := .tuple #[.agg #[.bool p, .bool s, .bool r, .bool u, .bool a, .bool d, .int .i64 t], .int .i64 0]) (by simp [results, Try.results15, go_sem, *]) rfl ⟨by subst hp hs hr hu ha hd ht; rfl, ?_⟩
  exact below_set7 FIN.out _ (Nat.le_refl _) _ _ _ _ _ _ _
theorem rRead_no (n : Int) (h0 : 0 ≤ n) (h1 : n < 18446744073709551616) (hm : mayW n = false) (w : World) : Calls Try.prog 15 #[.int .u64 n] w fun e w' => e = .returned (.tuple #[.agg #[.bool false, .bool false, .bool false, .bool false, .bool false, .bool false, .int .i64 0], .int .i64 70]) ∧ Below w.heap.size w w' := by
  by_cases h : 4095 < n / 256 ∨ 63 < n % 256
  · exact rRead_out n h0 h1 h w
  · exact rRead_in n h0 h1 (by omega) (by omega) hm w
theorem rRead_ok (n : Int) (h0 : 0 ≤ n) (h1 : n < 18446744073709551616) (hm : mayW n = true) (w : World) : Calls Try.prog 15 #[.int .u64 n] w fun e w' => e = .returned (.tuple #[.agg #[.bool (fb n 1), .bool (fb n 2), .bool (fb n 4), .bool (fb n 8), .bool (fb n 16), .bool (fb n 32), .int .i64 (n / 256)], .int .i64 0]) ∧ Below w.heap.size w w' := by
  by_cases h : 4095 < n / 256 ∨ 63 < n % 256
  · rw [mayW_out h0 h1 h] at hm
    cases hm
  · exact rRead_ok' n h0 h1 (by omega) (by omega) hm w
theorem rAllows_no (p s r u a d : Bool) (t : Int) (q : Bool) (hm : may p s r u a d t = false) (w : World) : Calls Try.prog 12 #[.agg #[.bool p, .bool s, .bool r, .bool u, .bool a, .bool d, .int .i64 t], .bool q] w fun e w' => e = .returned (.tuple #[.int .u8 0, .int .i64 70]) ∧ Below w.heap.size w w' := by
  have hb := below_new w (.cells #[.bool p, .bool s, .bool r, .bool u, .bool a, .bool d, .int .i64 t] 23)
  have C := rCheck_any p s r u a d t (w.alloc (.cells #[.bool p, .bool s, .bool r, .bool u, .bool a, .bool d, .int .i64 t] 23))
  rw [hm] at C
  go_enter Try.func12, Try.ntmps12
  go_wp2_with fail
  refine C.mono ?_
  rintro e w1 ⟨rfl, k⟩
  clear C
  rw [show er false = 70 from rfl]
  go_wp2
  go_ret2
  exact ⟨rfl, hb.trans (k.mono (by simp))⟩
theorem al_zero {p s r u a d : Bool} {t : Int} (h : ez p s r u a d t = true) (q : Bool) : al p s r u q = 1 := by
  obtain ⟨rfl, rfl, rfl, rfl, rfl, rfl, rfl⟩ := eqE_eq h
  rfl
theorem may_present {p s r u a d : Bool} {t : Int} (h : may p s r u a d t = true) (hz : ez p s r u a d t = false) : p = !s := by
  rw [may_some hz] at h
  revert h
  cases p <;> cases s <;> simp
set_option maxHeartbeats 1000000 in
theorem rAllows_ok (p s r u a d : Bool) (t : Int) (q : Bool) (hm : may p s r u a d t = true) (w : World) : Calls Try.prog 12 #[.agg #[.bool p, .bool s, .bool r, .bool u, .bool a, .bool d, .int .i64 t], .bool q] w fun e w' => e = .returned (.tuple #[.int .u8 (al p s r u q), .int .i64 0]) ∧ Below w.heap.size w w' := by
  have hb := below_new w (.cells #[.bool p, .bool s, .bool r, .bool u, .bool a, .bool d, .int .i64 t] 23)
  have S := sev_new w p s r u a d t
  have C := rCheck_any p s r u a d t (w.alloc (.cells #[.bool p, .bool s, .bool r, .bool u, .bool a, .bool d, .int .i64 t] 23))
  have hq := eq_run p s r u a d t false false false false false false 0
  rw [hm] at C
  cases hz : ez p s r u a d t
  · rw [show eqE p s r u a d t false false false false false false 0 = false from hz] at hq
    have HP : Hid (p = !s) := may_present hm hz
    clear hm hz
    go_enter Try.func12, Try.ntmps12
    go_wp2_with fail
    refine C.mono ?_
    rintro e w1 ⟨rfl, k⟩
    have FIN : Hid (Below w.heap.size w w1) := hb.trans (k.mono (by simp))
    obtain ⟨_, c0, c1, c2, c3, c4, c5, c6⟩ := S.below k
    clear C k hb S
    rw [show er true = 0 from rfl]
    have hp := HP.out
    clear HP
    subst hp
    cases q <;> cases s <;> cases r <;> cases u
    all_goals (go_wp2; go_ret2; exact ⟨rfl, FIN.out⟩)
  · rw [show eqE p s r u a d t false false false false false false 0 = true from hz] at hq
    rw [al_zero hz]
    clear hm hz
    go_enter Try.func12, Try.ntmps12
    go_wp2_with fail
    refine C.mono ?_
    rintro e w1 ⟨rfl, k⟩
    have FIN : Hid (Below w.heap.size w w1) := hb.trans (k.mono (by simp))
    obtain ⟨_, c0, c1, c2, c3, c4, c5, c6⟩ := S.below k
    clear C k hb S
    rw [show er true = 0 from rfl]
    go_wp2
    go_ret2
    exact ⟨rfl, FIN.out⟩
end Go.Proofs.Ytinegjobjpmkcaa
