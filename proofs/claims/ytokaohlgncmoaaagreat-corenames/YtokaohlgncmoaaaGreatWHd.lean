/- Lists of lines: the reference's Same, the statement's 'of'. -/
import Derived.Test.YtokaohlgncmoaaaGreatWHc
import Derived.Deep.QuietTactic
import Derived.BigQuiet
namespace Go.Proofs.YtokaohlgncmoaaaGreat.C
open Go.ChangeShapes Go.WideShapes Go.ChangeAt Go.RowKit
set_option linter.unusedVariables false
set_option maxRecDepth 8192
theorem owns_len {w : World} {B : Nat} {e : TypeId} {sz : Nat} {v : Value} {n : Nat} {xs : List Value} (o : w.ownsRow B e sz v n xs) : ∃ a cap, v = .slice a n cap := by
  rcases o.2 with ⟨h1, h2⟩ | ⟨g, cap, cur, h1, _⟩
  · exact ⟨none, 0, by rw [h1, h2]⟩
  · exact ⟨_, _, h1⟩
theorem owns_eq {w w' : World} {B : Nat} {e : TypeId} {sz : Nat} {v : Value} {n : Nat} {xs : List Value} (o : w.ownsRow B e sz v n xs) (h : ∀ g, v.ownBlock = some g → w'.heap[g]? = w.heap[g]?) : w'.ownsRow B e sz v n xs := by
  refine ⟨o.1, ?_⟩
  rcases o.2 with h1 | ⟨g, cap, cur, rfl, h2, h3, h4⟩
  · exact Or.inl h1
  · exact Or.inr ⟨g, cap, cur, rfl, h2, (h g rfl).trans h3, h4⟩
theorem owns_lt {w : World} {B : Nat} {e : TypeId} {sz : Nat} {v : Value} {n : Nat} {xs : List Value} (o : w.ownsRow B e sz v n xs) : ∀ g, v.ownBlock = some g → B ≤ g ∧ g < w.heap.size := by
  intro g hg
  rcases o.2 with ⟨rfl, _⟩ | ⟨g', cap, cur, rfl, h2, h3, _⟩
  · cases hg
  · cases hg
    exact ⟨h2, (Array.getElem?_eq_some_iff.1 h3).1⟩
theorem owns_weak {w : World} {b b' : Nat} {e : TypeId} {size n : Nat} {v : Value} {xs : List Value} (h : w.ownsRow b e size v n xs) (hb : b' ≤ b) : w.ownsRow b' e size v n xs := by
  refine ⟨h.1, ?_⟩
  rcases h.2 with h1 | ⟨g, cap, cur, h1, h2, h3⟩
  · exact Or.inl h1
  · exact Or.inr ⟨g, cap, cur, h1, Nat.le_trans hb h2, h3⟩
theorem owns_below {w w' : World} {B : Nat} {e : TypeId} {sz : Nat} {v : Value} {n : Nat} {xs : List Value} (o : w.ownsRow B e sz v n xs) (h : Below w.heap.size w w') : w'.ownsRow B e sz v n xs := owns_eq o (fun g hg => h.block g (owns_lt o g hg).2)

theorem lv_get : ∀ (l : List (Nat × Int)) {k : Nat} {x : Nat × Int}, l[k]? = some x → (lv l)[k * 2]? = some (.int .i64 x.1) ∧ (lv l)[k * 2 + 1]? = some (.int .u64 x.2)
  | [], k, x, h => by simp at h
  | y :: l, 0, x, h => by
    simp at h
    subst h
    simp [lv]
  | y :: l, k + 1, x, h => by
    simp at h
    have ih := lv_get l h
    have e : lv (y :: l) = .int .i64 y.1 :: .int .u64 y.2 :: lv l := by simp [lv]
    rw [e, show (k + 1) * 2 = k * 2 + 1 + 1 by omega, show k * 2 + 1 + 1 + 1 = (k * 2 + 1) + 1 + 1 by omega]
    simpa using ih
theorem Lns.cell {B : Nat} {w : World} {v : Value} {l : List (Nat × Int)} (o : Lns B w v l) {k : Nat} {x : Nat × Int} (hk : l[k]? = some x) : ∃ g cap, v = .slice (some ⟨g, 0, none⟩) l.length cap ∧ w.cell? ⟨g, k * 2, none⟩ = some (.int .i64 x.1) ∧ w.cell? ⟨g, k * 2 + 1, none⟩ = some (.int .u64 x.2) := by
  have hlt : k < l.length := (List.getElem?_eq_some_iff.1 hk).1
  rcases o.2 with ⟨h1, h2⟩ | ⟨g, cap, cur, h1, h2, h3, h4, h5, h6, h7⟩
  · omega
  · obtain ⟨a1, a2⟩ := lv_get l hk
    refine ⟨g, cap, h1, ?_, ?_⟩
    · rw [cell_of_row w g _ _ 106 (0, 0) h3, ← Array.getElem?_toList, ← List.getElem?_take_of_lt (show k * 2 < l.length * 2 by omega), h7]
      exact a1
    · rw [cell_of_row w g _ _ 106 (0, 0) h3, ← Array.getElem?_toList, ← List.getElem?_take_of_lt (show k * 2 + 1 < l.length * 2 by omega), h7]
      exact a2
theorem Lns.len {B : Nat} {w : World} {v : Value} {l : List (Nat × Int)} (o : Lns B w v l) : ∃ a cap, v = .slice a l.length cap := owns_len o
theorem Lns.below {B : Nat} {w w' : World} {v : Value} {l : List (Nat × Int)} (o : Lns B w v l) (h : Below w.heap.size w w') : Lns B w' v l := owns_below o h
theorem below_grown {w w' : World} (h : w.grownBy w' none) : Below w.heap.size w w' := ⟨h.os, h.tape, h.output, h.size, fun k hk => h.block k hk (by simp)⟩
theorem Same_any {B1 B2 : Nat} {w : World} {v1 v2 : Value} {l : List (Nat × Int)} (h1 : Lns B1 w v1 l) (h2 : Lns B2 w v2 l) (hl : l.length ≤ 1000000) :
    Calls Tryz.prog 13 #[v1, v2] w fun e w' => e = .returned (.bool true) ∧ Below w.heap.size w w' := by
  obtain ⟨a1, c1, rfl⟩ := h1.len
  obtain ⟨a2, c2, rfl⟩ := h2.len
  have H1 : Hid (Lns B1 w (.slice a1 l.length c1) l) := h1
  have H2 : Hid (Lns B2 w (.slice a2 l.length c2) l) := h2
  clear h1 h2
  obtain ⟨N, hN⟩ : ∃ N, l.length = N := ⟨_, rfl⟩
  have HN : Hid (l.length = N) := hN
  rw [hN] at H1 H2 hl ⊢
  clear hN
  go_enter Tryz.func13, Tryz.ntmps13
  go_wp2_with fail
  go_loopw [5] (fun i wr => ∃ k : Nat, k ≤ N ∧ i = .int .i64 k ∧ w.grownBy wr none) (fun i _ => N - (intOf i).toNat)
  case atStart => exact ⟨0, by omega, rfl, World.grownBy.refl _ _⟩
  case round =>
    obtain ⟨k, hk, rfl, hb⟩ := hrel
    have HB : Hid (w.grownBy wr none) := hb
    clear hb
    by_cases hlt : k < N
    · have hg : l[k]? = some (l[k]'(by rw [HN.out]; exact hlt)) := List.getElem?_eq_getElem _
      generalize l[k]'(by rw [HN.out]; exact hlt) = x at hg
      obtain ⟨g1, cp1, e1, d1, d1'⟩ := (H1.out.below (below_grown HB.out)).cell hg
      obtain ⟨g2, cp2, e2, d2, d2'⟩ := (H2.out.below (below_grown HB.out)).cell hg
      cases e1
      cases e2
      clear hg
      obtain ⟨xs, xt⟩ := x
      simp only at d1 d1' d2 d2'
      go_wp2
      go_quiet (fail)
      go_wp2
      go_roundw
      case rel => exact ⟨k + 1, by omega, by go_num, ⟨HB.out.os, HB.out.tape, HB.out.output, HB.out.size, HB.out.block⟩⟩
      case measure => simp [intOf]; omega
    · obtain rfl : k = N := by omega
      go_wp2
      go_ret
      exact ⟨rfl, below_grown HB.out⟩
end Go.Proofs.YtokaohlgncmoaaaGreat.C
namespace Go.Proofs.YtokaohlgncmoaaaGreat.C
open Go.ChangeShapes Go.WideShapes Go.ChangeAt Go.RowKit
set_option linter.unusedVariables false
set_option maxRecDepth 8192

def pow2 (n : Int) : Bool := decide (0 < n) && decide (bits .and .i64 n (n - 1) = 0)
theorem Power_any (n : Int) (h0 : -9223372036854775808 < n) (h9 : n < 9223372036854775808) (w : World) :
    Calls Tryz.prog 79 #[.int .i64 n] w fun e w' => e = .returned (.bool (pow2 n)) ∧ w' = w := by
  by_cases h : 0 < n
  · by_cases b : bits .and .i64 n (n - 1) = 0
    · rw [show pow2 n = true by simp [pow2, h, b]]
      go_enter Tryz.func79, Tryz.ntmps79
      go_wp2
      go_ret
      exact ⟨rfl, rfl⟩
    · rw [show pow2 n = false by simp [pow2, b]]
      have hb : (bits .and .i64 n (n - 1) == 0) = false := by simpa using b
      go_enter Tryz.func79, Tryz.ntmps79
      go_wp2
      go_ret
      exact ⟨rfl, rfl⟩
  · rw [show pow2 n = false by simp [pow2, h]]
    go_enter Tryz.func79, Tryz.ntmps79
    go_wp2
    go_ret
    exact ⟨rfl, rfl⟩
theorem rNew_ok (n ways : Nat) (h1 : 1 ≤ n) (hn : n ≤ 4096) (k1 : 1 ≤ ways) (k2 : ways ≤ 16) (hb : bits .and .i64 n ((n : Int) - 1) = 0) (w : World) :
    Calls Tryz.prog 37 #[.int .i64 n, .int .i64 ways] w fun e w' => ∃ p F, e = .returned (.tuple #[.pointer (some ⟨p, 0, none⟩), .bool true]) ∧ Ca w' F p n ways (fun _ => []) ∧ Kp (fun _ => False) F w w' := by
  have m6 := make_run n hn w
  have HN : Hid (∀ w', w' = (w.alloc (.cells (List.replicate n (.slice none 0 0)).toArray 40)).alloc (.cells #[.int .i64 ways, .slice (some ⟨w.heap.size, 0, none⟩) n n] 143) → ∃ F, Ca w' F (w.heap.size + 1) n ways (fun _ => []) ∧ Kp (fun _ => False) F w w') := fun w' => new_cache (w := w) (w' := w') (ty := 143) h1 hn k1 k2
  have HC : Hid (Calls _ _ _ _ _) := Power_any n (by omega) (by omega) w
  rw [show pow2 n = true by simp [pow2, hb]; omega] at HC
  generalize (List.replicate n (Value.slice none 0 0)).toArray = C6 at *
  go_enter Tryz.func37, Tryz.ntmps37
  go_wp2_with fail
  refine HC.out.mono ?_
  rintro e w' ⟨rfl, rfl⟩
  go_wp2
  go_ret2
  obtain ⟨F, hF⟩ := HN.out _ rfl
  exact ⟨w'.heap.size + 1, F, by simp, hF⟩
theorem rHas_c {w : World} {p b n ways : Nat} {V : Nat → Value} {f : Nat → List Int} (hM : Cch w p b n ways V f) (i : Nat) (hi : i < n) (t : Int) :
    Calls Tryz.prog 144 #[.pointer (some ⟨p, 0, none⟩), .int .i64 i, .int .u64 t] w fun e w' => e = .returned (.bool (decide (t ∈ f i))) ∧ w' = w := by
  have hc := hM.c1
  have hr := hM.row i hi
  have h4 := hM.n4
  have ho := hM.own i hi
  have hl := hM.len i hi
  have h16 := hM.w16
  clear hM
  obtain ⟨a, cap, hv⟩ := ho.len
  rw [hv] at ho hr
  clear hv
  generalize f i = l at *
  have HO : Hid (Own w (.slice a l.length cap) l) := ho
  clear ho
  go_enter Tryz.func144, Tryz.ntmps144
  go_wp2_with fail
  go_loop [7] (fun i => ∃ k : Nat, k ≤ l.length ∧ i = .int .i64 k ∧ ∀ j, j < k → l[j]? ≠ some t) (fun i => l.length - (intOf i).toNat)
  case atStart => exact ⟨0, by omega, rfl, fun j hj => by omega⟩
  case round =>
    obtain ⟨k, hk, rfl, hb⟩ := hrel
    have HB : Hid (∀ j, j < k → l[j]? ≠ some t) := hb
    clear hb
    by_cases hlt : k < l.length
    · have hg : l[k]? = some l[k] := List.getElem?_eq_getElem hlt
      obtain ⟨g, cap', e1, hcc⟩ := HO.out.cell hg
      cases e1
      have HG : Hid (l[k]? = some l[k]) := hg
      clear hg
      generalize l[k] = x at *
      by_cases e : x = t
      · subst e
        have HI : Hid (decide (x ∈ l) = true) := decide_eq_true (List.mem_of_getElem? HG.out)
        go_wp2
        go_ret
        exact ⟨ret_bool HI.out.symm, rfl⟩
      · go_wp2_with fail
        go_round
        case rel =>
          refine ⟨k + 1, by omega, by go_num, fun j hj => ?_⟩
          by_cases q : j < k
          · exact HB.out j q
          · obtain rfl : j = k := by omega
            rw [HG.out]
            intro z
            injection z with z
            exact e z
        case measure => simp [intOf]; omega
    · obtain rfl : k = l.length := by omega
      have HI : Hid (decide (t ∈ l) = false) := by
        refine decide_eq_false (fun h => ?_)
        obtain ⟨j, hj⟩ := List.getElem?_of_mem h
        exact HB.out j (List.getElem?_eq_some_iff.1 hj).1 hj
      go_wp2
      go_ret
      exact ⟨ret_bool HI.out.symm, rfl⟩
theorem rCount_ok {w : World} {F : Nat → Prop} {p n ways : Nat} {f : Nat → List Int} (h : Ca w F p n ways f) :
    Calls Tryz.prog 121 #[.pointer (some ⟨p, 0, none⟩)] w fun e w' => e = .returned (.int .i64 (cnt f n)) ∧ w' = w := by
  obtain ⟨b, V, hP⟩ := h.parts
  have hc := hP.c.c1
  have h4 := hP.c.n4
  have HM : Hid (Cch w p b n ways V f) := hP.c
  clear hP h
  go_enter Tryz.func121, Tryz.ntmps121
  go_wp2_with fail
  go_loop [3, 4] (fun s i => ∃ k : Nat, k ≤ n ∧ i = .int .i64 k ∧ s = .int .i64 (cnt f k)) (fun _ i => n - (intOf i).toNat)
  case atStart => exact ⟨0, by omega, rfl, rfl⟩
  case round =>
    obtain ⟨k, hk, rfl, rfl⟩ := hrel
    by_cases hlt : k < n
    · have hr := HM.out.row k hlt
      obtain ⟨a, cap, hv⟩ := (HM.out.own k hlt).len
      rw [hv] at hr
      have b1 := HM.out.cnt (k + 1) (by omega)
      have HE : Hid (cnt f (k + 1) = cnt f k + (f k).length) := rfl
      rw [HE.out] at b1
      generalize (f k).length = m at *
      generalize cnt f k = c at *
      go_wp2
      go_round
      case rel => exact ⟨k + 1, by omega, by go_num, by rw [HE.out]; go_num⟩
      case measure => simp [intOf]; omega
    · obtain rfl : k = n := by omega
      go_wp2
      go_ret
      exact ⟨rfl, rfl⟩
theorem Pt.anew {w w' : World} {F : Nat → Prop} {p b n ways : Nat} {V : Nat → Value} {f : Nat → List Int} (h : Pt w F p b n ways V f)
    (e : w' = (w.setCell ⟨p, 1, none⟩ (.slice (some ⟨w.heap.size, 0, none⟩) n n)).alloc (.cells (List.replicate n (.slice none 0 0)).toArray 40)) : Flu w F p n ways w' := by
  have hp := h.c.lt
  have G1 := grown_setCell' w p 1 (.slice (some ⟨w.heap.size, 0, none⟩) n n)
  have hs1 : (w.setCell ⟨p, 1, none⟩ (.slice (some ⟨w.heap.size, 0, none⟩) n n)).heap.size = w.heap.size := by simp [World.setCell]
  have c01 : (w.setCell ⟨p, 1, none⟩ (.slice (some ⟨w.heap.size, 0, none⟩) n n)).cell? ⟨p, 0, none⟩ = some (.int .i64 ways) := by
    rw [World.cell?_setCell_other _ _ _ _ (by intro h; cases h)]
    exact h.c.c0
  have c11 : (w.setCell ⟨p, 1, none⟩ (.slice (some ⟨w.heap.size, 0, none⟩) n n)).cell? ⟨p, 1, none⟩ = some (.slice (some ⟨w.heap.size, 0, none⟩) n n) := World.cell?_setCell_same _ _ _ h.c.c1
  have z11 : (w.setCell ⟨p, 1, none⟩ (.slice (some ⟨w.heap.size, 0, none⟩) n n)).frozen? ⟨p, 1, none⟩ = false := by
    rw [World.frozen?_setCell]
    exact h.c.z1
  generalize w.setCell ⟨p, 1, none⟩ (.slice (some ⟨w.heap.size, 0, none⟩) n n) = w1 at *
  have G2 : w1.grownBy w' none := by rw [e]; exact World.grownBy_alloc _ _ none
  have hb : Blk w' w.heap.size 40 (List.replicate n (.slice none 0 0)) := by
    rw [e, ← hs1]
    exact blk_new w1 _ 40
  have hs := G2.size
  have c0 := (G2.cell_far ⟨p, 0, none⟩ (show p < w1.heap.size by omega) (by simp)).trans c01
  have c1 := (G2.cell_far ⟨p, 1, none⟩ (show p < w1.heap.size by omega) (by simp)).trans c11
  have z1 := (G2.frozen_far ⟨p, 1, none⟩ (show p < w1.heap.size by omega) (by simp)).trans z11
  refine ⟨fun k => k = p ∨ k = w.heap.size, ⟨fun k hk => ?_, w.heap.size, fun _ => .slice none 0 0, ?_, Or.inl rfl, Or.inr rfl, fun i g _ hg => (by cases hg)⟩, ⟨G2.os.trans G1.os, G2.tape.trans G1.tape, G2.output.trans G1.output, by omega, fun k hk hF => ?_, fun k hk => ?_⟩⟩
  · rcases hk with rfl | rfl
    · omega
    · exact hb.lt
  · exact ⟨by omega, c0, c1, z1, hb.lt, fun i hi => by rw [hb.cell i]; simp [hi], fun i _ => hb.frozen i, fun i _ => Own.nil _, by omega, fun i _ q => (by cases q), fun i _ q => (by cases q), fun i j g _ _ _ q => (by cases q), fun i _ => (by simp), fun i _ => (by simp), fun i _ t ht => (by simp at ht), h.c.w1, h.c.w16, h.c.n1, h.c.n4⟩
  · exact (G2.block k (by omega) (by simp)).trans (G1.block k hk (fun q => hF (by injection q with q; rw [q]; exact h.fp)))
  · rcases hk with rfl | rfl
    · exact Or.inl h.fp
    · exact Or.inr (Nat.le_refl _)
theorem rFlush_ok {w : World} {F : Nat → Prop} {p n ways : Nat} {f : Nat → List Int} (h : Ca w F p n ways f) :
    Calls Tryz.prog 85 #[.pointer (some ⟨p, 0, none⟩)] w fun e w' => e = .returned (.int .i64 (cnt f n)) ∧ Flu w F p n ways w' := by
  obtain ⟨b, V, hP⟩ := h.parts
  have hc := hP.c.c1
  have hz := hP.c.z1
  have h4 := hP.c.n4
  have hplt := hP.c.lt
  have m6 := make_run n h4 w
  have HF : Hid (∀ w', w' = (w.setCell ⟨p, 1, none⟩ (.slice (some ⟨w.heap.size, 0, none⟩) n n)).alloc (.cells (List.replicate n (.slice none 0 0)).toArray 40) → Flu w F p n ways w') := fun w' e => hP.anew e
  have HC : Hid (Calls _ _ _ _ _) := rCount_ok h
  generalize cnt f n = c at *
  generalize (List.replicate n (Value.slice none 0 0)).toArray = C6 at *
  have hc' : (w.alloc (.cells C6 40)).cell? ⟨p, 1, none⟩ = some (.slice (some ⟨b, 0, none⟩) n n) := ((World.grownBy_alloc w (.cells C6 40) none).cell_far ⟨p, 1, none⟩ hplt (by simp)).trans hc
  have hz' : (w.alloc (.cells C6 40)).frozen? ⟨p, 1, none⟩ = false := ((World.grownBy_alloc w (.cells C6 40) none).frozen_far ⟨p, 1, none⟩ hplt (by simp)).trans hz
  clear hP h
  go_enter Tryz.func85, Tryz.ntmps85
  go_wp2_with fail
  refine HC.out.mono ?_
  rintro e w' ⟨rfl, rfl⟩
  go_wp2
  go_ret
  exact ⟨rfl, HF.out _ rfl⟩
end Go.Proofs.YtokaohlgncmoaaaGreat.C
namespace Go.Proofs.YtokaohlgncmoaaaGreat.C
open Go.ChangeShapes Go.WideShapes Go.ChangeAt Go.RowKit
set_option linter.unusedVariables false
set_option maxRecDepth 8192

theorem tch_step (ways : Nat) (t x : Int) (l : List Int) (h1 : 1 ≤ ways) : tch ways t (l ++ [x]) = if x ≠ t ∧ (tch ways t l).length < ways then tch ways t l ++ [x] else tch ways t l := by
  unfold tch
  by_cases e : x = t
  · subst e
    rw [if_neg (by simp)]
    simp
  · have e1 : (l ++ [x]).filter (fun y => y != t) = l.filter (fun y => y != t) ++ [x] := by simp [e]
    rw [e1, ← List.cons_append]
    generalize t :: l.filter (fun y => y != t) = A
    by_cases q : A.length < ways
    · rw [if_pos ⟨e, by rw [List.length_take]; omega⟩, List.take_of_length_le (by simp; omega), List.take_of_length_le (by omega)]
    · rw [if_neg (fun z => by have := z.2; rw [List.length_take] at this; omega), List.take_append_of_le_length (by omega)]
theorem tch_pos (ways : Nat) (t : Int) (l : List Int) (h1 : 1 ≤ ways) : 1 ≤ (tch ways t l).length := by
  unfold tch
  simp
  omega
theorem grown_of_below {w w' : World} (h : Below w.heap.size w w') (row : Option Nat) : w.grownBy w' row := ⟨h.os, h.tape, h.output, h.size, fun k hk _ => h.block k hk⟩
set_option maxHeartbeats 2000000 in
theorem rTouch_ok {w : World} {F : Nat → Prop} {p n ways : Nat} {f : Nat → List Int} (h : Ca w F p n ways f) (i : Nat) (hi : i < n) (t : Int) (h0 : 0 ≤ t) (h1 : t < 18446744073709551616) :
    Calls Tryz.prog 119 #[.pointer (some ⟨p, 0, none⟩), .int .i64 i, .int .u64 t] w fun e w' => e = .returned (.bool (decide (t ∈ f i))) ∧ Tch w F p n ways f i t w' := by
  obtain ⟨i0, hi0, hz0, hz1, hz2⟩ := info_parts Tryz.infoU
  obtain ⟨b, V, hP⟩ := h.parts
  have h16 := hP.c.w16
  have hw1 := hP.c.w1
  have hn4 := hP.c.n4
  have hl := hP.c.len i hi
  obtain ⟨a0, cap0, hv⟩ := (hP.c.own i hi).len
  have HP : Hid (Pt w F p b n ways V f) := hP
  have HC : Hid (Calls _ _ _ _ _) := rHas_c hP.c i hi t
  have hblt := hP.c.blt
  clear hP h
  obtain ⟨m, hm⟩ : ∃ m, (f i).length = m := ⟨_, rfl⟩
  have HM : Hid ((f i).length = m) := hm
  rw [hm] at hv hl
  have HV : Hid (V i = .slice a0 m cap0) := hv
  clear hm hv
  generalize decide (t ∈ f i) = bb at *
  have HT0 : Hid (tch ways t ((f i).take 0) = [t]) := by
    unfold Hid tch
    obtain ⟨k, rfl⟩ : ∃ k, ways = k + 1 := ⟨ways - 1, by omega⟩
    simp
  have HS : Hid (∀ k x, (f i)[k]? = some x → tch ways t ((f i).take (k + 1)) = if x ≠ t ∧ (tch ways t ((f i).take k)).length < ways then tch ways t ((f i).take k) ++ [x] else tch ways t ((f i).take k)) := by
    intro k x hx
    rw [show (f i).take (k + 1) = (f i).take k ++ [x] by rw [List.take_add_one, hx]; rfl]
    exact tch_step ways t x _ hw1
  have HE : Hid (tch ways t ((f i).take m) = tch ways t (f i)) := by unfold Hid; rw [List.take_of_length_le (by rw [HM.out]; exact Nat.le_refl _)]
  go_enter Tryz.func119, Tryz.ntmps119
  go_wp2_with fail
  refine HC.out.mono ?_
  rintro e w' ⟨rfl, rfl⟩
  clear HC
  go_wp2_with fail
  go_loopw [8, 9] (fun v i' wr => ∃ k : Nat, k ≤ m ∧ i' = .int .i64 k ∧ wr.ownsRow w'.heap.size 22 1 v (tch ways t ((f i).take k)).length (tv (tch ways t ((f i).take k))) ∧ Below w'.heap.size w' wr) (fun _ i' _ => m - (intOf i').toNat)
  case atStart =>
    refine ⟨0, by omega, rfl, ?_, (Below.refl _ _).alloc (Nat.le_refl _) _⟩
    rw [HT0.out]
    exact ⟨rfl, Or.inr ⟨w'.heap.size, 1, #[.int .u64 t], rfl, Nat.le_refl _, heap_alloc_last w' _, Nat.le_refl _, by unfold maxLen; omega, rfl, rfl⟩⟩
  case round =>
    obtain ⟨k, hk, rfl, o, hb⟩ := hrel
    have HO : Hid (wr.ownsRow w'.heap.size 22 1 u8 (tch ways t ((f i).take k)).length (tv (tch ways t ((f i).take k)))) := o
    have HB : Hid (Below w'.heap.size w' wr) := hb
    have hsz := hb.size
    have HMr : Hid (Cch wr p b n ways V f) := HP.out.c.below hb
    have c0 := HMr.out.c0
    have c1 := HMr.out.c1
    have c2 := HMr.out.row i hi
    rw [HV.out] at c2
    obtain ⟨a8, cap8, hu8⟩ := owns_len o
    clear o hb
    by_cases hlt : k < m
    · have hg : (f i)[k]? = some ((f i)[k]'(by rw [HM.out]; exact hlt)) := List.getElem?_eq_getElem _
      generalize (f i)[k]'(by rw [HM.out]; exact hlt) = x at hg
      have HST : Hid _ := HS.out k x hg
      obtain ⟨g1, cp1, e1, d1⟩ := (HMr.out.own i hi).cell hg
      rw [HV.out, HM.out] at e1
      cases e1
      clear hg
      have hlen := tch_len ways t ((f i).take k)
      obtain ⟨A, hA⟩ : ∃ A, tch ways t ((f i).take k) = A := ⟨_, rfl⟩
      rw [hA] at HO HST hlen hu8
      subst hu8
      clear hA
      by_cases ex : x = t
      · subst ex
        rw [if_neg (by simp)] at HST
        go_wp2_with fail
        go_roundw
        case rel => exact ⟨k + 1, by omega, by go_num, by rw [HST.out]; exact HO.out, HB.out⟩
        case measure => simp [intOf]; omega
      · by_cases hw : A.length < ways
        · rw [if_pos ⟨ex, hw⟩] at HST
          go_wp2_with (at_builtin; refine wpList_append_own _ rfl (.tmp 49) (.tmp 60) 40 rfl w'.heap.size 22 i0 _ 1 8 Tryz.underlying40 hi0 hz0 hz1 hz2 rfl (by decide) (.slice a8 A.length cap8) A.length (tv A) rfl (World.ownsRow.alloc HO.out _) ⟨wr.heap.size, 0, none⟩ 1 1 [.int .u64 x] rfl rfl (cell_one_new _ _ _) (by intro u hu; simp at hu; subst hu; rfl) (by unfold maxLen; omega) (by omega) (by simp; omega) ?_; intro v2 w2 o2 gr2 nil2)
          go_roundw
          case rel =>
            refine ⟨k + 1, by omega, by go_num, ?_, (HB.out.alloc hsz _).grown gr2 (by simp; omega) (fun k hk => (HO.out.lt k hk).1)⟩
            rw [HST.out, show (A ++ [x]).length = A.length + 1 by simp, show tv (A ++ [x]) = tv A ++ [.int .u64 x] by simp [tv]]
            exact o2
          case measure => simp [intOf]; omega
        · rw [if_neg (fun z => hw z.2)] at HST
          go_wp2_with fail
          go_roundw
          case rel => exact ⟨k + 1, by omega, by go_num, by rw [HST.out]; exact HO.out, HB.out⟩
          case measure => simp [intOf]; omega
    · obtain rfl : k = m := by omega
      have d2 := HMr.out.fz i hi
      rw [HE.out] at HO hu8
      have HX : Hid (Tch w' F p n ways f i t (wr.setCell ⟨b, i, none⟩ u8)) := by
        have hpos := tch_pos ways t (f i) hw1
        rcases HO.out.2 with ⟨_, q⟩ | ⟨g, cap, cur, q1, q2, q3, q4, q5, q6, q7⟩
        · omega
        · have eb : g ≠ b := by omega
          subst q1
          refine HP.out.turn_new i hi (tch ways t (f i)) g _ cap (grown_of_below HB.out _) (Or.inr q2) (World.grownBy.refl _ _) ?_ (tch_len _ _ _) (tch_nodup _ _ (HP.out.c.nod i hi)) (tch_ok _ (HP.out.c.ok i hi) h0 h1)
          have := owns_weak HO.out (Nat.zero_le _)
          exact Own.of_eq this (fun g' hg' => by cases hg'; exact (grown_setCell' _ _ _ _).block g (Array.getElem?_eq_some_iff.1 q3).1 (some_ne eb))
      subst hu8
      clear HO HMr HB
      generalize (tch ways t (f i)).length = N at *
      go_wp2
      go_ret
      exact ⟨rfl, HX.out⟩
set_option maxHeartbeats 2000000 in
theorem rLines_ok {w : World} {F : Nat → Prop} {p n ways : Nat} {f : Nat → List Int} (h : Ca w F p n ways f) :
    Calls Tryz.prog 61 #[.pointer (some ⟨p, 0, none⟩)] w fun e w' => ∃ v, e = .returned v ∧ Lns w.heap.size w' v (lns f n) ∧ Below w.heap.size w w' := by
  obtain ⟨i0, hi0, hz0, hz1, hz2⟩ := info_parts Tryz.infoL
  obtain ⟨b, V, hP⟩ := h.parts
  have h4 := hP.c.n4
  have HM : Hid (Cch w p b n ways V f) := hP.c
  clear hP h
  go_enter Tryz.func61, Tryz.ntmps61
  go_wp2_with fail
  go_loopw [3, 4] (fun v i wr => ∃ k : Nat, k ≤ n ∧ i = .int .i64 k ∧ Lns w.heap.size wr v (lns f k) ∧ Below w.heap.size w wr) (fun _ i _ => n - (intOf i).toNat)
  case atStart => exact ⟨0, by omega, rfl, Lns.nil _ _, Below.refl _ _⟩
  case round =>
    obtain ⟨k, hk, rfl, o, hb⟩ := hrel
    have HO : Hid (Lns w.heap.size wr u3 (lns f k)) := o
    have HB : Hid (Below w.heap.size w wr) := hb
    have hsz := hb.size
    have hd := (HM.out.below hb).c1
    clear o hb
    by_cases hlt : k < n
    · obtain ⟨a, cap, hv⟩ := (HM.out.own k hlt).len
      have HV : Hid (V k = .slice a (f k).length cap) := hv
      clear hv
      have hm := HM.out.len k hlt
      have hm2 := HM.out.w16
      have hcn := HM.out.cnt (k + 1) (by omega)
      rw [show cnt f (k + 1) = (lns f k).length + (f k).length by rw [lns_len]; rfl] at hcn
      obtain ⟨m, hmm⟩ : ∃ m, (f k).length = m := ⟨_, rfl⟩
      have HMM : Hid ((f k).length = m) := hmm
      rw [hmm] at hm hcn HV
      clear hmm
      go_wp2_with fail
      clear hd
      go_loopw [3, 5] (fun v i wr => ∃ j : Nat, j ≤ m ∧ i = .int .i64 j ∧ Lns w.heap.size wr v (lns f k ++ ((f k).take j).map (fun t => (k, t))) ∧ Below w.heap.size w wr) (fun _ i _ => m - (intOf i).toNat)
      case atStart => exact ⟨0, by omega, rfl, by simpa using HO.out, HB.out⟩
      case round =>
        clear HO HB hsz
        obtain ⟨j, hj, rfl, o, hb⟩ := hrel
        have HO : Hid (Lns w.heap.size wr u3 _) := o
        have HB : Hid (Below w.heap.size w wr) := hb
        have hsz := hb.size
        have hd := (HM.out.below hb).c1
        have hr := (HM.out.below hb).row k hlt
        rw [HV.out] at hr
        clear o hb
        by_cases hjl : j < m
        · have hg : (f k)[j]? = some ((f k)[j]'(by rw [HMM.out]; exact hjl)) := List.getElem?_eq_getElem _
          generalize (f k)[j]'(by rw [HMM.out]; exact hjl) = t at *
          have HG : Hid ((f k)[j]? = some t) := hg
          obtain ⟨g, cap', e1, hcell⟩ := ((HM.out.below HB.out).own k hlt).cell hg
          clear hg
          rw [HV.out, HMM.out] at e1
          cases e1
          have hlen : (lns f k ++ ((f k).take j).map (fun t => (k, t))).length + 1 ≤ 65536 := by simp; rw [HMM.out]; omega
          have HS : Hid ((f k).take (j + 1) = (f k).take j ++ [t]) := by unfold Hid; rw [List.take_add_one, HG.out]; rfl
          obtain ⟨A, hA⟩ : ∃ A, lns f k ++ ((f k).take j).map (fun t => (k, t)) = A := ⟨_, rfl⟩
          have HA : Hid (lns f k ++ ((f k).take j).map (fun t => (k, t)) = A) := hA
          rw [hA] at HO hlen
          clear hA
          have HOr : Hid (wr.ownsRow w.heap.size 106 2 u3 A.length (lv A)) := HO.out
          go_wp2_with (at_builtin; refine wpList_append_own _ rfl (.tmp 27) (.tmp 40) 49 rfl w.heap.size 106 i0 _ 2 16 Tryz.underlying49 hi0 hz0 hz1 hz2 rfl (by decide) u3 A.length _ rfl (World.ownsRow.alloc HOr.out _) ⟨wr.heap.size, 0, none⟩ 1 1 [.int .i64 k, .int .u64 t] rfl rfl (cell_two_new _ _ _ _) (by intro u hu; simp at hu; rcases hu with rfl | rfl <;> rfl) (by unfold maxLen; omega) (by omega) (by simp; omega) ?_; intro v2 w2 o2 gr2 nil2)
          go_roundw
          case rel =>
            refine ⟨j + 1, by omega, by go_num, ?_, (HB.out.alloc hsz _).grown gr2 (by simp; omega) (fun k hk => (HOr.out.lt k hk).1)⟩
            rw [HS.out, List.map_append, ← List.append_assoc, HA.out]
            exact Lns.add rfl o2
          case measure => simp [intOf]; omega
        · obtain rfl : j = m := by omega
          have HO2 : Hid (Lns w.heap.size wr u3 (lns f (k + 1))) := by
            have e := HO.out
            rw [List.take_of_length_le (by rw [HMM.out]; exact Nat.le_refl _)] at e
            exact e
          clear HO
          go_wp2
          go_roundw
          case rel => exact ⟨k + 1, by omega, by go_num, HO2.out, HB.out⟩
          case measure => simp [intOf]; omega
    · obtain rfl : k = n := by omega
      go_wp2
      go_ret
      exact ⟨_, rfl, HO.out, HB.out⟩
end Go.Proofs.YtokaohlgncmoaaaGreat.C
