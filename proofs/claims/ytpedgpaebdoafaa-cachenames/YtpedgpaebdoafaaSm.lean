/- Lists of lines: the reference's Same, the statement's 'of'. -/
import Derived.Test.YtpedgpaebdoafaaKt
namespace Go.Proofs.Ytpedgpaebdoafaa
open Go.ChangeShapes Go.WideShapes Go.ChangeAt Go.RowKit
set_option linter.unusedVariables false

theorem lv_get : ∀ (l : List (Nat × Int)) {k : Nat} {x : Nat × Int}, l[k]? = some x → (lv l)[k * 2]? = some (.int .i64 x.1) ∧ (lv l)[k * 2 + 1]? = some (.int .u64 x.2)
  | [], k, x, h => by simp at h
  | y :: l, 0, x, h => by
    simp at h
    subst h
    simp [lv]
  | y :: l, k + 1, x, h => by
    simp at h
    have ih := lv_get l h
    have e : lv (y :: l) = .int .i64 y.1 :: .int .u64 y.2 :: lv l := by simp [lv]
    rw [e, show (k + 1) * 2 = k * 2 + 1 + 1 by omega, show k * 2 + 1 + 1 + 1 = (k * 2 + 1) + 1 + 1 by omega]
    simpa using ih
theorem Lns.cell {B : Nat} {w : World} {v : Value} {l : List (Nat × Int)} (o : Lns B w v l) {k : Nat} {x : Nat × Int} (hk : l[k]? = some x) : ∃ g cap, v = .slice (some ⟨g, 0, none⟩) l.length cap ∧ w.cell? ⟨g, k * 2, none⟩ = some (.int .i64 x.1) ∧ w.cell? ⟨g, k * 2 + 1, none⟩ = some (.int .u64 x.2) := by
  have hlt : k < l.length := (List.getElem?_eq_some_iff.1 hk).1
  rcases o.2 with ⟨h1, h2⟩ | ⟨g, cap, cur, h1, h2, h3, h4, h5, h6, h7⟩
  · omega
  · obtain ⟨a1, a2⟩ := lv_get l hk
    refine ⟨g, cap, h1, ?_, ?_⟩
    · rw [cell_of_row w g _ _ 56 (0, 0) h3, ← Array.getElem?_toList, ← List.getElem?_take_of_lt (show k * 2 < l.length * 2 by omega), h7]
      exact a1
    · rw [cell_of_row w g _ _ 56 (0, 0) h3, ← Array.getElem?_toList, ← List.getElem?_take_of_lt (show k * 2 + 1 < l.length * 2 by omega), h7]
      exact a2
theorem Lns.len {B : Nat} {w : World} {v : Value} {l : List (Nat × Int)} (o : Lns B w v l) : ∃ a cap, v = .slice a l.length cap := owns_len o
theorem Lns.below {B : Nat} {w w' : World} {v : Value} {l : List (Nat × Int)} (o : Lns B w v l) (h : Below w.heap.size w w') : Lns B w' v l := owns_below o h
theorem Lns.weak {B B' : Nat} {w : World} {v : Value} {l : List (Nat × Int)} (o : Lns B w v l) (h : B' ≤ B) : Lns B' w v l := owns_weak o h
theorem below_grown {w w' : World} (h : w.grownBy w' none) : Below w.heap.size w w' := ⟨h.os, h.tape, h.output, h.size, fun k hk => h.block k hk (by simp)⟩
theorem Same_any {B1 B2 : Nat} {w : World} {v1 v2 : Value} {l : List (Nat × Int)} (h1 : Lns B1 w v1 l) (h2 : Lns B2 w v2 l) (hl : l.length ≤ 1000000) :
    Calls Try.prog 20 #[v1, v2] w fun e w' => e = .returned (.bool true) ∧ Below w.heap.size w w' := by
  obtain ⟨a1, c1, rfl⟩ := h1.len
  obtain ⟨a2, c2, rfl⟩ := h2.len
  have H1 : Hid (Lns B1 w (.slice a1 l.length c1) l) := h1
  have H2 : Hid (Lns B2 w (.slice a2 l.length c2) l) := h2
  clear h1 h2
  obtain ⟨N, hN⟩ : ∃ N, l.length = N := ⟨_, rfl⟩
  have HN : Hid (l.length = N) := hN
  rw [hN] at H1 H2 hl ⊢
  clear hN
  go_enter Try.func20, Try.ntmps20
  go_wp2_with fail
  go_loopw [5] (fun i wr => ∃ k : Nat, k ≤ N ∧ i = .int .i64 k ∧ w.grownBy wr none) (fun i _ => N - (intOf i).toNat)
  case atStart => exact ⟨0, by omega, rfl, World.grownBy.refl _ _⟩
  case round =>
    obtain ⟨k, hk, rfl, hb⟩ := hrel
    have HB : Hid (w.grownBy wr none) := hb
    clear hb
    by_cases hlt : k < N
    · have hg : l[k]? = some (l[k]'(by rw [HN.out]; exact hlt)) := List.getElem?_eq_getElem _
      generalize l[k]'(by rw [HN.out]; exact hlt) = x at hg
      obtain ⟨g1, cp1, e1, d1, d1'⟩ := (H1.out.below (below_grown HB.out)).cell hg
      obtain ⟨g2, cp2, e2, d2, d2'⟩ := (H2.out.below (below_grown HB.out)).cell hg
      cases e1
      cases e2
      clear hg
      obtain ⟨xs, xt⟩ := x
      simp only at d1 d1' d2 d2'
      go_wp2
      go_quiet (fail)
      go_wp2
      go_roundw
      case rel => exact ⟨k + 1, by omega, by go_num, ⟨HB.out.os, HB.out.tape, HB.out.output, HB.out.size, HB.out.block⟩⟩
      case measure => simp [intOf]; omega
    · obtain rfl : k = N := by omega
      go_wp2
      go_ret
      exact ⟨rfl, below_grown HB.out⟩
set_option maxHeartbeats 1000000 in
theorem of_any {B : Nat} {w : World} {v : Value} {l : List (Nat × Int)} (h1 : Lns B w v l) (hl : l.length ≤ 1000000) (hs : ∀ x ∈ l, x.1 ≤ 4096) (z : Nat) (hz : z ≤ 4096) :
    Calls Try.prog 21 #[v, .int .i64 z] w fun e w' => ∃ v', e = .returned v' ∧ Lns w.heap.size w' v' (l.filter (fun x => x.1 == z)) ∧ Below w.heap.size w w' := by
  obtain ⟨i0, hi0, hz0, hz1, hz2⟩ := info_parts Try.infoL
  obtain ⟨a1, c1, rfl⟩ := h1.len
  have H1 : Hid (Lns B w (.slice a1 l.length c1) l) := h1
  have HS : Hid (∀ x ∈ l, x.1 ≤ 4096) := hs
  clear h1 hs
  obtain ⟨N, hN⟩ : ∃ N, l.length = N := ⟨_, rfl⟩
  have HN : Hid (l.length = N) := hN
  rw [hN] at H1 hl ⊢
  clear hN
  go_enter Try.func21, Try.ntmps21
  go_wp2_with fail
  go_loopw [5, 6] (fun v i wr => ∃ k : Nat, k ≤ N ∧ i = .int .i64 k ∧ Lns w.heap.size wr v ((l.take k).filter (fun x => x.1 == z)) ∧ Below w.heap.size w wr) (fun _ i _ => N - (intOf i).toNat)
  case atStart => exact ⟨0, by omega, rfl, by simpa using Lns.nil _ _, Below.refl _ _⟩
  case round =>
    obtain ⟨k, hk, rfl, o, hb⟩ := hrel
    have HO : Hid (Lns w.heap.size wr u5 ((l.take k).filter (fun x => x.1 == z))) := o
    have HB : Hid (Below w.heap.size w wr) := hb
    have hsz := hb.size
    clear o hb
    by_cases hlt : k < N
    · have hg : l[k]? = some (l[k]'(by rw [HN.out]; exact hlt)) := List.getElem?_eq_getElem _
      generalize l[k]'(by rw [HN.out]; exact hlt) = x at hg
      obtain ⟨g1, cp1, e1, d1, d1'⟩ := (H1.out.below HB.out).cell hg
      rw [HN.out] at e1
      cases e1
      have hx := HS.out x (List.mem_of_getElem? hg)
      have HTK : Hid (l.take (k + 1) = l.take k ++ [x]) := by unfold Hid; rw [List.take_add_one, hg]; rfl
      have HLE : Hid (((l.take k).filter (fun x => x.1 == z)).length ≤ N) := Nat.le_trans (List.length_filter_le _ _) (by simp; omega)
      clear hg
      obtain ⟨xs, xt⟩ := x
      simp only at d1 d1' hx
      by_cases e : xs = z
      · subst e
        have HF : Hid ((l.take (k + 1)).filter (fun x => x.1 == xs) = (l.take k).filter (fun x => x.1 == xs) ++ [(xs, xt)]) := by unfold Hid; rw [HTK.out]; simp
        obtain ⟨A, hA⟩ : ∃ A, (l.take k).filter (fun x => x.1 == xs) = A := ⟨_, rfl⟩
        rw [hA] at HO HLE HF
        clear hA
        have hle := HLE.out
        have HOr : Hid (wr.ownsRow w.heap.size 56 2 u5 A.length (lv A)) := HO.out
        go_wp2_with (at_builtin; refine wpList_append_own _ rfl (.tmp 20) (.tmp 25) 50 rfl w.heap.size 56 i0 _ 2 16 Try.underlying50 hi0 hz0 hz1 hz2 rfl (by decide) u5 A.length _ rfl (World.ownsRow.alloc HOr.out _) ⟨wr.heap.size, 0, none⟩ 1 1 [.int .i64 xs, .int .u64 xt] rfl rfl (cell_two_new _ _ _ _) (by intro u hu; simp at hu; rcases hu with rfl | rfl <;> rfl) (by unfold maxLen; omega) (by omega) (by simp; omega) ?_; intro v2 w2 o2 gr2 nil2)
        go_roundw
        case rel =>
          refine ⟨k + 1, by omega, by go_num, ?_, (HB.out.alloc hsz _).grown gr2 (by simp; omega) (fun k hk => (HOr.out.lt k hk).1)⟩
          rw [HF.out]
          exact Lns.add rfl o2
        case measure => simp [intOf]; omega
      · have HF : Hid ((l.take (k + 1)).filter (fun x => x.1 == z) = (l.take k).filter (fun x => x.1 == z)) := by unfold Hid; rw [HTK.out]; simp [e]
        go_wp2_with fail
        go_roundw
        case rel => exact ⟨k + 1, by omega, by go_num, by rw [HF.out]; exact HO.out, HB.out⟩
        case measure => simp [intOf]; omega
    · obtain rfl : k = N := by omega
      have HO2 : Hid (Lns w.heap.size wr u5 (l.filter (fun x => x.1 == z))) := by
        have := HO.out
        rw [List.take_of_length_le (by rw [HN.out]; exact Nat.le_refl _)] at this
        exact this
      go_wp2
      go_ret
      exact ⟨_, rfl, HO2.out, HB.out⟩
/-! ### The lines of one set -/
theorem lns_only (f : Nat → List Int) (z : Nat) : ∀ n, (∀ i, i < n → i ≠ z → f i = []) → lns f n = if z < n then (f z).map (fun t => (z, t)) else []
  | 0, _ => rfl
  | n + 1, h => by
    have ih := lns_only f z n (fun i hi hne => h i (by omega) hne)
    simp only [lns]
    rw [ih]
    by_cases e : n = z
    · subst e
      simp
    · rw [h n (by omega) e]
      by_cases q : z < n
      · rw [if_pos q, if_pos (by omega)]; simp
      · rw [if_neg q, if_neg (by omega)]; simp
theorem lns_of (f : Nat → List Int) (z : Nat) : ∀ n, (lns f n).filter (fun x => x.1 == z) = if z < n then (f z).map (fun t => (z, t)) else []
  | 0 => rfl
  | n + 1 => by
    have ih := lns_of f z n
    simp only [lns, List.filter_append]
    rw [ih]
    by_cases e : n = z
    · subst e
      rw [if_neg (by omega), if_pos (by omega)]
      rw [List.nil_append, List.filter_eq_self]
      intro a ha
      simp only [List.mem_map] at ha
      obtain ⟨t, _, rfl⟩ := ha
      simp
    · have e2 : ((f n).map (fun t => (n, t))).filter (fun x => x.1 == z) = [] := by
        rw [List.filter_eq_nil_iff]
        intro a ha
        simp only [List.mem_map] at ha
        obtain ⟨t, _, rfl⟩ := ha
        simpa using e
      rw [e2]
      by_cases q : z < n
      · rw [if_pos q, if_pos (by omega)]; simp
      · rw [if_neg q, if_neg (by omega)]; simp
theorem lns_set (f : Nat → List Int) : ∀ n x, x ∈ lns f n → x.1 < n
  | 0, x, h => by simp [lns] at h
  | n + 1, x, h => by
    simp only [lns, List.mem_append, List.mem_map] at h
    rcases h with h | ⟨t, _, rfl⟩
    · have := lns_set f n x h; omega
    · simp
/-! ### The last touches -/
def rt : Nat → List Int
  | 0 => []
  | k + 1 => (1000 + 7 * (k : Int)) :: rt k
theorem rt_len : ∀ k, (rt k).length = k
  | 0 => rfl
  | k + 1 => by simp [rt, rt_len k]
theorem rt_lt : ∀ k, ∀ x ∈ rt k, x < 1000 + 7 * (k : Int)
  | 0, x, h => by simp [rt] at h
  | k + 1, x, h => by
    simp only [rt, List.mem_cons] at h
    rcases h with rfl | h
    · omega
    · have := rt_lt k x h; omega
theorem dd_id : ∀ (L : List Int), L.Nodup → dd L = L
  | [], _ => rfl
  | x :: L, h => by
    have h' := List.nodup_cons.1 h
    rw [dd_cons, dd_id L h'.2, filter_none h'.1]
theorem rt_nodup : ∀ k, (rt k).Nodup
  | 0 => by simp [rt]
  | k + 1 => by
    simp only [rt, List.nodup_cons]
    refine ⟨fun h => ?_, rt_nodup k⟩
    have := rt_lt k _ h
    omega
theorem rt_new (k : Nat) : (1000 + 7 * (k : Int)) ∉ rt k := fun h => by have := rt_lt k _ h; omega
theorem hold_rt (m z : Nat) (H : List (Nat × Int)) (R : List Int) (h : sub z H = rt m ++ R) : hold m z H = rt m := by
  unfold hold
  rw [h]
  obtain ⟨s, e⟩ := dd_pre (rt m) R
  rw [e, dd_id _ (rt_nodup m), List.take_append_of_le_length (by rw [rt_len]; exact Nat.le_refl _), List.take_of_length_le (by rw [rt_len]; exact Nat.le_refl _)]
end Go.Proofs.Ytpedgpaebdoafaa
