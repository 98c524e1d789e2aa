/- The statement's own look back over the touches: 'kept' tells whether the set holds the tag. -/
import Derived.Test.YtpedgpaebdoafaaWi
namespace Go.Proofs.Ytpedgpaebdoafaa
open Go.ChangeShapes Go.WideShapes Go.ChangeAt Go.RowKit
set_option linter.unusedVariables false

def hi (l : List (Nat × Int)) : List Value := l.map (fun x => .int .i64 x.1)
def ht (l : List (Nat × Int)) : List Value := l.map (fun x => .int .u64 x.2)
theorem hi_get (l : List (Nat × Int)) {k : Nat} {x : Nat × Int} (h : l[k]? = some x) : (hi l)[k]? = some (.int .i64 x.1) := by simp [hi, h]
theorem ht_get (l : List (Nat × Int)) {k : Nat} {x : Nat × Int} (h : l[k]? = some x) : (ht l)[k]? = some (.int .u64 x.2) := by simp [ht, h]
theorem owns_cell {w : World} {B : Nat} {e : TypeId} {v : Value} {n : Nat} {xs : List Value} (o : w.ownsRow B e 1 v n xs) {k : Nat} {u : Value} (hk : xs[k]? = some u) : ∃ g cap, v = .slice (some ⟨g, 0, none⟩) n cap ∧ w.cell? ⟨g, k, none⟩ = some u := by
  have hlt : k < xs.length := (List.getElem?_eq_some_iff.1 hk).1
  rcases o.2 with ⟨h1, h2⟩ | ⟨g, cap, cur, h1, h2, h3, h4, h5, h6, h7⟩
  · have := o.1
    omega
  · refine ⟨g, cap, h1, ?_⟩
    have h8 := o.1
    rw [cell_of_row w g k _ e (0, 0) h3, ← Array.getElem?_toList, ← List.getElem?_take_of_lt (show k < n * 1 by omega), h7]
    exact hk
theorem owns_len {w : World} {B : Nat} {e : TypeId} {sz : Nat} {v : Value} {n : Nat} {xs : List Value} (o : w.ownsRow B e sz v n xs) : ∃ a cap, v = .slice a n cap := by
  rcases o.2 with ⟨h1, h2⟩ | ⟨g, cap, cur, h1, _⟩
  · exact ⟨none, 0, by rw [h1, h2]⟩
  · exact ⟨_, _, h1⟩
theorem owns_lt {w : World} {B : Nat} {e : TypeId} {sz : Nat} {v : Value} {n : Nat} {xs : List Value} (o : w.ownsRow B e sz v n xs) : ∀ g, v.ownBlock = some g → B ≤ g ∧ g < w.heap.size := by
  intro g hg
  rcases o.2 with ⟨rfl, _⟩ | ⟨g', cap, cur, rfl, h2, h3, _⟩
  · cases hg
  · cases hg
    exact ⟨h2, (Array.getElem?_eq_some_iff.1 h3).1⟩
theorem owns_eq {w w' : World} {B : Nat} {e : TypeId} {sz : Nat} {v : Value} {n : Nat} {xs : List Value} (o : w.ownsRow B e sz v n xs) (h : ∀ g, v.ownBlock = some g → w'.heap[g]? = w.heap[g]?) : w'.ownsRow B e sz v n xs := by
  refine ⟨o.1, ?_⟩
  rcases o.2 with h1 | ⟨g, cap, cur, rfl, h2, h3, h4⟩
  · exact Or.inl h1
  · exact Or.inr ⟨g, cap, cur, rfl, h2, (h g rfl).trans h3, h4⟩
theorem owns_below {w w' : World} {B : Nat} {e : TypeId} {sz : Nat} {v : Value} {n : Nat} {xs : List Value} (o : w.ownsRow B e sz v n xs) (h : Below w.heap.size w w') : w'.ownsRow B e sz v n xs := owns_eq o (fun g hg => h.block g (owns_lt o g hg).2)
theorem drop_at {l : List (Nat × Int)} {k : Nat} {x : Nat × Int} (h : l[k]? = some x) : l.drop k = x :: l.drop (k + 1) := by
  obtain ⟨h1, h2⟩ := List.getElem?_eq_some_iff.1 h
  rw [List.drop_eq_getElem_cons h1, h2]
theorem sub_split (s : Nat) (l : List (Nat × Int)) (k : Nat) : sub s l = sub s (l.drop k) ++ sub s (l.take k) := by
  rw [← sub_app, List.take_append_drop]
set_option maxHeartbeats 2000000 in
theorem kept_any {w : World} {va vt : Value} {B : Nat} {l : List (Nat × Int)} (oa : w.ownsRow B 3 1 va l.length (hi l)) (ot : w.ownsRow B 32 1 vt l.length (ht l)) (hl : l.length ≤ 4096) (s : Nat) (t : Int) (ways : Nat) (h1 : 1 ≤ ways) (h16 : ways ≤ 16) (hs : ∀ x ∈ l, x.1 ≤ 4096) (hsn : s ≤ 4096) :
    Calls Try.prog 15 #[va, vt, .int .i64 s, .int .u64 t, .int .i64 ways] w fun e w' => e = .returned (.bool (decide (t ∈ hold ways s l))) ∧ Below w.heap.size w w' := by
  obtain ⟨a1, c1, rfl⟩ := owns_len oa
  obtain ⟨a2, c2, rfl⟩ := owns_len ot
  have HA : Hid (w.ownsRow B 3 1 (.slice a1 l.length c1) l.length (hi l)) := oa
  have HTT : Hid (w.ownsRow B 32 1 (.slice a2 l.length c2) l.length (ht l)) := ot
  have HS : Hid (∀ x ∈ l, x.1 ≤ 4096) := hs
  clear oa ot hs
  obtain ⟨N, hN⟩ : ∃ N, l.length = N := ⟨_, rfl⟩
  have HN : Hid (l.length = N) := hN
  rw [hN] at HA HTT hl ⊢
  clear hN
  obtain ⟨R, hR⟩ : ∃ R, decide (t ∈ hold ways s l) = R := ⟨_, rfl⟩
  have HR : Hid (decide (t ∈ hold ways s l) = R) := hR
  rw [hR]
  clear hR
  go_enter Try.func15, Try.ntmps15
  go_wp2_with fail
  go_loopw [11, 12] (fun v i wr => ∃ k : Nat, k ≤ N ∧ i = .int .i64 ((k : Int) - 1) ∧ Own wr v (dd (sub s (l.drop k))) ∧ t ∉ sub s (l.drop k) ∧ (dd (sub s (l.drop k))).length < ways ∧ Below w.heap.size w wr) (fun _ i _ => (intOf i + 1).toNat)
  case atStart =>
    have e : l.drop N = [] := by rw [← HN.out]; simp
    exact ⟨N, Nat.le_refl _, rfl, by rw [e]; exact Own.nil _, by rw [e]; simp [sub], by rw [e]; simp [sub, dd]; omega, Below.refl _ _⟩
  case round =>
    obtain ⟨k, hk, rfl, ho, ht, hd, hb⟩ := hrel
    have HO : Hid (Own wr _ (dd (sub s (l.drop k)))) := ho
    have HT : Hid (t ∉ sub s (l.drop k)) := ht
    have HD : Hid ((dd (sub s (l.drop k))).length < ways) := hd
    have HB : Hid (Below w.heap.size w wr) := hb
    clear ho ht hd hb
    cases k with
    | zero =>
      have HR2 : Hid (R = false) := by
        unfold Hid
        rw [← HR.out]
        exact decide_eq_false (hold_none (by have := HT.out; simpa using this))
      go_wp2
      go_ret
      exact ⟨by rw [HR2.out]; rfl, HB.out⟩
    | succ k =>
      have hg : l[k]? = some (l[k]'(by rw [HN.out]; omega)) := List.getElem?_eq_getElem _
      generalize l[k]'(by rw [HN.out]; omega) = x at hg
      have HG : Hid (l[k]? = some x) := hg
      obtain ⟨g1, cp1, e1, d1⟩ := owns_cell (owns_below HA.out HB.out) (hi_get l hg)
      obtain ⟨g2, cp2, e2, d2⟩ := owns_cell (owns_below HTT.out HB.out) (ht_get l hg)
      have hx := HS.out x (List.mem_of_getElem? hg)
      cases e1
      cases e2
      have HDR : Hid (l.drop k = x :: l.drop (k + 1)) := drop_at hg
      clear hg
      obtain ⟨xs, xt⟩ := x
      simp only at d1 d2 hx
      rw [show ((k + 1 : Nat) : Int) - 1 = k by omega]
      by_cases e : xs = s
      · subst e
        by_cases et : xt = t
        · subst et
          have HR2 : Hid (R = true) := by
            unfold Hid
            rw [← HR.out]
            refine decide_eq_true (hold_met (P := sub xs (l.drop (k + 1))) (R := sub xs (l.take k)) ?_ HT.out HD.out)
            rw [sub_split xs l k, HDR.out, sub_cons_same]
            simp
          go_wp2
          go_ret
          exact ⟨by rw [HR2.out]; rfl, HB.out⟩
        · have HSS : Hid (sub xs (l.drop k) = sub xs (l.drop (k + 1)) ++ [xt]) := by unfold Hid; rw [HDR.out, sub_cons_same]
          have C : Hid (Calls _ _ _ _ _) := with_any HO.out (by have := HD.out; omega) xt
          go_wp2_with fail
          refine C.out.mono ?_
          rintro e w2 ⟨v2, rfl, o2, b2⟩
          have HO2 : Hid (Own w2 v2 (dd (sub xs (l.drop k)))) := by unfold Hid; rw [HSS.out, dd_snoc]; exact o2
          have HT2 : Hid (t ∉ sub xs (l.drop k)) := by
            unfold Hid
            rw [HSS.out]
            intro q
            rcases List.mem_append.1 q with q | q
            · exact HT.out q
            · simp at q
              exact et q.symm
          have HB2 : Hid (Below w.heap.size w w2) := HB.out.trans (b2.mono HB.out.size)
          obtain ⟨a2', c2', hv2⟩ := HO2.out.len
          subst hv2
          have hlen2 : (dd (sub xs (l.drop k))).length ≤ 17 := by
            rw [HSS.out, dd_snoc]
            have := HD.out
            unfold add
            split
            · omega
            · simp; omega
          clear o2 b2 C HO HD HT HB d1 d2
          obtain ⟨M, hM⟩ : ∃ M, (dd (sub xs (l.drop k))).length = M := ⟨_, rfl⟩
          have HM : Hid ((dd (sub xs (l.drop k))).length = M) := hM
          rw [hM] at hlen2 HO2 ⊢
          clear hM
          by_cases hf : ways ≤ M
          · have HR2 : Hid (R = false) := by
              unfold Hid
              rw [← HR.out]
              exact decide_eq_false (hold_far (sub_split xs l k) HT2.out (by rw [HM.out]; exact hf))
            go_wp2
            go_ret
            exact ⟨by rw [HR2.out]; rfl, HB2.out⟩
          · go_wp2_with fail
            go_roundw
            case rel => exact ⟨k, by omega, by go_num, HO2.out, HT2.out, by rw [HM.out]; omega, HB2.out⟩
            case measure => simp [intOf]
      · have HSS : Hid (sub s (l.drop k) = sub s (l.drop (k + 1))) := by unfold Hid; rw [HDR.out, sub_cons_other _ _ _ _ e]
        go_wp2_with fail
        go_roundw
        case rel => exact ⟨k, by omega, by go_num, by rw [HSS.out]; exact HO.out, by rw [HSS.out]; exact HT.out, by rw [HSS.out]; exact HD.out, HB.out⟩
        case measure => simp [intOf]
end Go.Proofs.Ytpedgpaebdoafaa
