/- The statement's own look back over the touches: 'with' and 'kept'. -/
import Derived.Test.YtpedgpaebdoafaaDd
import Derived.Laws.AppendOwnNone
import Derived.Deep.Onto
namespace Go.Proofs.Ytpedgpaebdoafaa
open Go.ChangeShapes Go.WideShapes Go.ChangeAt Go.RowKit
set_option linter.unusedVariables false

theorem Own.below {w w' : World} {v : Value} {l : List Int} (h : Own w v l) (k : Below w.heap.size w w') : Own w' v l := h.of_eq (fun g hg => k.block g (h.lt g hg))
theorem owns_weak {w : World} {b b' : Nat} {e : TypeId} {size n : Nat} {v : Value} {xs : List Value} (h : w.ownsRow b e size v n xs) (hb : b' ≤ b) : w.ownsRow b' e size v n xs := by
  refine ⟨h.1, ?_⟩
  rcases h.2 with h1 | ⟨g, cap, cur, h1, h2, h3⟩
  · exact Or.inl h1
  · exact Or.inr ⟨g, cap, cur, h1, Nat.le_trans hb h2, h3⟩
theorem Own.of_snoc {w : World} {b : Nat} {v : Value} {l : List Int} {x : Int} {n : Nat} (hn : l.length + 1 = n) (o : w.ownsRow b 32 1 v n (tv l ++ [.int .u64 x])) : Own w v (l ++ [x]) := by
  unfold Own
  have e1 : (l ++ [x]).length = n := by simp [hn]
  have e2 : tv (l ++ [x]) = tv l ++ [.int .u64 x] := by simp [tv]
  rw [e1, e2]
  exact owns_weak o (Nat.zero_le _)
set_option maxHeartbeats 1000000 in
theorem with_any {w : World} {v : Value} {l : List Int} (ho : Own w v l) (hl : l.length ≤ 4096) (t : Int) :
    Calls Try.prog 32 #[v, .int .u64 t] w fun e w' => ∃ v', e = .returned v' ∧ Own w' v' (add l t) ∧ Below w.heap.size w w' := by
  obtain ⟨i0, hi0, hz0, hz1, hz2⟩ := info_parts Try.infoU
  have HO : Hid (Own w v l) := ho
  obtain ⟨a, cap, rfl⟩ := ho.len
  clear ho
  go_enter Try.func32, Try.ntmps32
  go_wp2_with fail
  go_loop [5] (fun i => ∃ k : Nat, k ≤ l.length ∧ i = .int .i64 k ∧ ∀ j, j < k → l[j]? ≠ some t) (fun i => l.length - (intOf i).toNat)
  case atStart => exact ⟨0, by omega, rfl, fun j hj => by omega⟩
  case round =>
    obtain ⟨k, hk, rfl, hb⟩ := hrel
    have HB : Hid (∀ j, j < k → l[j]? ≠ some t) := hb
    clear hb
    by_cases hlt : k < l.length
    · have hg : l[k]? = some l[k] := List.getElem?_eq_getElem hlt
      obtain ⟨g, cap', e1, hc⟩ := HO.out.cell hg
      cases e1
      have HG : Hid (l[k]? = some l[k]) := hg
      clear hg
      generalize l[k] = x at *
      by_cases e : x = t
      · subst e
        have HA : Hid (add l x = l) := by unfold Hid add; rw [if_pos (List.mem_of_getElem? HG.out)]
        go_wp2
        go_ret
        exact ⟨_, rfl, by rw [HA.out]; exact HO.out, Below.refl _ _⟩
      · go_wp2_with fail
        go_round
        case rel =>
          refine ⟨k + 1, by omega, by go_num, fun j hj => ?_⟩
          by_cases q : j < k
          · exact HB.out j q
          · obtain rfl : j = k := by omega
            rw [HG.out]
            intro z
            injection z with z
            exact e z
        case measure => simp [intOf]; omega
    · obtain rfl : k = l.length := by omega
      have HA : Hid (add l t = l ++ [t]) := by
        unfold Hid add
        rw [if_neg]
        intro h
        obtain ⟨j, hj⟩ := List.getElem?_of_mem h
        exact HB.out j (List.getElem?_eq_some_iff.1 hj).1 hj
      clear HB
      have o1 : w.ownsRow w.heap.size 32 1 (.slice none 0 0) 0 [] := World.ownsRow_nil _ _ _ _
      rcases HO.out.shape with ⟨e, rfl⟩ | ⟨g, cap, L, e, hB, c1, c2, c3, c4⟩
      · cases e
        go_wp2_with (first
          | (at_builtin; refine wpList_append_own_none rfl (.tmp 20) (.tmp 21) 37 rfl w.heap.size 32 i0 1 Try.underlying37 hi0 (.slice none 0 0) 0 [] rfl o1 rfl ?_)
          | (at_builtin; refine wpList_append_own _ rfl (.tmp 23) (.tmp 25) 37 rfl w.heap.size 32 i0 _ 1 8 Try.underlying37 hi0 hz0 hz1 hz2 rfl (by decide) (.slice none 0 0) 0 [] rfl (o1.alloc _) ⟨w.heap.size, 0, none⟩ 1 1 [.int .u64 t] rfl rfl (cell_one_new _ _ _) (by intro u hu; simp at hu; subst hu; rfl) (by unfold maxLen; omega) (by omega) (by simp) ?_; intro v2 w2 o2 gr2 nil2))
        go_ret
        refine ⟨_, rfl, ?_, ((Below.refl _ _).alloc (Nat.le_refl _) _).grown gr2 (by simp) (fun k hk => by cases hk)⟩
        rw [HA.out]
        exact Own.of_snoc rfl o2
      · cases e
        have HC : Hid (∀ j u, (tv l)[j]? = some u → w.cell? ((⟨g, 0, none⟩ : Addr).add j) = some u) := by
          intro j u hu
          have hj : j < l.length := by have := (List.getElem?_eq_some_iff.1 hu).1; rwa [tv_len] at this
          rw [Go.WideShapes.add_plain, Nat.zero_add, hB.cell j, ← List.getElem?_take_of_lt hj, c4]
          exact hu
        have HL : Hid ((tv l).length = l.length * 1) := by unfold Hid; rw [tv_len]; omega
        have HV : Hid (∀ u ∈ tv l, u.oneCell' = true) := tv_one l
        have HS : Hid (∀ (W : World) (b : Nat) (v : Value) (n : Nat), n = l.length + 1 → W.ownsRow b 32 1 v n (tv l ++ [.int .u64 t]) → Own W v (l ++ [t])) := fun W b v n h o => Own.of_snoc h.symm o
        clear hB c4 c3 c2 c1
        generalize tv l = xs at *
        generalize l.length = m at *
        go_wp2_with (first
          | (at_builtin; refine wpList_append_own _ rfl (.tmp 20) (.tmp 21) 37 rfl w.heap.size 32 i0 _ 1 8 Try.underlying37 hi0 hz0 hz1 hz2 rfl (by decide) (.slice none 0 0) 0 [] rfl o1 ⟨g, 0, none⟩ m cap xs rfl HL.out HC.out HV.out (by unfold maxLen; omega) (by omega) (Nat.le_refl _) ?_; intro v1 w1 o1' gr1 nil1; rw [Nat.zero_add, List.nil_append] at o1')
          | (at_builtin; refine wpList_append_own _ rfl (.tmp 23) (.tmp 25) 37 rfl w.heap.size 32 i0 _ 1 8 Try.underlying37 hi0 hz0 hz1 hz2 rfl (by decide) v1 m xs rfl (o1'.alloc _) ⟨w1.heap.size, 0, none⟩ 1 1 [.int .u64 t] rfl rfl (cell_one_new _ _ _) (by intro u hu; simp at hu; subst hu; rfl) (by unfold maxLen; omega) (by omega) (by have := gr1.size; simp; omega) ?_; intro v2 w2 o2 gr2 nil2))
        go_ret
        have b1 : Below w.heap.size w w1 := (Below.refl _ _).grown gr1 (Nat.le_refl _) (fun k hk => by cases hk)
        refine ⟨_, rfl, ?_, (b1.alloc b1.size _).grown gr2 (by simp; exact Nat.le_succ_of_le b1.size) (fun k hk => (o1'.lt k hk).1)⟩
        rw [HA.out]
        exact HS.out _ _ _ _ rfl o2
end Go.Proofs.Ytpedgpaebdoafaa
