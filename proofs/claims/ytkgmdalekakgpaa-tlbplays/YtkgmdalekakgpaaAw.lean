/- The statement TlbAges's own functions: without, and one ahead of a row. -/
import Derived.Test.YtkgmdalekakgpaaSt
import Derived.Laws.AppendOwnNone
namespace Go.Proofs.Ytkgmdalekakgpaa
open Go.ChangeShapes Go.WideShapes Go.ChangeAt Go.RowKit
set_option linter.unusedVariables false

theorem rm_snoc_no {a p : Int} {l : List Tr} {j : Nat} {y : Tr} (h : l[j]? = some y) (hy : hk a p y = false) : rm a p (l.take (j + 1)) = rm a p (l.take j) ++ [y] := by
  rw [List.take_add_one, h]
  simp [rm, List.filter_append, hy]
theorem rm_snoc_is {a p : Int} {l : List Tr} {j : Nat} {y : Tr} (h : l[j]? = some y) (hy : hk a p y = true) : rm a p (l.take (j + 1)) = rm a p (l.take j) := by
  rw [List.take_add_one, h]
  simp [rm, List.filter_append, hy]
set_option maxHeartbeats 2000000 in
theorem without_any {B : Nat} {w : World} {v : Value} {l : List Tr} (ho : Own B w v l) (hl : l.length ≤ 1000) (a p : Int) :
    Calls Try.prog 27 #[v, .int .i64 a, .int .i64 p] w fun e w' => ∃ v', e = .returned v' ∧ Own w.heap.size w' v' (rm a p l) ∧ Below w.heap.size w w' := by
  obtain ⟨i0, hi0, hz0, hz1, hz2⟩ := info_parts Try.infoT
  obtain ⟨ao, cap, hv⟩ := ho.len
  subst hv
  have HO : Hid (Own B w (.slice ao l.length cap) l) := ho
  clear ho
  go_enter Try.func27, Try.ntmps27
  go_wp2_with fail
  go_loopw [7, 8] (fun v i wr => ∃ j : Nat, j ≤ l.length ∧ i = .int .i64 j ∧ Own w.heap.size wr v (rm a p (l.take j)) ∧ Below w.heap.size w wr) (fun _ i _ => l.length - (intOf i).toNat)
  case atStart => exact ⟨0, by omega, rfl, Own.nil _ _, Below.refl _ _⟩
  case round =>
    obtain ⟨j, hj, rfl, o, hb⟩ := hrel
    have HB : Hid (Below w.heap.size w wr) := hb
    have hsz := hb.size
    have HK : Hid (wr.ownsRow w.heap.size 32 6 u7 (rm a p (l.take j)).length (tv (rm a p (l.take j)))) := o
    have hA : (rm a p (l.take j)).length ≤ 1000 := Nat.le_trans (rm_len _ _ _) (by simp; omega)
    clear o
    by_cases hlt : j < l.length
    · have hg : l[j]? = some l[j] := List.getElem?_eq_getElem hlt
      have HG : Hid (l[j]? = some l[j]) := hg
      obtain ⟨gr, cap', e1, ⟨d0, d1, d2, d3, d4, d5⟩, _, hgl, hc1, hc2⟩ := (HO.out.below hb).cell hg
      cases e1
      clear hg hb
      generalize l[j] = z at *
      unfold maxLen at hc2
      by_cases ha : z.a = a ∧ z.p = p
      · have HZ : Hid (hk a p z = true) := by unfold Hid; simp [hk, ha.1, ha.2]
        have q1 : (z.a != a) = false := by simp [ha.1]
        have q2 : (z.p != p) = false := by simp [ha.2]
        clear ha
        have HK2 : Hid (Own w.heap.size wr u7 (rm a p (l.take (j + 1)))) := by
          unfold Hid
          rw [rm_snoc_is HG.out HZ.out]
          exact HK.out
        go_wp2_with fail
        go_roundw
        case rel => exact ⟨j + 1, by omega, by go_num, HK2.out, HB.out⟩
        case measure => simp [intOf]; omega
      · have HZ : Hid (hk a p z = false) := by
          unfold Hid
          cases e : hk a p z with
          | false => rfl
          | true => exact absurd (hk_eq e) ha
        have q : (z.a != a) = true ∨ ((z.a != a) = false ∧ (z.p != p) = true) := by
          by_cases e : z.a = a
          · right
            exact ⟨by simp [e], by simpa using fun e2 => ha ⟨e, e2⟩⟩
          · left
            simpa using e
        clear ha
        have HN : Hid (∀ j u, (tc z)[j]? = some u → (wr.alloc (.cells #[.int .i64 z.a, .int .i64 z.p, .int .i64 z.f, .bool z.r, .bool z.w, .bool z.d] 32)).cell? ((⟨wr.heap.size, 0, none⟩ : Addr).add j) = some u) := box_cells wr z 32
        have HT : Hid (∀ v ∈ tc z, v.oneCell' = true) := tc_one z
        have HF : Hid (rm a p (l.take (j + 1)) = rm a p (l.take j) ++ [z]) := rm_snoc_no HG.out HZ.out
        obtain ⟨A, hAA⟩ : ∃ A, rm a p (l.take j) = A := ⟨_, rfl⟩
        have HAA : Hid (rm a p (l.take j) = A) := hAA
        rw [hAA] at HK hA HF
        clear hAA
        rcases q with q1 | ⟨q1, q2⟩
        all_goals (
          go_wp2_with (at_builtin; refine wpList_append_own _ rfl (.tmp 31) (.tmp 36) 35 rfl w.heap.size 32 i0 _ 6 32 Try.underlying35 hi0 hz0 hz1 hz2 rfl (by decide) _ A.length _ rfl (World.ownsRow.alloc HK.out _) ⟨wr.heap.size, 0, none⟩ 1 1 (tc z) rfl rfl HN.out HT.out (by unfold maxLen; omega) (by omega) (by simp; omega) ?_; intro v3 w3 o3 gr3 nil3)
          go_roundw
          case rel =>
            refine ⟨j + 1, by omega, by go_num, ?_, (HB.out.alloc hsz _).grown gr3 (by simp; omega) (fun k hk => (HK.out.lt k hk).1)⟩
            rw [HF.out]
            unfold Own
            rw [tv_app, List.length_append, show tv [z] = tc z by simp [tv]]
            exact o3
          case measure => simp [intOf]; omega)
    · obtain rfl : j = l.length := by omega
      clear hb
      have HK2 : Hid (Own w.heap.size wr u7 (rm a p l)) := by
        have := HK.out
        rw [List.take_of_length_le (Nat.le_refl _)] at this
        exact this
      go_wp2
      go_ret
      exact ⟨_, rfl, HK2.out, HB.out⟩
theorem wp_append_any {w : World} {o : Oper} {a : Act} {K : Act → World → Prop} {Q : Exit → Act → World → Prop} {R : Value → World → Prop} (s x : Operand)
    (ho : o.op = .call { callee := .builtin .append, args := #[s, x], argTypes := #[35, 35] }) (vs vx : Value) (hs : a.eval s = vs) (hx : a.eval x = vx)
    (hr : ∃ v' w', (Builtin.append_ #[35, 35] o.type #[vs, vx]).run Try.prog w = .ok v' w' ∧ R v' w') (h : ∀ v' w', R v' w' → K (a.put o.dst v') w') : o.wp Try.prog a w K Q := by
  obtain ⟨v', w', hr, hR⟩ := hr
  unfold Oper.wp execOp
  simp only [ho, resolve, invoke, builtin, Sem.run_bind, Sem.run_pure, Result.andThen_ok, List.map_toArray, List.map_cons, List.map_nil, hs, hx, hr]
  exact h v' w' hR
theorem step_append_any {w : World} {ops : Array Oper} {o : Oper} {a : Act} {K : Act → World → Prop} {Q : Exit → Act → World → Prop} {E : Prop} {R : Value → World → Prop} (hgd : o.guard = none) (s x : Operand)
    (ho : o.op = .call { callee := .builtin .append, args := #[s, x], argTypes := #[35, 35] }) (vs vx : Value) (hs : a.eval s = vs) (hx : a.eval x = vx)
    (hr : ∃ v' w', (Builtin.append_ #[35, 35] o.type #[vs, vx]).run Try.prog w = .ok v' w' ∧ R v' w') (h : ∀ v' w', R v' w' → K (a.put o.dst v') w') :
    if Region.wanted o (yielded ops a.tmps) = true then Oper.wp Try.prog o a w K Q else E := by
  have hw : Region.wanted o (yielded ops a.tmps) = true := by simp [Region.wanted, hgd]
  rw [if_pos hw]
  exact wp_append_any s x ho vs vx hs hx hr h
theorem wpList_append_any {w : World} {ops : Array Oper} {rest : List Oper} {o : Oper} {a : Act} {Q : Exit → Act → World → Prop} {R : Value → World → Prop} (hgd : o.guard = none) (s x : Operand)
    (ho : o.op = .call { callee := .builtin .append, args := #[s, x], argTypes := #[35, 35] }) (vs vx : Value) (hs : a.eval s = vs) (hx : a.eval x = vx)
    (hr : ∃ v' w', (Builtin.append_ #[35, 35] o.type #[vs, vx]).run Try.prog w = .ok v' w' ∧ R v' w') (h : ∀ v' w', R v' w' → wpList Try.prog ops Q rest (a.put o.dst v') w') : wpList Try.prog ops Q (o :: rest) a w :=
  wpList_plain hgd fun _ hK => wp_append_any s x ho vs vx hs hx hr fun v' w' hR => hK _ _ (h v' w' hR)
/-- One ahead of the first k of a row. -/
theorem front_run {W : World} {g0 r vrc k B : Nat} {vr0 : Option Addr} {L : List Tr} {x : Tr} (hB : Blk W g0 32 (tc x)) (hb : B ≤ g0) (ho : Own 0 W (.slice vr0 r vrc) L) (hk : k ≤ L.length) (hl : L.length ≤ 1000) (ty : TypeId) :
    ∃ v' w', (Builtin.append_ #[35, 35] ty #[.slice (some ⟨g0, 0, none⟩) 1 1, .slice vr0 k vrc]).run Try.prog W = .ok v' w' ∧ (Own B w' v' (x :: L.take k) ∧ W.grownBy w' (some g0)) := by
  obtain ⟨i0, hi0, hz0, hz1, hz2⟩ := info_parts Try.infoT
  have hown : Own B W (.slice (some ⟨g0, 0, none⟩) 1 1) [x] := Own.of_blk (l := [x]) hb hB (by simp) (by unfold maxLen; omega) (by rfl) (by simp [tv]; rfl)
  have hlt := hB.lt
  rcases ho.shape with ⟨e, rfl⟩ | ⟨g, cap, L', e, _, hB2, h1, h2, h3, h4⟩
  · cases e
    obtain rfl : k = 0 := by simpa using hk
    refine ⟨_, _, run_append_owned_none (P := Try.prog) (w := W) B 35 ty 32 i0 6 Try.underlying35 hi0 _ 1 (tv [x]) hown, ?_, World.grownBy.refl _ _⟩
    simpa using hown
  · cases e
    have ht : (tv (L.take k)).length = k * 6 := by rw [tv_len]; simp; omega
    obtain ⟨v', w', hr, o, G, _⟩ := run_append_own (P := Try.prog) W B 35 ty 32 i0 _ 6 32 Try.underlying35 hi0 hz0 hz1 hz2 rfl (by decide) (.slice (some ⟨g0, 0, none⟩) 1 1) 1 (tv [x]) hown ⟨g, 0, none⟩ k vrc (tv (L.take k)) ht (fun j u hu => by
      have hj := (List.getElem?_eq_some_iff.1 hu).1
      rw [ht] at hj
      rw [Go.WideShapes.add_plain, Nat.zero_add, hB2.cell, ← List.getElem?_take_of_lt (j := L.length * 6) (by omega), h4, ← List.getElem?_take_of_lt (j := k * 6) (by omega), tv_take]
      exact hu) (tv_one _) (by unfold maxLen; omega) (by omega) (by omega)
    refine ⟨v', w', hr, ?_, G⟩
    unfold Own
    rw [show x :: L.take k = [x] ++ L.take k by rfl, tv_app, List.length_append]
    have : (L.take k).length = k := by simp; omega
    rw [this]
    exact o
end Go.Proofs.Ytkgmdalekakgpaa
