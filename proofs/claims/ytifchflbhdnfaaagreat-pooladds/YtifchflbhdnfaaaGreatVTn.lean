/- PoolAdds' helpers: Within, a list without one; no condition but those that each theorem names. -/
import Derived.Test.YtifchflbhdnfaaaGreatVTm
import Derived.Deep.RegionHeldLaw
namespace Go.Proofs.YtifchflbhdnfaaaGreat.P
open Go.ChangeShapes Go.WideShapes Go.ChangeAt Go.RowKit
set_option linter.unusedVariables false
set_option maxRecDepth 8192

theorem within_eq (k n : Int) (hn : 0 < n) : (if k.tmod n < 0 then k.tmod n + n else k.tmod n) = k % n := by
  rw [Int.tmod_eq_emod]
  have h1 := Int.emod_nonneg k (show n ≠ 0 by omega)
  have h2 := Int.emod_lt_of_pos k hn
  have e : (n.natAbs : Int) = n := Int.natAbs_of_nonneg (by omega)
  by_cases hq : 0 ≤ k ∨ n ∣ k
  · simp only [hq, if_true]
    rw [if_neg (by omega)]
    omega
  · simp only [hq, if_false, e]
    rw [if_pos (by omega)]
    omega
theorem within_any (k n : Int) (h0 : 0 < n) (h1 : n < 4611686018427387904) (hk0 : -9223372036854775808 ≤ k) (hk1 : k < 9223372036854775808) (w : World) :
    Calls Tryz.prog 10 #[.int .i64 k, .int .i64 n] w fun e w' => e = .returned (.int .i64 (k % n)) ∧ w' = w := by
  have HE : Hid _ := within_eq k n h0
  have h2 : -n < k.tmod n := Int.lt_tmod_of_pos k h0
  have h3 : k.tmod n < n := Int.tmod_lt_of_pos k h0
  by_cases hz : k.tmod n < 0
  · rw [if_pos hz] at HE
    go_enter Tryz.func10, Tryz.ntmps10
    go_wp2
    go_ret
    exact ⟨B.ret_int HE.out, rfl⟩
  · rw [if_neg hz] at HE
    go_enter Tryz.func10, Tryz.ntmps10
    go_wp2
    go_ret
    exact ⟨B.ret_int HE.out, rfl⟩
theorem wp_append_any {w : World} {o : Oper} {a : Act} {K : Act → World → Prop} {Q : Exit → Act → World → Prop} {R : Value → World → Prop} (s x : Operand)
    (ho : o.op = .call { callee := .builtin .append, args := #[s, x], argTypes := #[25, 25] }) (vs vx : Value) (hs : a.eval s = vs) (hx : a.eval x = vx)
    (hr : ∃ v' w', (Builtin.append_ #[25, 25] o.type #[vs, vx]).run Tryz.prog w = .ok v' w' ∧ R v' w') (h : ∀ v' w', R v' w' → K (a.put o.dst v') w') : o.wp Tryz.prog a w K Q := by
  obtain ⟨v', w', hr, hR⟩ := hr
  unfold Oper.wp execOp
  simp only [ho, resolve, invoke, builtin, Sem.run_bind, Sem.run_pure, Result.andThen_ok, List.map_toArray, List.map_cons, List.map_nil, hs, hx, hr]
  exact h v' w' hR
theorem step_append_any {w : World} {ops : Array Oper} {o : Oper} {a : Act} {K : Act → World → Prop} {Q : Exit → Act → World → Prop} {E : Prop} {R : Value → World → Prop} (hgd : o.guard = none) (s x : Operand)
    (ho : o.op = .call { callee := .builtin .append, args := #[s, x], argTypes := #[25, 25] }) (vs vx : Value) (hs : a.eval s = vs) (hx : a.eval x = vx)
    (hr : ∃ v' w', (Builtin.append_ #[25, 25] o.type #[vs, vx]).run Tryz.prog w = .ok v' w' ∧ R v' w') (h : ∀ v' w', R v' w' → K (a.put o.dst v') w') :
    if Region.wanted o (yielded ops a.tmps) = true then Oper.wp Tryz.prog o a w K Q else E := by
  have hw : Region.wanted o (yielded ops a.tmps) = true := by simp [Region.wanted, hgd]
  rw [if_pos hw]
  exact wp_append_any s x ho vs vx hs hx hr h
/-- Numbers behind a list of the call's own. -/
theorem app_run {W : World} {base : Nat} {v : Value} {l1 : List Int} (h : Is W base v l1) (hb : base ≤ W.heap.size) (b off m c : Nat) (l2 : List Int) (hm : l2.length = m) (hc : ∀ j x, l2[j]? = some x → W.cell? ⟨b, off + j, none⟩ = some (.int .i64 x)) (hle : l1.length + m ≤ 5000) (ty : TypeId) :
    ∃ v' w', (Builtin.append_ #[25, 25] ty #[v, .slice (some ⟨b, off, none⟩) m c]).run Tryz.prog W = .ok v' w' ∧ (Is w' base v' (l1 ++ l2) ∧ W.grownBy w' v.ownBlock) := by
  obtain ⟨i0, hi0, hz0, hz1, hz2⟩ := info_parts B.Tryz.infoI
  obtain ⟨v', w', hr, ho, hg, _⟩ := run_append_own W base 25 ty 3 i0 _ 1 8 Tryz.underlying25 hi0 hz0 hz1 hz2 rfl (by decide) v l1.length (B.tv l1) h ⟨b, off, none⟩ m c (B.tv l2) (by rw [B.tv_len]; omega) (fun j u hu => by
    rw [B.tv_get] at hu
    obtain ⟨x, hx, rfl⟩ := Option.map_eq_some_iff.1 hu
    rw [Go.WideShapes.add_plain]
    exact hc j x hx) (B.tv_one l2) (by unfold maxLen; omega) (by omega) hb
  refine ⟨v', w', hr, ?_, hg⟩
  unfold Is
  rw [show B.tv (l1 ++ l2) = B.tv l1 ++ B.tv l2 by simp [B.tv], List.length_append, hm]
  exact ho
/-- What CopyInts gives, as a list of the call's own. -/
theorem copy_is {w : World} {b : Nat} {off c : Nat} (L : List Int) (hl : L.length ≤ 5000) (hc : ∀ j x, L[j]? = some x → w.cell? ⟨b, off + j, none⟩ = some (.int .i64 x)) :
    Calls Tryz.prog 21 #[.slice (some ⟨b, off, none⟩) L.length c] w fun e w' => ∃ v, e = .returned v ∧ Is w' w.heap.size v L ∧ Below w.heap.size w w' := by
  obtain ⟨i0, hi0, hz0, hz1, hz2⟩ := info_parts B.Tryz.infoI
  have o1 : w.ownsRow w.heap.size 3 1 (.slice none 0 0) 0 [] := World.ownsRow_nil _ _ _ _
  have HC : Hid (∀ j u, (B.tv L)[j]? = some u → w.cell? ((⟨b, off, none⟩ : Addr).add j) = some u) := by
    intro j u hu
    rw [B.tv_get] at hu
    obtain ⟨x, hx, rfl⟩ := Option.map_eq_some_iff.1 hu
    rw [Go.WideShapes.add_plain]
    exact hc j x hx
  have HL : Hid ((B.tv L).length = L.length * 1) := by unfold Hid; rw [B.tv_len]; omega
  have HV : Hid (∀ u ∈ B.tv L, u.oneCell' = true) := B.tv_one L
  have HQ : Hid (∀ v w', w'.ownsRow w.heap.size 3 1 v (0 + L.length) ([] ++ B.tv L) → w.grownBy w' (Value.slice none 0 0).ownBlock → Is w' w.heap.size v L ∧ Below w.heap.size w w') := fun v w' o g => by
    rw [Nat.zero_add, List.nil_append] at o
    exact ⟨o, (Below.refl _ w).grown g (Nat.le_refl _) (fun k hk => by cases hk)⟩
  clear hc
  generalize B.tv L = xs at *
  generalize L.length = l at *
  go_enter Tryz.func21, Tryz.ntmps21
  go_wp2_with (at_builtin; refine wpList_append_own _ rfl (.tmp 4) (.tmp 5) 25 rfl w.heap.size 3 i0 _ 1 8 Tryz.underlying25 hi0 hz0 hz1 hz2 rfl (by decide) (.slice none 0 0) 0 [] rfl o1 ⟨b, off, none⟩ l c xs rfl HL.out HC.out HV.out (by unfold maxLen; omega) (by omega) (Nat.le_refl _) ?_; intro v1 w1 o1' gr1 nil1)
  go_ret
  exact ⟨_, rfl, HQ.out _ _ o1' gr1⟩
/-- What l[1:] is. -/
theorem slice_one (g k cap : Nat) (h1 : 1 ≤ k) (h2 : k ≤ cap) : ∃ o c, (∀ W : World, (Instr.sliceAt 25 (.slice (some ⟨g, 0, none⟩) k cap) (some (.int .i64 1)) none none).run Tryz.prog W = .ok (.slice (some ⟨g, o, none⟩) (k - 1) c) W) ∧ (k = 1 ∨ o = 1) := by
  by_cases h : cap = 1
  · subst h
    obtain rfl : k = 1 := by omega
    refine ⟨0, 0, fun W => ?_, Or.inl rfl⟩
    simp [Instr.sliceAt, go_sem, run_underlying Tryz.underlying25]
  · refine ⟨1, cap - 1, fun W => ?_, Or.inr rfl⟩
    simp [Instr.sliceAt, go_sem, run_underlying Tryz.underlying25]
    rw [if_pos (by omega), if_neg h]
/-- What is read of a list behind its first one. -/
theorem arg_one {W : World} {base g k cap o c : Nat} {l : List Int} (h : Is W base (.slice (some ⟨g, 0, none⟩) k cap) l) (hk : l.length = k) (h1 : 1 ≤ k) (ho : k = 1 ∨ o = 1) : Arg W (some ⟨g, o, none⟩) (k - 1) (fun i => l.getD (i + 1) 0) := by
  rcases ho with rfl | rfl
  · exact Or.inl rfl
  · obtain ⟨a, c', e, hc⟩ := h.cell
    rw [hk] at e hc
    cases e
    refine Or.inr ⟨g, 1, rfl, (h.own.lt g rfl), fun i hi => ?_⟩
    obtain ⟨g', e', hx⟩ := hc W (Below.refl _ _) (i + 1) (by omega)
    cases e'
    rw [Nat.add_comm 1 i]
    exact hx
end Go.Proofs.YtifchflbhdnfaaaGreat.P
