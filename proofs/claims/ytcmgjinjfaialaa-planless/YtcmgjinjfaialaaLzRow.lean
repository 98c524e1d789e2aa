/- PlanLess, as the statement asks. -/
import Derived.Test.YtcmgjinjfaialaaOp
import Derived.Test.YtcmgjinjfaialaaLz
namespace Go.Proofs.Ytcmgjinjfaialaa
open Go.ChangeShapes Go.WideShapes Go.ChangeAt Go.RowKit Go.Deep
set_option linter.unusedVariables false

/-- How a list of numbers is read, with the ranges of its numbers. -/
theorem open_by {H : Type} {enc : TypeId × Value → H} {W : World} {fuel : Nat} {cs : List Value} {x : DataW H × List MemPlace}
    (h : DataW.trod enc Try.prog W 0 (fun _ => true) true fuel 25 cs = some x) :
    ∃ a0 l c f, cs = [.slice a0 l c] ∧ Arg W a0 l f ∧ (∀ i, i < l → -9223372036854775808 ≤ f i ∧ f i ≤ 9223372036854775807) ∧ (l = 0 ∨ ∃ es sp, x.1 = .slice es sp ∧ l ≤ es.length + sp.length) := by
  rcases open_ints Try.underlying25 Try.underlying3 Try.cells3 h with ⟨hcs, _⟩ | ⟨a, l', c', zs, hcs, _, hlc, hcm, hlen, hx, hcell, hwf⟩
  · subst hcs
    exact ⟨none, 0, 0, fun _ => 0, rfl, Or.inl rfl, fun i hi => by omega, Or.inl rfl⟩
  · subst hcs
    simp at hlen
    refine ⟨some a, l', c', fun i => zs.getD i 0, rfl, ?_, fun i hi => ?_, Or.inr ⟨_, _, by rw [hx], ?_⟩⟩
    · by_cases h0 : l' = 0
      · exact Or.inl h0
      · right
        have hfirst := hcell 0 (by omega)
        obtain ⟨b, off, spot⟩ := a
        have hspot : spot = none := by simpa [Addr.add] using World.cell?_spot hfirst
        subst hspot
        refine ⟨b, off, rfl, ?_, fun i hi => ?_⟩
        · have := World.block_lt_of_cell? W _ hfirst
          simpa [Addr.add] using this
        · have := hcell i (by omega)
          rw [Go.WideShapes.add_plain] at this
          exact this
    · have hi2 : i < zs.length := by omega
      have e : zs.getD i 0 = zs[i] := by simp [List.getD, hi2]
      show -9223372036854775808 ≤ zs.getD i 0 ∧ zs.getD i 0 ≤ 9223372036854775807
      rw [e]
      exact wf_i64 (hwf _ (List.getElem_mem hi2))
    · simp [lits]
      omega
set_option maxRecDepth 100000 in
theorem liftedPlanLess (os : Os) (started : os.Started) (H : Type) (enc : TypeId × Value → H) :
    ReturnsInHanded {} Try.checked os 6 .any (Rows.planLessSpec.pre6 enc Try.prog Try.f6 Rows.planLessRow.domain false) (Rows.planLessSpec.post enc Try.prog Try.f6 false true false false) := by
  refine returnsInHanded_of_change_sized (C := Try.checked) own started (by kernel_rfl) Try.func6
    (ChangeSpec.witness6 (enc := enc) (C := Try.checked) false ⟨#[], #[.agg #[.int .i64 0, .int .i64 0, .int .i64 0, .int .i64 0, .int .i64 0, .int .i64 0, .int .u64 0, .int .u64 0, .int .u64 0, .int .u64 0, .int .u64 0, .int .u64 0, .int .u64 0, .int .u64 0, .int .u64 0, .slice none 0 0, .slice none 0 0], .int .i64 0, .slice none 0 0], []⟩ 8 (by kernel_rfl) (by kernel_rfl) (by kernel_rfl) (by kernel_rfl)) ?_
  intro W base args ds gs before hval0 hW _ hsz0 _
  have hsz : (DataW.weightsEach Try.prog (Try.f6.params.toList ++ Rows.planLessSpec.plain.varTypes Try.prog) (ds ++ gs)).all (· ≤ reachBytes) = true := hsz0
  clear hsz0
  have hval : ∀ (j : Nat) t v, Try.f6.params[j]? = some t → args[j]? = some v → Value.okWide Try.prog W .any base t v := hval0
  have hW' := hW
  obtain ⟨p, q, hA0, hV, rfl, hfz, hnd⟩ := hW
  have hA : DataW.TrodAll enc Try.prog W 0 (fun _ => true) true Try.f6.params.toList args.toList ds p := hA0
  rw [Try.params6] at hA hval hsz
  obtain ⟨v0, vs0, d0, ds0, p0, q0, hargs, rfl, rfl, h0, r0⟩ := trodAll_cons hA
  obtain ⟨v1, vs1, d1, ds1, p1, q1, rfl, rfl, rfl, h1, r1⟩ := trodAll_cons r0
  obtain ⟨v2, vs2, d2, ds2, p2, q2, rfl, rfl, rfl, h2, r2⟩ := trodAll_cons r1
  obtain ⟨rfl, rfl, rfl⟩ := trodAll_nil r2
  obtain rfl : args = #[v0, v1, v2] := by cases args; simp_all
  obtain ⟨rfl, rfl⟩ := trodVars_none hV
  have k0 := h0
  have lt0 : ∀ x ∈ p0, x.block < W.heap.size := by obtain ⟨m, hm⟩ := k0; exact DataW.trod_lt m _ _ _ hm
  have k1 := h1
  have lt1 : ∀ x ∈ p1, x.block < W.heap.size := by obtain ⟨m, hm⟩ := k1; exact DataW.trod_lt m _ _ _ hm
  have k2 := h2
  have lt2 : ∀ x ∈ p2, x.block < W.heap.size := by obtain ⟨m, hm⟩ := k2; exact DataW.trod_lt m _ _ _ hm
  obtain ⟨xa0, xc0, hv0, g0⟩ := open_k (hval 0 28 v0 rfl rfl) h0
  have ci0 : Cin W xa0 xc0 := g0 (fun m hm => by
    have := List.all_eq_true.1 hsz _ (DataW.weights_mem_each (j := 0) (t := 28) (d := d0) rfl rfl _ hm)
    exact of_decide_eq_true this)
  obtain ⟨a1, hv1, _, _, wi1⟩ := open_int Try.underlying3 (hval 1 3 v1 rfl rfl) h1
  have wa1 := wf_i64 wi1
  obtain ⟨ao2, len2, cap2, rfl⟩ := okWide_slice Try.underlying25 (hval 2 25 v2 rfl rfl)
  obtain ⟨fuel2, hfu2⟩ := h2
  obtain ⟨ao3, len3, cap3, f2, e2, hb2, hr2, hs2⟩ := open_by (cs := [.slice ao2 len2 cap2]) (by simpa [Value.cells] using hfu2)
  simp only [List.cons.injEq, and_true, Value.slice.injEq] at e2
  obtain ⟨rfl, rfl, rfl⟩ := e2
  have hz2 : len2 * 8 ≤ 140737488351232 := by
    rcases hs2 with h0 | ⟨es, sp, h5, h6⟩
    · omega
    · have h5' : d2 = .slice es sp := h5
      have hm : (es.length + sp.length) * Try.prog.bytesOf 3 ∈ d2.weights Try.prog 25 := by
        rw [h5']
        simp [DataW.weights, Try.underlying25]
      have := List.all_eq_true.1 hsz _ (DataW.weights_mem_each (j := 2) (t := 25) (d := d2) rfl rfl _ hm)
      rw [show Try.prog.bytesOf 3 = 8 by kernel_rfl] at this
      have this := of_decide_eq_true this
      simp only [reachBytes] at this
      omega
  clear hA0 hval0
  have HW : Calls Try.prog 6 #[v0, v1, .slice ao2 len2 cap2] W fun e W' => e = .returned (.bool true) ∧ Below W.heap.size W W' := by
    rw [hv0, hv1]
    exact (PlanLess_any ci0 a1 wa1.1 wa1.2 hb2 hz2 hr2)
  refine HW.mono fun e W' ⟨he, bel⟩ => ?_
  subst he
  exact ⟨_, rfl, _, _, _, [], _, [], hW', trodAll_mk1 (shut_bool Try.underlying4 _), (trodAll_cons_mk (Below.trod laidOut (by kernel_rfl) (of_decide_eq_true (by kernel_rfl)) k0 bel lt0) (trodAll_cons_mk (Below.trod laidOut (by kernel_rfl) (of_decide_eq_true (by kernel_rfl)) k1 bel lt1) (trodAll_cons_mk (Below.trod laidOut (by kernel_rfl) (of_decide_eq_true (by kernel_rfl)) k2 bel lt2) trodAll_mk0))), rfl, bel.frame _, fun h => by cases h⟩

/-- The statement. -/
theorem planLess_holds : Rows.PlanLessSaid :=
  OpenClaim.holds_of_wide 6 Try.f6 rfl rfl rfl rfl rfl rfl rfl ⟨rfl, rfl, rfl, rfl, rfl⟩ rfl rfl rfl rfl rfl (by kernel_rfl) Try.func6 (by kernel_rfl)
    (of_decide_eq_true (by kernel_rfl)) (by unfold Func.isWrapper; first | (rw [if_pos (by decide +kernel)]; kernel_rfl) | (rw [if_neg (by decide +kernel)]; exact ⟨rfl, rfl⟩))
    (fun os started H enc _ => liftedPlanLess os started H enc)
end Go.Proofs.Ytcmgjinjfaialaa
