/- The statement FramesPlays: of any number of frames and all calls, each answer and all pages behind them are those of the reference; no condition of ours (the form's own bound on what is read pays the copies). -/
import Derived.Test.YtbfagelmijimeaaPl
import Derived.Test.YtbfagelmijimeaaOp
namespace Go.Proofs.Ytbfagelmijimeaa
open Go.ChangeShapes Go.WideShapes Go.ChangeAt Go.RowKit Go.Deep
set_option linter.unusedVariables false

theorem Try.cells35 : Try.prog.cellsOf 35 = 7 := by kernel_rfl
theorem Try.bytes5 : Try.prog.bytesOf 5 = 1 := by kernel_rfl
theorem mem_all {H : Type} {P : Program} {e : TypeId} {d : DataW H} {x : Nat} : ∀ {ds : List (DataW H)}, d ∈ ds → x ∈ d.weights P e → x ∈ DataW.weightsAll P e ds
  | [], h, _ => by cases h
  | d0 :: r, h, hx => by
    rw [DataW.weightsAll]
    rcases List.mem_cons.1 h with rfl | h
    · exact List.mem_append_left _ hx
    · exact List.mem_append_right _ (mem_all h hx)
theorem list7 {α : Type} {l : List α} (h : l.length = 7) : ∃ c0 c1 c2 c3 c4 c5 c6, l = [c0, c1, c2, c3, c4, c5, c6] := by
  match l, h with
  | [c0, c1, c2, c3, c4, c5, c6], _ => exact ⟨c0, c1, c2, c3, c4, c5, c6, rfl⟩
/-- One Do, out of its seven cells. -/
theorem open_do {H : Type} {enc : TypeId × Value → H} {W : World} {fuel : Nat} {cs : List Value} {x : DataW H × List MemPlace} (hw : ∀ y ∈ x.1.weights Try.prog 35, y ≤ reachBytes) (hl : cs.length = 7)
    (h : DataW.trod enc Try.prog W 0 (fun _ => true) true fuel 35 cs = some x) :
    ∃ Kind At Size V To From aB lB cB fB, cs = doV Kind At Size V To From aB lB cB ∧ DoIn W.heap.size W Kind At Size V To From aB lB cB fB := by
  obtain ⟨c0, c1, c2, c3, c4, c5, c6, rfl⟩ := list7 hl
  obtain ⟨xs, n, _, hx, _, hlen, hg⟩ := DataW.trod_struct Try.underlying35 h
  match xs, hlen with
  | [y0, y1, y2, y3, y4, y5, y6], _ =>
    have t0 := hg 0 _ rfl
    have t1 := hg 1 _ rfl
    have t2 := hg 2 _ rfl
    have t3 := hg 3 _ rfl
    have t4 := hg 4 _ rfl
    have t5 := hg 5 _ rfl
    have t6 := hg 6 _ rfl
    simp [Try.cells33, Try.cells3, Try.cells32] at t0 t1 t2 t3 t4 t5 t6
    obtain ⟨Kind, e0, _, w0⟩ := DataW.trod_int Try.underlying3 t0
    obtain ⟨At, e1, _, w1⟩ := DataW.trod_int Try.underlying32 t1
    obtain ⟨Size, e2, _, w2⟩ := DataW.trod_int Try.underlying3 t2
    obtain ⟨V, e3, _, w3⟩ := DataW.trod_int Try.underlying32 t3
    obtain ⟨To, e4, _, w4⟩ := DataW.trod_int Try.underlying3 t4
    obtain ⟨From, e5, _, w5⟩ := DataW.trod_int Try.underlying3 t5
    simp at e0 e1 e2 e3 e4 e5
    subst e0 e1 e2 e3 e4 e5
    obtain ⟨aB, lB, cB, fB, rfl, k0, k1, k2, k3, k4, k5⟩ := open_bytes t6
    have hlB : lB ≤ 140737488351232 := by
      rcases k5 with ⟨_, h0⟩ | ⟨es, sp, h5, h6⟩
      · omega
      · have hm : (es.length + sp.length) * Try.prog.bytesOf 5 ∈ x.1.weights Try.prog 35 := by
          rw [hx]
          simp only [DataW.weights, Try.underlying35]
          refine DataW.weights_mem_each (j := 6) (t := 33) (d := y6.1) rfl rfl _ ?_
          rw [h5]
          simp [DataW.weights, Try.underlying33]
        have := hw _ hm
        rw [Try.bytes5] at this
        simp only [reachBytes] at this
        omega
    refine ⟨Kind, At, Size, V, To, From, aB, lB, cB, fB, rfl, wf_i64 w0, wf_u64 w1, wf_i64 w2, wf_u64 w3, wf_i64 w4, wf_i64 w5, hlB, k2, k3, k4, ?_⟩
    intro b off e
    rcases k3 with h0 | ⟨b', off', e', hr⟩
    · exact Or.inl h0
    · rw [e] at e'
      cases e'
      exact Or.inr hr.1
theorem open_dos {H : Type} {enc : TypeId × Value → H} {W : World} {a0 : Option Addr} {len cap : Nat} {d : DataW H} {p : List MemPlace} (hw : ∀ y ∈ d.weights Try.prog 22, y ≤ reachBytes)
    (h : DataW.Trod enc Try.prog W 0 (fun _ => true) true 22 (.slice a0 len cap) d p) : Dos W.heap.size W a0 len ∧ len ≤ maxLen := by
  obtain ⟨fuel, hf⟩ := h
  rcases DataW.trod_slice Try.underlying22 hf with ⟨hcs, hx⟩ | ⟨a, l, c, elems, rest, n, _, hcs, hx, _, hlc, hcm, hlen, hel, _, _⟩
  · simp [Value.cells] at hcs
    obtain ⟨rfl, rfl, rfl⟩ := hcs
    exact ⟨fun i hi => by omega, by unfold maxLen; omega⟩
  · simp [Value.cells] at hcs
    obtain ⟨rfl, rfl, rfl⟩ := hcs
    refine ⟨fun i hi => ?_, by omega⟩
    have hi2 := hel i hi
    rw [List.getElem?_eq_getElem (by omega : i < elems.length)] at hi2
    obtain ⟨cs, hcs, htr⟩ := Option.bind_eq_some_iff.1 hi2
    rw [Try.cells35] at hcs
    obtain ⟨_, hl7, hcell⟩ := World.cells?_some hcs
    have hblk := World.cells?_block hcs (by omega)
    have hd : d = .slice (elems.map (·.1)) (rest.map (·.1)) := (Prod.mk.inj hx).1
    have hwi : ∀ y ∈ (elems[i]'(by omega)).1.weights Try.prog 35, y ≤ reachBytes := by
      intro y hy
      apply hw
      rw [hd]
      simp only [DataW.weights, Try.underlying22]
      refine List.mem_cons_of_mem _ (List.mem_append_left _ (mem_all ?_ hy))
      exact List.mem_map_of_mem (List.getElem_mem _)
    obtain ⟨Kind, At, Size, V, To, From, aB, lB, cB, fB, rfl, hDo⟩ := open_do hwi hl7 htr
    have hspot : a.spot = none := by
      have hz := hel 0 (by omega)
      rw [List.getElem?_eq_getElem (by omega : 0 < elems.length)] at hz
      obtain ⟨cz, hcz, _⟩ := Option.bind_eq_some_iff.1 hz
      rw [Try.cells35] at hcz
      obtain ⟨_, hz7, hzc⟩ := World.cells?_some hcz
      have h0 := hzc 0 (by omega)
      rw [List.getElem?_eq_getElem (by omega : 0 < cz.length)] at h0
      have := World.cell?_spot h0
      simpa [Addr.add] using this
    obtain ⟨b, off, spot⟩ := a
    simp only at hspot
    subst hspot
    refine ⟨b, off, Kind, At, Size, V, To, From, aB, lB, cB, fB, rfl, ?_, fun j v hv => ?_, hDo⟩
    · rw [Go.WideShapes.add_plain] at hblk
      exact hblk
    · have hj : j < 7 := by have := (List.getElem?_eq_some_iff.1 hv).1; simpa [doV] using this
      have := hcell j hj
      rw [Go.WideShapes.add_plain, Go.WideShapes.add_plain] at this
      rw [this]
      exact hv
set_option maxRecDepth 100000 in
theorem liftedPlays (os : Os) (started : os.Started) (H : Type) (enc : TypeId × Value → H) :
    ReturnsInHanded {} Try.checked os 3 .any (Rows.framesPlaysSpec.pre6 enc Try.prog Try.f3 Rows.framesPlaysRow.domain false) (Rows.framesPlaysSpec.post enc Try.prog Try.f3 false true false false) := by
  refine returnsInHanded_of_change_sized (C := Try.checked) own started (by kernel_rfl) Try.func3
    (ChangeSpec.witness6 (enc := enc) (C := Try.checked) false ⟨#[], #[.int .i64 0, .slice none 0 0], []⟩ 8 (by kernel_rfl) (by kernel_rfl) (by kernel_rfl) (by kernel_rfl)) ?_
  intro W base args ds gs before hval0 hW _ hsz0 _
  have hsz : (DataW.weightsEach Try.prog (Try.f3.params.toList ++ Rows.framesPlaysSpec.plain.varTypes Try.prog) (ds ++ gs)).all (· ≤ reachBytes) = true := hsz0
  clear hsz0
  have hval : ∀ (j : Nat) t v, Try.f3.params[j]? = some t → args[j]? = some v → Value.okWide Try.prog W .any base t v := hval0
  have hW' := hW
  obtain ⟨p, q, hA0, hV, rfl, hfz, hnd⟩ := hW
  have hA : DataW.TrodAll enc Try.prog W 0 (fun _ => true) true Try.f3.params.toList args.toList ds p := hA0
  rw [Try.params3] at hA hval hsz
  obtain ⟨v0, vs0, d0, ds0, p0, q0, hargs, rfl, rfl, h0, r0⟩ := trodAll_cons hA
  obtain ⟨v1, vs1, d1, ds1, p1, q1, rfl, rfl, rfl, h1, r1⟩ := trodAll_cons r0
  obtain ⟨rfl, rfl, rfl⟩ := trodAll_nil r1
  obtain rfl : args = #[v0, v1] := by cases args; simp_all
  obtain ⟨rfl, rfl⟩ := trodVars_none hV
  have k1 := h1
  have lt1 : ∀ x ∈ p1, x.block < W.heap.size := by obtain ⟨m, hm⟩ := k1; exact DataW.trod_lt m _ _ _ hm
  obtain ⟨ic, rfl, rfl, rfl, wi⟩ := open_int Try.underlying3 (hval 0 3 v0 rfl rfl) h0
  obtain ⟨a0, len0, cap0, rfl⟩ := okWide_slice Try.underlying22 (hval 1 22 v1 rfl rfl)
  have hww : ∀ y ∈ d1.weights Try.prog 22, y ≤ reachBytes := by
    intro y hy
    have := List.all_eq_true.1 hsz _ (DataW.weights_mem_each (j := 1) (t := 22) (d := d1) rfl rfl y hy)
    simpa using this
  obtain ⟨hdos, hlen⟩ := open_dos hww h1
  clear hA0 hval0
  refine (plays_walk W ic (wf_i64 wi).1 (wf_i64 wi).2 a0 len0 cap0 hlen hdos).mono fun e W' ⟨he, bel⟩ => ?_
  subst he
  exact ⟨_, rfl, _, _, _, [], _, [], hW', trodAll_mk1 (shut_bool Try.underlying4 _), (trodAll_cons_mk (shut_int Try.underlying3 wi) (trodAll_cons_mk (Below.trod laidOut (by kernel_rfl) (of_decide_eq_true (by kernel_rfl)) k1 bel lt1) trodAll_mk0)), rfl, bel.frame _, fun h => by cases h⟩

/-- The statement. -/
theorem framesPlays_holds : Rows.FramesPlaysSaid :=
  OpenClaim.holds_of_wide 3 Try.f3 rfl rfl rfl rfl rfl rfl rfl ⟨rfl, rfl, rfl, rfl, rfl⟩ rfl rfl rfl rfl rfl (by kernel_rfl) Try.func3 (by kernel_rfl)
    (of_decide_eq_true (by kernel_rfl)) (by unfold Func.isWrapper; first | (rw [if_pos (by decide +kernel)]; kernel_rfl) | (rw [if_neg (by decide +kernel)]; exact ⟨rfl, rfl⟩))
    (fun os started H enc _ => liftedPlays os started H enc)
end Go.Proofs.Ytbfagelmijimeaa
