/- What choose of package colour gives back: of each colour whether it stands in a list, if the list may be; no condition. -/
import Derived.Test.YtoondpgdodmngaaFn
import Derived.Deep.WholeRow
import Derived.Deep.RegionWith
import Derived.Deep.AppendLies
import Derived.Laws.ResultCell
import Derived.Laws.IdiomCopy
namespace Go.Proofs.Ytoondpgdodmngaa
open Go.ChangeShapes Go.WideShapes Go.ChangeAt Go.RowKit
set_option linter.unusedVariables false

/-- Numbers that came in: l of them, the i-th is f i. -/
def Arg (w : World) (ao : Option Addr) (l : Nat) (f : Nat → Int) : Prop := l = 0 ∨ ∃ b off, ao = some ⟨b, off, none⟩ ∧ b < w.heap.size ∧ ∀ i, i < l → w.cell? ⟨b, off + i, none⟩ = some (.int .i64 (f i))
theorem Arg.at' {w w' : World} {ao : Option Addr} {l : Nat} {f : Nat → Int} (h : Arg w ao l f) (hb : Below w.heap.size w w') {i : Nat} (hi : i < l) : ∃ b off, ao = some ⟨b, off, none⟩ ∧ w'.cell? ⟨b, off + i, none⟩ = some (.int .i64 (f i)) := by
  rcases h with h | ⟨b, off, e, hl, hr⟩
  · omega
  · exact ⟨b, off, e, (hb.cell (p := ⟨b, off + i, none⟩) hl).trans (hr i hi)⟩
theorem Arg.below {w w' : World} {ao : Option Addr} {l : Nat} {f : Nat → Int} (h : Arg w ao l f) (hb : Below w.heap.size w w') : Arg w' ao l f := by
  rcases h with h | ⟨b, off, e, hl, hr⟩
  · exact Or.inl h
  · exact Or.inr ⟨b, off, e, Nat.lt_of_lt_of_le hl hb.size, fun i hi => (hb.cell (p := ⟨b, off + i, none⟩) hl).trans (hr i hi)⟩
theorem below_new (w : World) (o : Obj) : Below w.heap.size w (w.alloc o) := (Below.refl _ _).alloc (Nat.le_refl _) _
theorem below_drewN {B : Nat} {w w' : World} (h : Below B w w') (n : Nat) : Below B w (w'.drewN n) := ⟨h.os, h.tape, h.output, h.size, h.block⟩
theorem below_grow {w w' : World} (h : Below w.heap.size w w') : w.grownBy w' none := ⟨h.os, h.tape, h.output, h.size, fun i hi _ => h.block i hi⟩
/-- Whether x is one of the numbers. -/
def has (l : Nat) (f : Nat → Int) (x : Int) : Bool := (List.range l).any fun i => f i == x
theorem has_iff {l : Nat} {f : Nat → Int} {x : Int} : has l f x = true ↔ ∃ i, i < l ∧ f i = x := by simp [has]
theorem has_zero (f : Nat → Int) (x : Int) : has 0 f x = false := by simp [has]
theorem has_succ (l : Nat) (f : Nat → Int) (x : Int) : has (l + 1) f x = (has l f x || f l == x) := by simp [has, List.range_succ]
/-- The first j numbers are colours of n, each above the one ahead of it. -/
def okP (n : Int) (j : Nat) (f : Nat → Int) : Prop := (∀ i, i < j → 0 ≤ f i ∧ f i < n) ∧ ∀ i, i + 1 < j → f i < f (i + 1)
def okL (n : Int) (l : Nat) (f : Nat → Int) : Prop := (1 ≤ n ∧ n ≤ 16) ∧ okP n l f
/-- The number ahead of the j-th. -/
def la (f : Nat → Int) (j : Nat) : Int := if j = 0 then -1 else f (j - 1)
theorem la_zero (f : Nat → Int) : la f 0 = -1 := rfl
theorem la_succ (f : Nat → Int) (j : Nat) : la f (j + 1) = f j := by simp [la]
theorem okP_zero (n : Int) (f : Nat → Int) : okP n 0 f := ⟨fun i hi => by omega, fun i hi => by omega⟩
theorem okP_succ {n : Int} {j : Nat} {f : Nat → Int} : okP n (j + 1) f ↔ okP n j f ∧ (0 ≤ f j ∧ f j < n) ∧ la f j < f j := by
  constructor
  · intro h
    refine ⟨⟨fun i hi => h.1 i (by omega), fun i hi => h.2 i (by omega)⟩, h.1 j (by omega), ?_⟩
    cases j with
    | zero => have := h.1 0 (by omega); rw [la_zero]; omega
    | succ k => rw [la_succ]; exact h.2 k (by omega)
  · rintro ⟨h, hc, hl⟩
    refine ⟨fun i hi => ?_, fun i hi => ?_⟩
    · by_cases e : i < j
      · exact h.1 i e
      · obtain rfl : i = j := by omega
        exact hc
    · by_cases e : i + 1 < j
      · exact h.2 i e
      · obtain rfl : j = i + 1 := by omega
        rw [la_succ] at hl; exact hl
theorem okP_less {n : Int} {j k : Nat} {f : Nat → Int} (h : okP n k f) (hj : j ≤ k) : okP n j f := ⟨fun i hi => h.1 i (by omega), fun i hi => h.2 i (by omega)⟩
/-- Sixteen truths, as an array's cells. -/
def ar (g : Nat → Bool) : Array Value := ((List.range 16).map fun i => Value.bool (g i)).toArray
theorem ar_size (g : Nat → Bool) : (ar g).size = 16 := by simp [ar]
theorem ar_one (g : Nat → Bool) : (ar g).all (·.oneCell') = true := by
  rw [Array.all_eq_true_iff_forall_mem]
  intro v hv
  simp only [ar, List.mem_toArray, List.mem_map] at hv
  obtain ⟨i, _, rfl⟩ := hv
  rfl
theorem ar_get (g : Nat → Bool) {k : Nat} (hk : k < 16) : (ar g)[k]? = some (.bool (g k)) := by simp [ar, hk]
theorem ar_set (g : Nat → Bool) (k : Nat) : (ar g).setIfInBounds k (.bool true) = ar (fun i => g i || k == i) := by
  apply Array.ext_getElem?
  intro i
  by_cases hi : i < 16
  · rw [ar_get _ hi, Array.getElem?_setIfInBounds]
    by_cases e : k = i
    · subst e
      simp [ar_size, hi]
    · simp [e, ar_get _ hi]
  · rw [Array.getElem?_eq_none (by rw [Array.size_setIfInBounds, ar_size]; omega), Array.getElem?_eq_none (by rw [ar_size]; omega)]
theorem ar_congr {g h : Nat → Bool} (e : ∀ i, i < 16 → g i = h i) : ar g = ar h := by
  unfold ar
  congr 1
  apply List.map_congr_left
  intro i hi
  rw [e i (by simpa using hi)]
theorem setCell_new (w : World) (C : Array Value) (t : TypeId) (k : Nat) (v : Value) : (w.alloc (.cells C t)).setCell ⟨w.heap.size, k, none⟩ v = w.alloc (.cells (C.setIfInBounds k v) t) := by
  simp only [World.setCell, World.alloc]
  congr 1
  apply Array.ext_getElem?
  intro i
  rw [Array.getElem?_modify]
  by_cases h : w.heap.size = i
  · subst h
    simp
  · have h' : ¬ i = w.heap.size := fun e => h e.symm
    simp [h, h', Array.getElem?_push]
theorem Try.infoA : (Try.prog.info? 41).map (fun i => (i.zero, i.size)) = some (some (.agg (Array.replicate 16 (.bool false))), 16) := by kernel_rfl
theorem ar_false : ar (fun _ => false) = Array.replicate 16 (.bool false) := by
  apply Array.ext_getElem?
  intro i
  by_cases hi : i < 16
  · rw [ar_get _ hi]; simp [hi]
  · rw [Array.getElem?_eq_none (by rw [ar_size]; omega), Array.getElem?_eq_none (by simp; omega)]
theorem wpList_load_at {P : Program} {w : World} {ops : Array Oper} {rest : List Oper} {o : Oper} {a : Act} {Q : Exit → Act → World → Prop} (hgd : o.guard = none) (t : TypeId) (x : Operand)
    (ho : o.op = .load t x) (u v : Value) (hx : a.eval x = u) (hrun : (Instr.loadAt t u).run P w = .ok v w) (h : wpList P ops Q rest (a.put o.dst v) w) : wpList P ops Q (o :: rest) a w := by
  refine wpList_plain hgd fun K hK => ?_
  unfold Oper.wp
  simp [execOp, ho, hx, hrun, Result.andThen]
  exact hK _ _ h
theorem wpList_store_at {P : Program} {w w' : World} {ops : Array Oper} {rest : List Oper} {o : Oper} {a : Act} {Q : Exit → Act → World → Prop} (hgd : o.guard = none) (t : TypeId) (x y : Operand)
    (ho : o.op = .store t x y) (u v : Value) (hx : a.eval x = u) (hy : a.eval y = v) (hrun : (Instr.storeAt t u v).run P w = .ok () w') (h : wpList P ops Q rest (a.put o.dst undef) w') : wpList P ops Q (o :: rest) a w := by
  refine wpList_plain hgd fun K hK => ?_
  unfold Oper.wp
  simp [execOp, ho, hx, hy, hrun, Result.andThen]
  exact hK _ _ h
theorem step_load_at {P : Program} {w : World} {ops : Array Oper} {o : Oper} {a : Act} {K : Act → World → Prop} {Q : Exit → Act → World → Prop} {E : Prop} (hgd : o.guard = none) (t : TypeId) (x : Operand)
    (ho : o.op = .load t x) (u v : Value) (hx : a.eval x = u) (hrun : (Instr.loadAt t u).run P w = .ok v w) (h : K (a.put o.dst v) w) : if Region.wanted o (yielded ops a.tmps) = true then Oper.wp P o a w K Q else E := by
  have hw : Region.wanted o (yielded ops a.tmps) = true := by simp [Region.wanted, hgd]
  rw [if_pos hw]
  unfold Oper.wp
  simp [execOp, ho, hx, hrun, Result.andThen]
  exact h
theorem step_store_at {P : Program} {w w' : World} {ops : Array Oper} {o : Oper} {a : Act} {K : Act → World → Prop} {Q : Exit → Act → World → Prop} {E : Prop} (hgd : o.guard = none) (t : TypeId) (x y : Operand)
    (ho : o.op = .store t x y) (u v : Value) (hx : a.eval x = u) (hy : a.eval y = v) (hrun : (Instr.storeAt t u v).run P w = .ok () w') (h : K (a.put o.dst undef) w') : if Region.wanted o (yielded ops a.tmps) = true then Oper.wp P o a w K Q else E := by
  have hw : Region.wanted o (yielded ops a.tmps) = true := by simp [Region.wanted, hgd]
  rw [if_pos hw]
  unfold Oper.wp
  simp [execOp, ho, hx, hy, hrun, Result.andThen]
  exact h
theorem res_cell {P : Program} {fn : Func} {p u : Tmp} {ty : TypeId} (h : fn.results = #[.cell p ty, .tmp u]) (tmps : Array Value) (w : World) (ad : Addr) (v v' : Value) (hp : tmps.getD p undef = .pointer (some ad)) (hu : tmps.getD u undef = v') (hl : (loadVar ty ad).run P w = .ok v w) :
    (results fn tmps).run P w = .ok (.tuple #[v, v']) w := by
  rw [results_cell_tmp h, hp, hu]
  simp [asAddr, hl, Result.andThen]
theorem ldA (w : World) (g : Nat → Bool) : (Instr.loadAt 41 (.pointer (some ⟨w.heap.size, 0, none⟩))).run Try.prog (w.alloc (.cells (ar g) 41)) = .ok (.agg (ar g)) (w.alloc (.cells (ar g) 41)) :=
  run_loadAt_new w 41 (ar g) 16 4 Try.underlying41 (by rw [ar_size]; exact (zero_of_info Try.infoA).2)
theorem stA (w : World) (g : Nat → Bool) (Z : Array Value) (hZ : Z.size = 16) : (Instr.storeAt 41 (.pointer (some ⟨w.heap.size, 0, none⟩)) (.agg (ar g))).run Try.prog (w.alloc (.cells Z 41)) = .ok () (w.alloc (.cells (ar g) 41)) :=
  run_storeAt_new w 41 Z (ar g) (by rw [ar_size]; exact (zero_of_info Try.infoA).2) (by rw [ar_size, hZ]) (ar_one g)
theorem lvA (w : World) (g : Nat → Bool) : (loadVar 41 ⟨w.heap.size, 0, none⟩).run Try.prog (w.alloc (.cells (ar g) 41)) = .ok (.agg (ar g)) (w.alloc (.cells (ar g) 41)) :=
  run_loadVar_new w 41 (ar g) 16 4 Try.underlying41 (by rw [ar_size]; exact (zero_of_info Try.infoA).2)
/-- What choose gives back. -/
def Chosen (w : World) (n : Int) (l : Nat) (f : Nat → Int) (e : Ending) (w' : World) : Prop := ∃ (g : Nat → Bool) (b : Bool), e = .returned (.tuple #[.agg (ar g), .bool b]) ∧ Below w.heap.size w w' ∧ ((b = true ∧ okL n l f ∧ g = fun (i : Nat) => has l f i) ∨ (b = false ∧ ¬ okL n l f))
set_option maxRecDepth 100000 in
set_option maxHeartbeats 1000000 in
theorem choose_any {w : World} {a : Option Addr} {l c : Nat} {f : Nat → Int} {n : Int} (hl : l ≤ maxLen) (hA : Arg w a l f) :
    Calls Try.prog 31 #[.int .i64 n, .slice a l c] w (Chosen w n l f) := by
  unfold maxLen at hl
  obtain ⟨bb, hb⟩ : ∃ bb, inB n 1 16 = bb := ⟨_, rfl⟩
  have HA : Hid (Arg w a l f) := hA
  clear hA
  have hzv := (zero_of_info Try.infoA).1
  rw [← ar_false] at hzv
  go_enter Try.func31, Try.ntmps31
  go_wp2
  go_loopw [6, 8, 11] (fun p q i wr => ∃ (j : Nat) (vv : Value), vv = q ∧ j ≤ l ∧ p = .int .i64 (la f j) ∧ i = .int .i64 j ∧ okP n j f ∧ wr = w.alloc (.cells (ar (fun i => has j f i)) 41)) (fun _ _ i _ => l - (intOf i).toNat)
  case atStart => exact ⟨0, _, rfl, by omega, by rw [la_zero], rfl, okP_zero _ _, by congr 2⟩
  case round =>
    obtain ⟨j, vv, hvv, hj, rfl, rfl, hP, rfl⟩ := hrel
    subst hvv
    have HP : Hid (okP n j f) := hP
    clear hP
    by_cases hlt : j < l
    · obtain ⟨b, off, rfl, hc⟩ := HA.out.at' (below_new w (.cells (ar (fun i => has j f i)) 41)) hlt
      by_cases hq : la f j < f j ∧ cm (f j) n = true
      · obtain ⟨x2, hcm⟩ := hq
        have hcm' : inB n 1 16 = true ∧ inB (f j) 0 (n - 1) = true := by simpa [cm] using hcm
        have hn := inB_iff.1 hcm'.1
        obtain ⟨x0, x1⟩ := inB_iff.1 hcm'.2
        have HP' : Hid (okP n (j + 1) f) := okP_succ.2 ⟨HP.out, ⟨x0, by omega⟩, x2⟩
        obtain ⟨k, hk⟩ := Int.eq_ofNat_of_zero_le x0
        have hk' : f j = (k : Int) := hk
        have HN : Hid (la f (j + 1) = (k : Int)) := by rw [la_succ]; exact hk'
        have HS : Hid ((w.alloc (.cells (ar (fun i => has j f i)) 41)).setCell ⟨w.heap.size, k, none⟩ (.bool true) = w.alloc (.cells (ar (fun i => has (j + 1) f i)) 41)) := by
          unfold Hid
          rw [setCell_new, ar_set]
          refine congrArg (fun C => w.alloc (.cells C 41)) (ar_congr fun i hi => ?_)
          rw [has_succ, hk', Bool.eq_iff_iff]
          simp only [Bool.or_eq_true, beq_iff_eq]
          exact or_congr Iff.rfl (by omega)
        have hfr : (w.alloc (.cells (ar (fun i => has j f i)) 41)).frozen? ⟨w.heap.size, k, none⟩ = false := by
          simp only [World.frozen?, heap_alloc_last]; simp
        have hce : (w.alloc (.cells (ar (fun i => has j f i)) 41)).cell? ⟨w.heap.size, k, none⟩ = some (.bool (has j f k)) := by
          rw [cell_of_row _ _ k _ 41 (0, 0) (heap_alloc_last w _)]
          exact ar_get _ (by omega)
        rw [hk'] at hc x0 x1 x2 hcm
        generalize la f j = y at *
        generalize has j f k = z at *
        have x3 : ¬ (k : Int) ≤ y := by omega
        have x4 : (k : Int) < 16 := by omega
        clear hk hk' hzv x2 hcm' hb
        generalize w.alloc (.cells (ar (fun i => has j f i)) 41) = W at *
        go_wp2_with (go_at_call 29; refine (colourMayBe_any _ _ _).mono ?_; rintro e w' ⟨rfl, rfl⟩)
        go_roundw
        case rel => exact ⟨j + 1, _, rfl, by omega, by rw [HN.out], by go_num, HP'.out, HS.out⟩
        case measure => simp [intOf]; omega
      · have HQ : Hid (¬ okL n l f) := fun q => by
          obtain ⟨_, ⟨x0, x1⟩, x2⟩ := okP_succ.1 (okP_less q.2 (show j + 1 ≤ l by omega))
          exact hq ⟨x2, by simp [cm, inB_t q.1.1 q.1.2, inB_t x0 (show f j ≤ n - 1 by omega)]⟩
        have HL : Hid _ := ldA w (fun i => has j f i)
        have HT : Hid _ := stA w (fun i => has j f i) _ (ar_size (fun i => has j f i))
        have HV : Hid _ := lvA w (fun i => has j f i)
        have HB : Hid (Below w.heap.size w (w.alloc (.cells (ar (fun i => has j f i)) 41))) := below_new _ _
        generalize hCC : ar (fun i => has j f i) = C at *
        have HC : Hid (ar (fun (i : Nat) => has j f i) = C) := hCC
        clear hCC hzv hb
        generalize w.alloc (.cells C 41) = W at *
        generalize la f j = y at *
        generalize f j = x at *
        by_cases x2 : x ≤ y
        · clear hq
          go_wp2_with (first | (refine wpList_load_at rfl 41 (.tmp 4) rfl _ _ rfl HL.out ?_) | (refine wpList_store_at rfl 41 (.tmp 4) (.tmp 24) rfl _ _ rfl rfl HT.out ?_))
          exact bodyPost_ret (v := .tuple #[.agg C, .bool false]) (res_cell rfl _ _ _ _ _ rfl rfl HV.out) rfl ⟨_, false, by rw [← HC.out], HB.out, Or.inr ⟨rfl, HQ.out⟩⟩
        · have hcm : cm x n = false := by
            cases q : cm x n
            · rfl
            · exact absurd ⟨by omega, q⟩ hq
          clear hq
          go_wp2_with (first | (go_at_call 29; refine (colourMayBe_any _ _ _).mono ?_; rintro e w' ⟨rfl, rfl⟩) | (refine wpList_load_at rfl 41 (.tmp 4) rfl _ _ rfl HL.out ?_) | (refine wpList_store_at rfl 41 (.tmp 4) (.tmp 24) rfl _ _ rfl rfl HT.out ?_))
          exact bodyPost_ret (v := .tuple #[.agg C, .bool false]) (res_cell rfl _ _ _ _ _ rfl rfl HV.out) rfl ⟨_, false, by rw [← HC.out], HB.out, Or.inr ⟨rfl, HQ.out⟩⟩
    · obtain rfl : j = l := by omega
      have hld := ldA w (fun i => has j f i)
      have hst := stA w (fun i => has j f i) _ (ar_size (fun i => has j f i))
      have hlv := lvA w (fun i => has j f i)
      have HB : Hid (Below w.heap.size w (w.alloc (.cells (ar (fun i => has j f i)) 41))) := below_new _ _
      have hld' : (Instr.loadAt 41 (.pointer (some ⟨w.heap.size, 0, none⟩))).run Try.prog (w.alloc (.cells (ar (fun i => has j f i)) 41)).drew = .ok (.agg (ar (fun i => has j f i))) (w.alloc (.cells (ar (fun i => has j f i)) 41)).drew := ldA w.drew (fun i => has j f i)
      have hst' : (Instr.storeAt 41 (.pointer (some ⟨w.heap.size, 0, none⟩)) (.agg (ar (fun i => has j f i)))).run Try.prog (w.alloc (.cells (ar (fun i => has j f i)) 41)).drew = .ok () (w.alloc (.cells (ar (fun i => has j f i)) 41)).drew := stA w.drew (fun i => has j f i) _ (ar_size (fun i => has j f i))
      have HB' : Hid (Below w.heap.size w (w.alloc (.cells (ar (fun i => has j f i)) 41)).drew) := below_drewN (below_new w _) 1
      have HV' : Hid ((loadVar 41 ⟨w.heap.size, 0, none⟩).run Try.prog (w.alloc (.cells (ar (fun i => has j f i)) 41)).drew = .ok (.agg (ar (fun i => has j f i))) (w.alloc (.cells (ar (fun i => has j f i)) 41)).drew) := lvA w.drew (fun i => has j f i)
      generalize hCC : ar (fun i => has j f i) = C at *
      have HC : Hid (ar (fun (i : Nat) => has j f i) = C) := hCC
      clear hCC
      generalize w.alloc (.cells C 41) = W at *
      have HL : Hid _ := hld'
      have HT : Hid _ := hst'
      have HQ : Hid ((bb = true ∧ okL n j f) ∨ (bb = false ∧ ¬ okL n j f)) := by
        cases bb with
        | true => exact Or.inl ⟨rfl, inB_iff.1 hb, HP.out⟩
        | false => exact Or.inr ⟨rfl, fun q => by have := inB_t q.1.1 q.1.2; rw [hb] at this; cases this⟩
      clear HA HP hld hst hlv HB hld' hst'
      go_wp2_with fail
      refine wp_region_any (by kernel_rfl) ?_
      change wpAny _ _ _ _ _ _ _ (World.drew _)
      refine wpAny_take (i := 1) (v := .int .i64 n) rfl (by kernel_rfl) (by kernel_rfl) (by kernel_rfl) (fun _ _ _ h => h) (Or.inl ⟨by rfl, ?_⟩) ?_
      · intro w
        go_simp
      refine wpAny_ready (rs := [0, 2]) (by kernel_rfl) (by simp) ?_
      refine AllReady.cons rfl (fun K hK => ?_) (AllReady.cons rfl (fun K hK => ?_) AllReady.nil)
      · refine step_load_at rfl 41 (.tmp 4) rfl _ _ rfl HL.out (hK _ _ ?_)
        clear hK K
        refine wpAny_ready (rs := [2]) (by kernel_rfl) (by simp) ?_
        refine AllReady.cons rfl (fun K hK => ?_) AllReady.nil
        go_simp
        refine (coloursMayBe_any _ _).mono ?_
        rintro e w1 ⟨rfl, rfl⟩
        refine hK _ _ ?_
        clear hK K
        rw [hb]
        refine wpAny_ready (rs := [3]) (by kernel_rfl) (by simp) ?_
        refine AllReady.cons rfl (fun K hK => ?_) AllReady.nil
        refine step_store_at rfl 41 (.tmp 4) (.tmp 29) rfl _ _ rfl rfl HT.out (hK _ _ ?_)
        clear hK K
        refine wpAny_ready (rs := [4]) (by kernel_rfl) (by simp) ?_
        refine AllReady.cons rfl (fun K hK => ?_) AllReady.nil
        go_simp
        refine hK _ _ ?_
        clear hK K
        refine wpAny_done (by kernel_rfl) ?_ _
        go_wp2
        exact bodyPost_ret (v := .tuple #[.agg C, .bool bb]) (res_cell rfl _ _ _ _ _ rfl rfl HV'.out) rfl ⟨_, bb, by rw [← HC.out], HB'.out, HQ.out.imp (fun q => ⟨q.1, q.2, rfl⟩) id⟩
      · go_simp
        refine (coloursMayBe_any _ _).mono ?_
        rintro e w1 ⟨rfl, rfl⟩
        refine hK _ _ ?_
        clear hK K
        rw [hb]
        refine wpAny_ready (rs := [0]) (by kernel_rfl) (by simp) ?_
        refine AllReady.cons rfl (fun K hK => ?_) AllReady.nil
        refine step_load_at rfl 41 (.tmp 4) rfl _ _ rfl HL.out (hK _ _ ?_)
        clear hK K
        refine wpAny_ready (rs := [3]) (by kernel_rfl) (by simp) ?_
        refine AllReady.cons rfl (fun K hK => ?_) AllReady.nil
        refine step_store_at rfl 41 (.tmp 4) (.tmp 29) rfl _ _ rfl rfl HT.out (hK _ _ ?_)
        clear hK K
        refine wpAny_ready (rs := [4]) (by kernel_rfl) (by simp) ?_
        refine AllReady.cons rfl (fun K hK => ?_) AllReady.nil
        go_simp
        refine hK _ _ ?_
        clear hK K
        refine wpAny_done (by kernel_rfl) ?_ _
        go_wp2
        exact bodyPost_ret (v := .tuple #[.agg C, .bool bb]) (res_cell rfl _ _ _ _ _ rfl rfl HV'.out) rfl ⟨_, bb, by rw [← HC.out], HB'.out, HQ.out.imp (fun q => ⟨q.1, q.2, rfl⟩) id⟩
end Go.Proofs.Ytoondpgdodmngaa
