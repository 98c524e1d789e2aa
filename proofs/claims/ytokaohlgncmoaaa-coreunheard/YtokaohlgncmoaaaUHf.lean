/- What colour's functions of numbers and the reference's give back, each for every number that it may be handed; no condition but the ranges that each theorem names. -/
import Derived.Test.YtokaohlgncmoaaaRows
import Derived.WalkKit
import Derived.ProofKit
import Derived.OpenShut
import Derived.WalkSpells
import Derived.WalkLawsBesides
import Derived.Laws.BitsAllLaws
import Derived.Deep.QuietTactic
import Derived.BigQuiet
import Derived.Deep.WholeRow
import Derived.Deep.RegionWith
import Derived.Deep.AppendLies
import Derived.Laws.ResultCell
import Derived.Laws.IdiomCopy
import Derived.Laws.AppendOwnNone
namespace Go.Proofs.Ytokaohlgncmoaaa.K
open Go.ChangeShapes Go.WideShapes Go.ChangeAt Go.RowKit
set_option linter.unusedVariables false

theorem ret_bool {a b : Bool} (h : a = b) : Ending.returned (.bool a) = .returned (.bool b) := by rw [h]
def inB (n a b : Int) : Bool := decide (a ≤ n) && decide (n ≤ b)
theorem inB_t {n a b : Int} (h : a ≤ n) (h' : n ≤ b) : inB n a b = true := by simp [inB, h, h']
theorem inB_iff {n a b : Int} : inB n a b = true ↔ a ≤ n ∧ n ≤ b := by simp [inB]
def Two (a e : Int) (w : World) (x : Ending) (w' : World) : Prop := x = .returned (.tuple #[.int .i64 a, .int .i64 e]) ∧ w' = w

theorem frameMayBe_any (a : Int) (w : World) : Calls Try.prog 34 #[.int .i64 a] w fun e w' => e = .returned (.bool (inB a 0 4095)) ∧ w' = w := by
  go_enter Try.func34, Try.ntmps34
  go_wp2
  all_goals (go_ret; exact ⟨ret_bool (by rw [Bool.eq_iff_iff]; simp [inB]; omega), rfl⟩)
theorem framesMayBe_any (a : Int) (w : World) : Calls Try.prog 43 #[.int .i64 a] w fun e w' => e = .returned (.bool (inB a 1 4096)) ∧ w' = w := by
  go_enter Try.func43, Try.ntmps43
  go_wp2
  all_goals (go_ret; exact ⟨ret_bool (by rw [Bool.eq_iff_iff]; simp [inB]; omega), rfl⟩)
theorem coloursMayBe_any (a : Int) (w : World) : Calls Try.prog 35 #[.int .i64 a] w fun e w' => e = .returned (.bool (inB a 1 16)) ∧ w' = w := by
  go_enter Try.func35, Try.ntmps35
  go_wp2
  all_goals (go_ret; exact ⟨ret_bool (by rw [Bool.eq_iff_iff]; simp [inB]; omega), rfl⟩)
def cm (c n : Int) : Bool := inB n 1 16 && inB c 0 (n - 1)
theorem colourMayBe_any (c n : Int) (w : World) : Calls Try.prog 65 #[.int .i64 c, .int .i64 n] w fun e w' => e = .returned (.bool (cm c n)) ∧ w' = w := by
  cases h : inB n 1 16
  · go_enter Try.func65, Try.ntmps65
    go_wp2_with (go_at_call 35; refine (coloursMayBe_any _ _).mono ?_; rintro e w' ⟨rfl, rfl⟩)
    all_goals (go_ret; exact ⟨ret_bool (by simp [cm, h]), rfl⟩)
  · go_enter Try.func65, Try.ntmps65
    go_wp2_with (go_at_call 35; refine (coloursMayBe_any _ _).mono ?_; rintro e w' ⟨rfl, rfl⟩)
    all_goals (go_ret; exact ⟨ret_bool (by rw [Bool.eq_iff_iff]; simp [cm, h]; simp [inB]; omega), rfl⟩)
theorem Of_ok (x n : Int) (h0 : 0 ≤ x) (h1 : x ≤ 4095) (h2 : 1 ≤ n) (h3 : n ≤ 16) (w : World) : Calls Try.prog 15 #[.int .i64 x, .int .i64 n] w (Two (x % n) 0 w) := by
  have ha := inB_t h0 h1
  have hb := inB_t h2 h3
  have hm : x.tmod n = x % n := Int.tmod_eq_emod_of_nonneg h0
  have k0 := Int.emod_nonneg x (show n ≠ 0 by omega)
  have k1 := Int.emod_lt_of_pos x (show 0 < n by omega)
  have hn : ¬ n = 0 := by omega
  go_enter Try.func15, Try.ntmps15
  go_wp2_with (first | (go_at_call 34; refine (frameMayBe_any _ _).mono ?_; rintro e w' ⟨rfl, rfl⟩) | (go_at_call 35; refine (coloursMayBe_any _ _).mono ?_; rintro e w' ⟨rfl, rfl⟩))
  go_ret2
  exact ⟨rfl, rfl⟩
def st (a n : Int) : Int := a / 256 % n * 16 + a % 256 / 16
theorem Set_ok (a n : Int) (h0 : 0 ≤ a) (h1 : a < 1048576) (h2 : 1 ≤ n) (h3 : n ≤ 16) (w : World) : Calls Try.prog 48 #[.int .u64 a, .int .i64 n] w (Two (st a n) 0 w) := by
  have C : Hid (∀ w, Calls Try.prog 15 #[.int .i64 (a / 256), .int .i64 n] w (Two (a / 256 % n) 0 w)) := fun w => Of_ok (a / 256) n (by omega) (by omega) h2 h3 w
  have k0 := Int.emod_nonneg (a / 256) (show n ≠ 0 by omega)
  have k1 := Int.emod_lt_of_pos (a / 256) (show 0 < n by omega)
  unfold st
  generalize a / 256 % n = c at *
  go_enter Try.func48, Try.ntmps48
  go_wp2_with (go_at_call 15; refine (C.out _).mono ?_; rintro e w' ⟨rfl, rfl⟩)
  go_ret2
  exact ⟨rfl, rfl⟩
end Go.Proofs.Ytokaohlgncmoaaa.K
namespace Go.Proofs.Ytokaohlgncmoaaa.K
open Go.ChangeShapes Go.WideShapes Go.ChangeAt Go.RowKit
set_option linter.unusedVariables false
set_option maxRecDepth 8192

def Arg (w : World) (ao : Option Addr) (l : Nat) (f : Nat → Int) : Prop := l = 0 ∨ ∃ b off, ao = some ⟨b, off, none⟩ ∧ b < w.heap.size ∧ ∀ i, i < l → w.cell? ⟨b, off + i, none⟩ = some (.int .i64 (f i))
theorem Arg.at' {w w' : World} {ao : Option Addr} {l : Nat} {f : Nat → Int} (h : Arg w ao l f) (hb : Below w.heap.size w w') {i : Nat} (hi : i < l) : ∃ b off, ao = some ⟨b, off, none⟩ ∧ w'.cell? ⟨b, off + i, none⟩ = some (.int .i64 (f i)) := by
  rcases h with h | ⟨b, off, e, hl, hr⟩
  · omega
  · exact ⟨b, off, e, (hb.cell (p := ⟨b, off + i, none⟩) hl).trans (hr i hi)⟩
theorem below_new (w : World) (o : Obj) : Below w.heap.size w (w.alloc o) := (Below.refl _ _).alloc (Nat.le_refl _) _
theorem below_drewN {B : Nat} {w w' : World} (h : Below B w w') (n : Nat) : Below B w (w'.drewN n) := ⟨h.os, h.tape, h.output, h.size, h.block⟩
def has (l : Nat) (f : Nat → Int) (x : Int) : Bool := (List.range l).any fun i => f i == x
theorem has_iff {l : Nat} {f : Nat → Int} {x : Int} : has l f x = true ↔ ∃ i, i < l ∧ f i = x := by simp [has]
theorem has_succ (l : Nat) (f : Nat → Int) (x : Int) : has (l + 1) f x = (has l f x || f l == x) := by simp [has, List.range_succ]
def okP (n : Int) (j : Nat) (f : Nat → Int) : Prop := (∀ i, i < j → 0 ≤ f i ∧ f i < n) ∧ ∀ i, i + 1 < j → f i < f (i + 1)
def okL (n : Int) (l : Nat) (f : Nat → Int) : Prop := (1 ≤ n ∧ n ≤ 16) ∧ okP n l f
def la (f : Nat → Int) (j : Nat) : Int := if j = 0 then -1 else f (j - 1)
theorem la_zero (f : Nat → Int) : la f 0 = -1 := rfl
theorem la_succ (f : Nat → Int) (j : Nat) : la f (j + 1) = f j := by simp [la]
theorem okP_zero (n : Int) (f : Nat → Int) : okP n 0 f := ⟨fun i hi => by omega, fun i hi => by omega⟩
theorem okP_succ {n : Int} {j : Nat} {f : Nat → Int} : okP n (j + 1) f ↔ okP n j f ∧ (0 ≤ f j ∧ f j < n) ∧ la f j < f j := by
  constructor
  · intro h
    refine ⟨⟨fun i hi => h.1 i (by omega), fun i hi => h.2 i (by omega)⟩, h.1 j (by omega), ?_⟩
    cases j with
    | zero => have := h.1 0 (by omega); rw [la_zero]; omega
    | succ k => rw [la_succ]; exact h.2 k (by omega)
  · rintro ⟨h, hc, hl⟩
    refine ⟨fun i hi => ?_, fun i hi => ?_⟩
    · by_cases e : i < j
      · exact h.1 i e
      · obtain rfl : i = j := by omega
        exact hc
    · by_cases e : i + 1 < j
      · exact h.2 i e
      · obtain rfl : j = i + 1 := by omega
        rw [la_succ] at hl; exact hl
theorem okP_less {n : Int} {j k : Nat} {f : Nat → Int} (h : okP n k f) (hj : j ≤ k) : okP n j f := ⟨fun i hi => h.1 i (by omega), fun i hi => h.2 i (by omega)⟩
def ar (g : Nat → Bool) : Array Value := ((List.range 16).map fun i => Value.bool (g i)).toArray
theorem ar_size (g : Nat → Bool) : (ar g).size = 16 := by simp [ar]
theorem ar_one (g : Nat → Bool) : (ar g).all (·.oneCell') = true := by
  rw [Array.all_eq_true_iff_forall_mem]
  intro v hv
  simp only [ar, List.mem_toArray, List.mem_map] at hv
  obtain ⟨i, _, rfl⟩ := hv
  rfl
theorem ar_get (g : Nat → Bool) {k : Nat} (hk : k < 16) : (ar g)[k]? = some (.bool (g k)) := by simp [ar, hk]
theorem ar_set (g : Nat → Bool) (k : Nat) : (ar g).setIfInBounds k (.bool true) = ar (fun i => g i || k == i) := by
  apply Array.ext_getElem?
  intro i
  by_cases hi : i < 16
  · rw [ar_get _ hi, Array.getElem?_setIfInBounds]
    by_cases e : k = i
    · subst e
      simp [ar_size, hi]
    · simp [e, ar_get _ hi]
  · rw [Array.getElem?_eq_none (by rw [Array.size_setIfInBounds, ar_size]; omega), Array.getElem?_eq_none (by rw [ar_size]; omega)]
theorem ar_congr {g h : Nat → Bool} (e : ∀ i, i < 16 → g i = h i) : ar g = ar h := by
  unfold ar
  congr 1
  apply List.map_congr_left
  intro i hi
  rw [e i (by simpa using hi)]
theorem setCell_new (w : World) (C : Array Value) (t : TypeId) (k : Nat) (v : Value) : (w.alloc (.cells C t)).setCell ⟨w.heap.size, k, none⟩ v = w.alloc (.cells (C.setIfInBounds k v) t) := by
  simp only [World.setCell, World.alloc]
  congr 1
  apply Array.ext_getElem?
  intro i
  rw [Array.getElem?_modify]
  by_cases h : w.heap.size = i
  · subst h
    simp
  · have h' : ¬ i = w.heap.size := fun e => h e.symm
    simp [h, h', Array.getElem?_push]
theorem Try.infoA : (Try.prog.info? 106).map (fun i => (i.zero, i.size)) = some (some (.agg (Array.replicate 16 (.bool false))), 16) := by kernel_rfl
theorem ar_false : ar (fun _ => false) = Array.replicate 16 (.bool false) := by
  apply Array.ext_getElem?
  intro i
  by_cases hi : i < 16
  · rw [ar_get _ hi]; simp [hi]
  · rw [Array.getElem?_eq_none (by rw [ar_size]; omega), Array.getElem?_eq_none (by simp; omega)]
theorem wpList_load_at {P : Program} {w : World} {ops : Array Oper} {rest : List Oper} {o : Oper} {a : Act} {Q : Exit → Act → World → Prop} (hgd : o.guard = none) (t : TypeId) (x : Operand)
    (ho : o.op = .load t x) (u v : Value) (hx : a.eval x = u) (hrun : (Instr.loadAt t u).run P w = .ok v w) (h : wpList P ops Q rest (a.put o.dst v) w) : wpList P ops Q (o :: rest) a w := by
  refine wpList_plain hgd fun K hK => ?_
  unfold Oper.wp
  simp [execOp, ho, hx, hrun, Result.andThen]
  exact hK _ _ h
theorem wpList_store_at {P : Program} {w w' : World} {ops : Array Oper} {rest : List Oper} {o : Oper} {a : Act} {Q : Exit → Act → World → Prop} (hgd : o.guard = none) (t : TypeId) (x y : Operand)
    (ho : o.op = .store t x y) (u v : Value) (hx : a.eval x = u) (hy : a.eval y = v) (hrun : (Instr.storeAt t u v).run P w = .ok () w') (h : wpList P ops Q rest (a.put o.dst undef) w') : wpList P ops Q (o :: rest) a w := by
  refine wpList_plain hgd fun K hK => ?_
  unfold Oper.wp
  simp [execOp, ho, hx, hy, hrun, Result.andThen]
  exact hK _ _ h
theorem step_load_at {P : Program} {w : World} {ops : Array Oper} {o : Oper} {a : Act} {K : Act → World → Prop} {Q : Exit → Act → World → Prop} {E : Prop} (hgd : o.guard = none) (t : TypeId) (x : Operand)
    (ho : o.op = .load t x) (u v : Value) (hx : a.eval x = u) (hrun : (Instr.loadAt t u).run P w = .ok v w) (h : K (a.put o.dst v) w) : if Region.wanted o (yielded ops a.tmps) = true then Oper.wp P o a w K Q else E := by
  have hw : Region.wanted o (yielded ops a.tmps) = true := by simp [Region.wanted, hgd]
  rw [if_pos hw]
  unfold Oper.wp
  simp [execOp, ho, hx, hrun, Result.andThen]
  exact h
theorem step_store_at {P : Program} {w w' : World} {ops : Array Oper} {o : Oper} {a : Act} {K : Act → World → Prop} {Q : Exit → Act → World → Prop} {E : Prop} (hgd : o.guard = none) (t : TypeId) (x y : Operand)
    (ho : o.op = .store t x y) (u v : Value) (hx : a.eval x = u) (hy : a.eval y = v) (hrun : (Instr.storeAt t u v).run P w = .ok () w') (h : K (a.put o.dst undef) w') : if Region.wanted o (yielded ops a.tmps) = true then Oper.wp P o a w K Q else E := by
  have hw : Region.wanted o (yielded ops a.tmps) = true := by simp [Region.wanted, hgd]
  rw [if_pos hw]
  unfold Oper.wp
  simp [execOp, ho, hx, hy, hrun, Result.andThen]
  exact h
theorem res_cell {P : Program} {fn : Func} {p u : Tmp} {ty : TypeId} (h : fn.results = #[.cell p ty, .tmp u]) (tmps : Array Value) (w : World) (ad : Addr) (v v' : Value) (hp : tmps.getD p undef = .pointer (some ad)) (hu : tmps.getD u undef = v') (hl : (loadVar ty ad).run P w = .ok v w) :
    (results fn tmps).run P w = .ok (.tuple #[v, v']) w := by
  rw [results_cell_tmp h, hp, hu]
  simp [asAddr, hl, Result.andThen]
theorem ldA (w : World) (g : Nat → Bool) : (Instr.loadAt 106 (.pointer (some ⟨w.heap.size, 0, none⟩))).run Try.prog (w.alloc (.cells (ar g) 106)) = .ok (.agg (ar g)) (w.alloc (.cells (ar g) 106)) :=
  run_loadAt_new w 106 (ar g) 16 4 Try.underlying106 (by rw [ar_size]; exact (zero_of_info Try.infoA).2)
theorem stA (w : World) (g : Nat → Bool) (Z : Array Value) (hZ : Z.size = 16) : (Instr.storeAt 106 (.pointer (some ⟨w.heap.size, 0, none⟩)) (.agg (ar g))).run Try.prog (w.alloc (.cells Z 106)) = .ok () (w.alloc (.cells (ar g) 106)) :=
  run_storeAt_new w 106 Z (ar g) (by rw [ar_size]; exact (zero_of_info Try.infoA).2) (by rw [ar_size, hZ]) (ar_one g)
theorem lvA (w : World) (g : Nat → Bool) : (loadVar 106 ⟨w.heap.size, 0, none⟩).run Try.prog (w.alloc (.cells (ar g) 106)) = .ok (.agg (ar g)) (w.alloc (.cells (ar g) 106)) :=
  run_loadVar_new w 106 (ar g) 16 4 Try.underlying106 (by rw [ar_size]; exact (zero_of_info Try.infoA).2)
def Chosen (w : World) (n : Int) (l : Nat) (f : Nat → Int) (e : Ending) (w' : World) : Prop := ∃ (g : Nat → Bool) (b : Bool), e = .returned (.tuple #[.agg (ar g), .bool b]) ∧ Below w.heap.size w w' ∧ ((b = true ∧ okL n l f ∧ g = fun (i : Nat) => has l f i) ∨ (b = false ∧ ¬ okL n l f))
set_option maxRecDepth 100000 in
set_option maxHeartbeats 1000000 in
theorem choose_any {w : World} {a : Option Addr} {l c : Nat} {f : Nat → Int} {n : Int} (hl : l ≤ maxLen) (hA : Arg w a l f) :
    Calls Try.prog 44 #[.int .i64 n, .slice a l c] w (Chosen w n l f) := by
  unfold maxLen at hl
  obtain ⟨bb, hb⟩ : ∃ bb, inB n 1 16 = bb := ⟨_, rfl⟩
  have HA : Hid (Arg w a l f) := hA
  clear hA
  have hzv := (zero_of_info Try.infoA).1
  rw [← ar_false] at hzv
  go_enter Try.func44, Try.ntmps44
  go_wp2
  go_loopw [6, 8, 11] (fun p q i wr => ∃ (j : Nat) (vv : Value), vv = q ∧ j ≤ l ∧ p = .int .i64 (la f j) ∧ i = .int .i64 j ∧ okP n j f ∧ wr = w.alloc (.cells (ar (fun i => has j f i)) 106)) (fun _ _ i _ => l - (intOf i).toNat)
  case atStart => exact ⟨0, _, rfl, by omega, by rw [la_zero], rfl, okP_zero _ _, by congr 2⟩
  case round =>
    obtain ⟨j, vv, hvv, hj, rfl, rfl, hP, rfl⟩ := hrel
    subst hvv
    have HP : Hid (okP n j f) := hP
    clear hP
    by_cases hlt : j < l
    · obtain ⟨b, off, rfl, hc⟩ := HA.out.at' (below_new w (.cells (ar (fun i => has j f i)) 106)) hlt
      by_cases hq : la f j < f j ∧ cm (f j) n = true
      · obtain ⟨x2, hcm⟩ := hq
        have hcm' : inB n 1 16 = true ∧ inB (f j) 0 (n - 1) = true := by simpa [cm] using hcm
        have hn := inB_iff.1 hcm'.1
        obtain ⟨x0, x1⟩ := inB_iff.1 hcm'.2
        have HP' : Hid (okP n (j + 1) f) := okP_succ.2 ⟨HP.out, ⟨x0, by omega⟩, x2⟩
        obtain ⟨k, hk⟩ := Int.eq_ofNat_of_zero_le x0
        have hk' : f j = (k : Int) := hk
        have HN : Hid (la f (j + 1) = (k : Int)) := by rw [la_succ]; exact hk'
        have HS : Hid ((w.alloc (.cells (ar (fun i => has j f i)) 106)).setCell ⟨w.heap.size, k, none⟩ (.bool true) = w.alloc (.cells (ar (fun i => has (j + 1) f i)) 106)) := by
          unfold Hid
          rw [setCell_new, ar_set]
          refine congrArg (fun C => w.alloc (.cells C 106)) (ar_congr fun i hi => ?_)
          rw [has_succ, hk', Bool.eq_iff_iff]
          simp only [Bool.or_eq_true, beq_iff_eq]
          exact or_congr Iff.rfl (by omega)
        have hfr : (w.alloc (.cells (ar (fun i => has j f i)) 106)).frozen? ⟨w.heap.size, k, none⟩ = false := by
          simp only [World.frozen?, heap_alloc_last]; simp
        have hce : (w.alloc (.cells (ar (fun i => has j f i)) 106)).cell? ⟨w.heap.size, k, none⟩ = some (.bool (has j f k)) := by
          rw [cell_of_row _ _ k _ 106 (0, 0) (heap_alloc_last w _)]
          exact ar_get _ (by omega)
        rw [hk'] at hc x0 x1 x2 hcm
        generalize la f j = y at *
        generalize has j f k = z at *
        have x3 : ¬ (k : Int) ≤ y := by omega
        have x4 : (k : Int) < 16 := by omega
        clear hk hk' hzv x2 hcm' hb
        generalize w.alloc (.cells (ar (fun i => has j f i)) 106) = W at *
        go_wp2_with (go_at_call 65; refine (colourMayBe_any _ _ _).mono ?_; rintro e w' ⟨rfl, rfl⟩)
        go_roundw
        case rel => exact ⟨j + 1, _, rfl, by omega, by rw [HN.out], by go_num, HP'.out, HS.out⟩
        case measure => simp [intOf]; omega
      · have HQ : Hid (¬ okL n l f) := fun q => by
          obtain ⟨_, ⟨x0, x1⟩, x2⟩ := okP_succ.1 (okP_less q.2 (show j + 1 ≤ l by omega))
          exact hq ⟨x2, by simp [cm, inB_t q.1.1 q.1.2, inB_t x0 (show f j ≤ n - 1 by omega)]⟩
        have HL : Hid _ := ldA w (fun i => has j f i)
        have HT : Hid _ := stA w (fun i => has j f i) _ (ar_size (fun i => has j f i))
        have HV : Hid _ := lvA w (fun i => has j f i)
        have HB : Hid (Below w.heap.size w (w.alloc (.cells (ar (fun i => has j f i)) 106))) := below_new _ _
        generalize hCC : ar (fun i => has j f i) = C at *
        have HC : Hid (ar (fun (i : Nat) => has j f i) = C) := hCC
        clear hCC hzv hb
        generalize w.alloc (.cells C 106) = W at *
        generalize la f j = y at *
        generalize f j = x at *
        by_cases x2 : x ≤ y
        · clear hq
          go_wp2_with (first | (refine wpList_load_at rfl 106 (.tmp 4) rfl _ _ rfl HL.out ?_) | (refine wpList_store_at rfl 106 (.tmp 4) (.tmp 24) rfl _ _ rfl rfl HT.out ?_))
          exact bodyPost_ret (v := .tuple #[.agg C, .bool false]) (res_cell rfl _ _ _ _ _ rfl rfl HV.out) rfl ⟨_, false, by rw [← HC.out], HB.out, Or.inr ⟨rfl, HQ.out⟩⟩
        · have hcm : cm x n = false := by
            cases q : cm x n
            · rfl
            · exact absurd ⟨by omega, q⟩ hq
          clear hq
          go_wp2_with (first | (go_at_call 65; refine (colourMayBe_any _ _ _).mono ?_; rintro e w' ⟨rfl, rfl⟩) | (refine wpList_load_at rfl 106 (.tmp 4) rfl _ _ rfl HL.out ?_) | (refine wpList_store_at rfl 106 (.tmp 4) (.tmp 24) rfl _ _ rfl rfl HT.out ?_))
          exact bodyPost_ret (v := .tuple #[.agg C, .bool false]) (res_cell rfl _ _ _ _ _ rfl rfl HV.out) rfl ⟨_, false, by rw [← HC.out], HB.out, Or.inr ⟨rfl, HQ.out⟩⟩
    · obtain rfl : j = l := by omega
      have hld := ldA w (fun i => has j f i)
      have hst := stA w (fun i => has j f i) _ (ar_size (fun i => has j f i))
      have hlv := lvA w (fun i => has j f i)
      have HB : Hid (Below w.heap.size w (w.alloc (.cells (ar (fun i => has j f i)) 106))) := below_new _ _
      have hld' : (Instr.loadAt 106 (.pointer (some ⟨w.heap.size, 0, none⟩))).run Try.prog (w.alloc (.cells (ar (fun i => has j f i)) 106)).drew = .ok (.agg (ar (fun i => has j f i))) (w.alloc (.cells (ar (fun i => has j f i)) 106)).drew := ldA w.drew (fun i => has j f i)
      have hst' : (Instr.storeAt 106 (.pointer (some ⟨w.heap.size, 0, none⟩)) (.agg (ar (fun i => has j f i)))).run Try.prog (w.alloc (.cells (ar (fun i => has j f i)) 106)).drew = .ok () (w.alloc (.cells (ar (fun i => has j f i)) 106)).drew := stA w.drew (fun i => has j f i) _ (ar_size (fun i => has j f i))
      have HB' : Hid (Below w.heap.size w (w.alloc (.cells (ar (fun i => has j f i)) 106)).drew) := below_drewN (below_new w _) 1
      have HV' : Hid ((loadVar 106 ⟨w.heap.size, 0, none⟩).run Try.prog (w.alloc (.cells (ar (fun i => has j f i)) 106)).drew = .ok (.agg (ar (fun i => has j f i))) (w.alloc (.cells (ar (fun i => has j f i)) 106)).drew) := lvA w.drew (fun i => has j f i)
      generalize hCC : ar (fun i => has j f i) = C at *
      have HC : Hid (ar (fun (i : Nat) => has j f i) = C) := hCC
      clear hCC
      generalize w.alloc (.cells C 106) = W at *
      have HL : Hid _ := hld'
      have HT : Hid _ := hst'
      have HQ : Hid ((bb = true ∧ okL n j f) ∨ (bb = false ∧ ¬ okL n j f)) := by
        cases bb with
        | true => exact Or.inl ⟨rfl, inB_iff.1 hb, HP.out⟩
        | false => exact Or.inr ⟨rfl, fun q => by have := inB_t q.1.1 q.1.2; rw [hb] at this; cases this⟩
      clear HA HP hld hst hlv HB hld' hst'
      go_wp2_with fail
      refine wp_region_any (by kernel_rfl) ?_
      change wpAny _ _ _ _ _ _ _ (World.drew _)
      refine wpAny_take (i := 1) (v := .int .i64 n) rfl (by kernel_rfl) (by kernel_rfl) (by kernel_rfl) (fun _ _ _ h => h) (Or.inl ⟨by rfl, ?_⟩) ?_
      · intro w
        go_simp
      refine wpAny_ready (rs := [0, 2]) (by kernel_rfl) (by simp) ?_
      refine AllReady.cons rfl (fun K hK => ?_) (AllReady.cons rfl (fun K hK => ?_) AllReady.nil)
      · refine step_load_at rfl 106 (.tmp 4) rfl _ _ rfl HL.out (hK _ _ ?_)
        clear hK K
        refine wpAny_ready (rs := [2]) (by kernel_rfl) (by simp) ?_
        refine AllReady.cons rfl (fun K hK => ?_) AllReady.nil
        go_simp
        refine (coloursMayBe_any _ _).mono ?_
        rintro e w1 ⟨rfl, rfl⟩
        refine hK _ _ ?_
        clear hK K
        rw [hb]
        refine wpAny_ready (rs := [3]) (by kernel_rfl) (by simp) ?_
        refine AllReady.cons rfl (fun K hK => ?_) AllReady.nil
        refine step_store_at rfl 106 (.tmp 4) (.tmp 29) rfl _ _ rfl rfl HT.out (hK _ _ ?_)
        clear hK K
        refine wpAny_ready (rs := [4]) (by kernel_rfl) (by simp) ?_
        refine AllReady.cons rfl (fun K hK => ?_) AllReady.nil
        go_simp
        refine hK _ _ ?_
        clear hK K
        refine wpAny_done (by kernel_rfl) ?_ _
        go_wp2
        exact bodyPost_ret (v := .tuple #[.agg C, .bool bb]) (res_cell rfl _ _ _ _ _ rfl rfl HV'.out) rfl ⟨_, bb, by rw [← HC.out], HB'.out, HQ.out.imp (fun q => ⟨q.1, q.2, rfl⟩) id⟩
      · go_simp
        refine (coloursMayBe_any _ _).mono ?_
        rintro e w1 ⟨rfl, rfl⟩
        refine hK _ _ ?_
        clear hK K
        rw [hb]
        refine wpAny_ready (rs := [0]) (by kernel_rfl) (by simp) ?_
        refine AllReady.cons rfl (fun K hK => ?_) AllReady.nil
        refine step_load_at rfl 106 (.tmp 4) rfl _ _ rfl HL.out (hK _ _ ?_)
        clear hK K
        refine wpAny_ready (rs := [3]) (by kernel_rfl) (by simp) ?_
        refine AllReady.cons rfl (fun K hK => ?_) AllReady.nil
        refine step_store_at rfl 106 (.tmp 4) (.tmp 29) rfl _ _ rfl rfl HT.out (hK _ _ ?_)
        clear hK K
        refine wpAny_ready (rs := [4]) (by kernel_rfl) (by simp) ?_
        refine AllReady.cons rfl (fun K hK => ?_) AllReady.nil
        go_simp
        refine hK _ _ ?_
        clear hK K
        refine wpAny_done (by kernel_rfl) ?_ _
        go_wp2
        exact bodyPost_ret (v := .tuple #[.agg C, .bool bb]) (res_cell rfl _ _ _ _ _ rfl rfl HV'.out) rfl ⟨_, bb, by rw [← HC.out], HB'.out, HQ.out.imp (fun q => ⟨q.1, q.2, rfl⟩) id⟩
end Go.Proofs.Ytokaohlgncmoaaa.K
namespace Go.Proofs.Ytokaohlgncmoaaa.K
open Go.ChangeShapes Go.WideShapes Go.ChangeAt Go.RowKit
set_option linter.unusedVariables false
set_option maxRecDepth 8192

theorem Try.infoI : (Try.prog.info? 3).map (fun i => (i.zero, i.size, i.bytes)) = some (some (.int .i64 0), 1, 8) := by kernel_rfl
def enI (L : List Int) : List Value := L.map fun x => .int .i64 x
theorem enI_snoc (L : List Int) (x : Int) : enI (L ++ [x]) = enI L ++ [.int .i64 x] := by simp [enI]
def Is (w : World) (base : Nat) (v : Value) (L : List Int) : Prop := w.ownsRow base 3 1 v L.length (enI L)
theorem Is.nil (w : World) (base : Nat) : Is w base (.slice none 0 0) [] := World.ownsRow_nil _ _ _ _
def fr (F : Nat) (n : Int) (l : Nat) (f : Nat → Int) : List Int := ((List.range F).filter fun (k : Nat) => has l f ((k : Int) % n)).map fun (k : Nat) => (k : Int)
theorem fr_succ (k : Nat) (n : Int) (l : Nat) (f : Nat → Int) : fr (k + 1) n l f = fr k n l f ++ (if has l f ((k : Int) % n) then [(k : Int)] else []) := by
  unfold fr
  rw [List.range_succ, List.filter_append, List.map_append]
  congr 1
  cases h : has l f ((k : Int) % n) <;> simp [h]
theorem fr_len (F : Nat) (n : Int) (l : Nat) (f : Nat → Int) : (fr F n l f).length ≤ F := by
  unfold fr
  rw [List.length_map]
  exact Nat.le_trans (List.length_filter_le _ _) (by simp)
theorem ownsRow_less {w : World} {base base' : Nat} {e : TypeId} {s : Nat} {v : Value} {n : Nat} {L : List Value} (h : w.ownsRow base e s v n L) (hb : base' ≤ base) : w.ownsRow base' e s v n L := by
  rcases h with ⟨h0, h⟩
  refine ⟨h0, ?_⟩
  rcases h with h | ⟨g, cap, cur, h1, h2, h3⟩
  · exact Or.inl h
  · exact Or.inr ⟨g, cap, cur, h1, Nat.le_trans hb h2, h3⟩
theorem cell_one_new (w : World) (v : Value) (t : TypeId) : ∀ j u, [v][j]? = some u → (w.alloc (.cells #[v] t)).cell? ((⟨w.heap.size, 0, none⟩ : Addr).add j) = some u := by
  intro j u hu
  rw [Go.WideShapes.add_plain, cell_of_row _ _ (0 + j) _ t (0, 0) (heap_alloc_last w _), Nat.zero_add]
  simpa using hu
def Frd (w : World) (F : Nat) (n : Int) (l : Nat) (f : Nat → Int) (e : Ending) (w' : World) : Prop := ∃ v, e = .returned (.tuple #[v, .int .i64 0]) ∧ Is w' w.heap.size v (fr F n l f) ∧ Below w.heap.size w w'
set_option maxRecDepth 100000 in
set_option maxHeartbeats 1000000 in
theorem Frames_ok {w : World} {a : Option Addr} {l c : Nat} {f : Nat → Int} {F : Nat} {n : Int} (hl : l ≤ maxLen) (hA : Arg w a l f) (hF : 1 ≤ F ∧ F ≤ 4096) (hn : okL n l f) :
    Calls Try.prog 23 #[.int .i64 F, .int .i64 n, .slice a l c] w (Frd w F n l f) := by
  have ha : inB F 1 4096 = true := inB_t (by omega) (by omega)
  have HC : Hid (Calls _ _ _ _ _) := choose_any (c := c) (n := n) hl hA
  have HN : Hid (okL n l f) := hn
  obtain ⟨n1, n2⟩ := hn.1
  have hzv := (zero_of_info Try.infoA).1
  obtain ⟨i0, hi, hz0, hz1, hz2⟩ := info_parts Try.infoI
  clear hA hn
  go_enter Try.func23, Try.ntmps23
  go_wp2_with (go_at_call 43; refine (framesMayBe_any _ _).mono ?_; rintro e w' ⟨rfl, rfl⟩)
  refine HC.out.mono ?_
  rintro e w1 ⟨g, b, rfl, hb, hq⟩
  obtain ⟨rfl, hg⟩ : b = true ∧ g = fun (i : Nat) => has l f i := by
    rcases hq with ⟨q1, _, q2⟩ | ⟨_, q⟩
    · exact ⟨q1, q2⟩
    · exact absurd HN.out q
  have HT : Hid _ := stA w1 g (Array.replicate 16 (.bool false)) (by simp)
  have HB : Hid (Below w'.heap.size w' (w1.alloc (.cells (ar g) 106))) := hb.alloc hb.size _
  have HS : Hid (w'.heap.size ≤ (w1.alloc (.cells (ar g) 106)).heap.size) := HB.out.size
  have HX : Hid (w1.heap.size < (w1.alloc (.cells (ar g) 106)).heap.size) := by unfold Hid; simp
  have HG : Hid (∀ r : Nat, r < 16 → (w1.alloc (.cells (ar g) 106)).cell? ⟨w1.heap.size, r, none⟩ = some (.bool (has l f r))) := fun r hr => by
    rw [cell_of_row _ _ r _ 106 (0, 0) (heap_alloc_last w1 _), ar_get _ hr, hg]
  clear hq hb HC HN hg ha
  generalize ar g = C at *
  generalize (Array.replicate 16 (Value.bool false)) = Z at *
  go_wp2_with (refine wpList_store_at rfl 106 (.tmp 8) (.tmp 19) rfl _ _ rfl rfl HT.out ?_)
  clear HT hzv
  generalize w1.alloc (.cells C 106) = W at *
  generalize w1.heap.size = X at *
  go_loopw [10, 11, 24] (fun v q i wr => ∃ (k : Nat) (vv qq : Value), vv = v ∧ qq = q ∧ k ≤ F ∧ i = .int .i64 k ∧ Is wr W.heap.size v (fr k n l f) ∧ Below W.heap.size W wr) (fun _ _ i _ => F - (intOf i).toNat)
  case atStart => exact ⟨0, _, _, rfl, rfl, by omega, rfl, Is.nil _ _, Below.refl _ _⟩
  case round =>
    obtain ⟨k, v, qq, hvv, hqq, hk, rfl, hI, hb⟩ := hrel
    subst hvv hqq
    have HL : Hid (Below W.heap.size W wr) := hb
    have HI : Hid (Is wr W.heap.size v (fr k n l f)) := hI
    have hlen : (fr k n l f).length ≤ F := Nat.le_trans (fr_len k n l f) hk
    clear hb hI
    by_cases hlt : k < F
    · obtain ⟨r, hr⟩ := Int.eq_ofNat_of_zero_le (Int.emod_nonneg (k : Int) (show n ≠ 0 by omega))
      have hr' : (k : Int) % n = (r : Int) := hr
      have hr2 := Int.emod_lt_of_pos (k : Int) (show 0 < n by omega)
      have hm : (k : Int).tmod n = (r : Int) := (Int.tmod_eq_emod_of_nonneg (by omega)).trans hr'
      rw [hr'] at hr2
      have hr3 : (r : Int) < 16 := by omega
      have hn0 : ¬ n = 0 := by omega
      have hc := (HL.out.cell (p := ⟨X, r, none⟩) HX.out).trans (HG.out r (by omega))
      have HR : Hid (fr (k + 1) n l f = fr k n l f ++ (if has l f (r : Int) then [(k : Int)] else [])) := by unfold Hid; rw [fr_succ, hr']
      clear hr hr'
      cases hh : has l f (r : Int)
      · rw [hh] at hc HR
        go_wp2
        go_roundw
        case rel => exact ⟨k + 1, _, _, rfl, rfl, by omega, by go_num, by rw [HR.out]; simpa using HI.out, HL.out⟩
        case measure => simp [intOf]; omega
      · rw [hh] at hc HR
        have hsz := HL.out.size
        go_wp2_with (at_builtin; refine wpList_append_own _ rfl (.tmp 32) (.tmp 34) 25 rfl W.heap.size 3 i0 _ 1 8 Try.underlying25 hi hz0 hz1 hz2 rfl (by decide) _ (fr k n l f).length _ rfl (HI.out.alloc _) ⟨wr.heap.size, 0, none⟩ 1 1 [.int .i64 k] rfl rfl (cell_one_new _ _ _) (by intro u hu; simp at hu; subst hu; rfl) (by unfold maxLen; omega) (by omega) (by simp; omega) ?_; intro v2 w2 o2 gr2 nil2)
        go_roundw
        case rel =>
          refine ⟨k + 1, _, _, rfl, rfl, by omega, by go_num, ?_, (HL.out.alloc hsz _).grown gr2 (by simp; omega) (fun t ht => (HI.out.lt t ht).1)⟩
          rw [HR.out]
          simp only [if_true]
          unfold Is
          rw [enI_snoc, List.length_append]
          exact o2
        case measure => simp [intOf]; omega
    · obtain rfl : k = F := by omega
      go_wp2
      go_ret2
      exact ⟨v, rfl, ownsRow_less HI.out HS.out, HB.out.trans (HL.out.mono HS.out)⟩
end Go.Proofs.Ytokaohlgncmoaaa.K
