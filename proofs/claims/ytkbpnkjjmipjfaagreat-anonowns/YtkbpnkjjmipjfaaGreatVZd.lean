/- The small functions of package anon: made, below, check, find, findFor; no condition but those that each theorem names. -/
import Derived.Test.YtkbpnkjjmipjfaaGreatVZb
import Derived.Test.YtkbpnkjjmipjfaaGreatVZa
import Derived.Test.YtkbpnkjjmipjfaaGreatVGy
import Derived.Test.YtkbpnkjjmipjfaaGreatVUv
import Derived.Sort.OwnSortedInts
import Derived.Maps.AppendAt
namespace Go.Proofs.YtkbpnkjjmipjfaaGreat.Az
open B P Go.ChangeShapes Go.WideShapes Go.ChangeAt Go.RowKit
set_option linter.unusedVariables false
set_option maxRecDepth 8192

theorem mapr_nil (r : Option Nat) : ∀ w : World, (binOp .neq 85 (.map r) (.map none)).run Tryz.prog w = .ok (.bool r.isSome) w := fun w => by rw [run_neq_map_nil w _ _ _ r Tryz.underlying85]; cases r <;> rfl
section
variable {w : World} {L : Nat → Nat} {a h s b N : Nat} {f : Rs} {g : Nat → Nat} {V : Nat → Value} {A : Nat → Nat}
theorem made_ok (K : An w L a h s b N f g V A) : Calls Tryz.prog 86 #[.pointer (some ⟨a, 0, none⟩)] w fun e w' => e = .returned (.bool true) ∧ w' = w := by
  have hc := K.c2
  have hz := mapr_nil (some b)
  clear K
  go_enter Tryz.func86, Tryz.ntmps86
  go_wp2
  go_ret
  exact ⟨rfl, rfl⟩
theorem below_any (x n : Int) (w : World) : Calls Tryz.prog 85 #[.int .i64 x, .int .i64 n] w fun e w' => e = .returned (.bool (decide (0 ≤ x ∧ x < n))) ∧ w' = w := by
  by_cases h0 : 0 ≤ x
  · have h0' : decide (x ≥ 0) = true := by simp; omega
    by_cases h1 : x < n
    · have e : decide (0 ≤ x ∧ x < n) = true := by simp; omega
      rw [e]
      go_enter Tryz.func85, Tryz.ntmps85
      go_wp2
      go_ret
      exact ⟨ret_bool (by first | (simp; done) | (simp; omega)), rfl⟩
    · have e : decide (0 ≤ x ∧ x < n) = false := by simp; omega
      rw [e]
      go_enter Tryz.func85, Tryz.ntmps85
      go_wp2
      go_ret
      exact ⟨ret_bool (by first | (simp; done) | (simp; omega)), rfl⟩
  · have e : decide (0 ≤ x ∧ x < n) = false := by simp; omega
    rw [e]
    go_enter Tryz.func85, Tryz.ntmps85
    go_wp2
    go_ret
    exact ⟨rfl, rfl⟩
def chE (pg pd : Int) : Int := if 0 ≤ pg ∧ pg < 1048576 ∧ 0 ≤ pd ∧ pd < 16 then 0 else 2
theorem check_ok (K : An w L a h s b N f g V A) (pg pd : Int) : Calls Tryz.prog 73 #[.pointer (some ⟨a, 0, none⟩), .int .i64 pg, .int .i64 pd] w fun e w' => e = .returned (.int .i64 (chE pg pd)) ∧ w' = w := by
  have CM : Hid (Calls _ _ _ _ _) := made_ok K
  have B1 : Hid (Calls Tryz.prog 85 #[.int .i64 pg, .int .i64 1048576] w _) := below_any pg 1048576 w
  have B2 : Hid (Calls Tryz.prog 85 #[.int .i64 pd, .int .i64 16] w _) := below_any pd 16 w
  clear K
  by_cases h1 : 0 ≤ pg ∧ pg < 1048576
  · rw [show decide (0 ≤ pg ∧ pg < 1048576) = true by simpa using h1] at B1
    by_cases h2 : 0 ≤ pd ∧ pd < 16
    · rw [show decide (0 ≤ pd ∧ pd < 16) = true by simpa using h2] at B2
      rw [show chE pg pd = 0 by unfold chE; rw [if_pos ⟨h1.1, h1.2, h2.1, h2.2⟩]]
      clear h1 h2
      go_enter Tryz.func73, Tryz.ntmps73
      go_wp2_with fail
      refine CM.out.mono ?_
      rintro e w1 ⟨rfl, hw⟩
      obtain rfl := hw.symm
      clear hw
      clear CM
      go_wp2_with fail
      refine B1.out.mono ?_
      rintro e w1 ⟨rfl, hw⟩
      obtain rfl := hw.symm
      clear hw
      clear B1
      go_wp2_with fail
      refine B2.out.mono ?_
      rintro e w1 ⟨rfl, hw⟩
      obtain rfl := hw.symm
      clear hw
      go_wp2
      go_ret
      exact ⟨rfl, rfl⟩
    · rw [show decide (0 ≤ pd ∧ pd < 16) = false by simpa using h2] at B2
      rw [show chE pg pd = 2 by unfold chE; rw [if_neg (fun q => h2 ⟨q.2.2.1, q.2.2.2⟩)]]
      clear h1 h2
      go_enter Tryz.func73, Tryz.ntmps73
      go_wp2_with fail
      refine CM.out.mono ?_
      rintro e w1 ⟨rfl, hw⟩
      obtain rfl := hw.symm
      clear hw
      clear CM
      go_wp2_with fail
      refine B1.out.mono ?_
      rintro e w1 ⟨rfl, hw⟩
      obtain rfl := hw.symm
      clear hw
      clear B1
      go_wp2_with fail
      refine B2.out.mono ?_
      rintro e w1 ⟨rfl, hw⟩
      obtain rfl := hw.symm
      clear hw
      go_wp2
      go_ret
      exact ⟨rfl, rfl⟩
  · rw [show decide (0 ≤ pg ∧ pg < 1048576) = false by simpa using h1] at B1
    rw [show chE pg pd = 2 by unfold chE; rw [if_neg (fun q => h1 ⟨q.1, q.2.1⟩)]]
    clear h1
    go_enter Tryz.func73, Tryz.ntmps73
    go_wp2_with fail
    refine CM.out.mono ?_
    rintro e w1 ⟨rfl, hw⟩
    obtain rfl := hw.symm
    clear hw
    clear CM
    go_wp2_with fail
    refine B1.out.mono ?_
    rintro e w1 ⟨rfl, hw⟩
    obtain rfl := hw.symm
    clear hw
    go_wp2
    go_ret
    exact ⟨rfl, rfl⟩
def wfI (x : Int) : Prop := -9223372036854775808 ≤ x ∧ x ≤ 9223372036854775807
def fdP (f : Rs) (g : Nat → Nat) (id : Int) : Value := ((rcd f id).map fun _ => Value.pointer (some ⟨g id.toNat, 0, none⟩)).getD (.pointer none)
def fdE (f : Rs) (id : Int) : Int := match rcd f id with | none => 200 | some _ => 0
theorem find_ok (K : An w L a h s b N f g V A) {id : Int} (hw : wfI id) : Calls Tryz.prog 84 #[.pointer (some ⟨a, 0, none⟩), .int .i64 id] w fun e w' => e = .returned (.tuple #[fdP f g id, .int .i64 (fdE f id)]) ∧ w' = w := by
  have CM : Hid (Calls _ _ _ _ _) := made_ok K
  have hc := K.c2
  have hl := K.mp.look keyed Tryz.underlying85 (z := .pointer none) ((zero_of_info Tryz.zeroPr).1 w) (x := id) (kv := .int .i64 id) (ik_in hw.1 hw.2)
  unfold fdP fdE
  unfold pts at hl
  clear K
  cases hr : rcd f id with
  | none =>
    rw [hr] at hl
    simp only [Option.map_none, Option.getD_none, Option.isSome_none] at hl
    go_enter Tryz.func84, Tryz.ntmps84
    go_wp2_with (go_at_call 86; refine CM.out.mono ?_; rintro e w1 ⟨rfl, hw⟩; obtain rfl := hw.symm; clear hw)
    go_wp2
    go_ret2
    exact ⟨rfl, rfl⟩
  | some r =>
    rw [hr] at hl
    simp only [Option.map_some, Option.getD_some, Option.isSome_some] at hl
    go_enter Tryz.func84, Tryz.ntmps84
    go_wp2_with (go_at_call 86; refine CM.out.mono ?_; rintro e w1 ⟨rfl, hw⟩; obtain rfl := hw.symm; clear hw)
    go_wp2
    go_ret2
    exact ⟨rfl, rfl⟩
def ffP (f : Rs) (g : Nat → Nat) (id pd : Int) : Value := if 0 ≤ pd ∧ pd < 16 then fdP f g id else .pointer none
def ffE (f : Rs) (id pd : Int) : Int := match rcd f id with | none => 200 | some _ => if 0 ≤ pd ∧ pd < 16 then 0 else 2
theorem findFor_ok (K : An w L a h s b N f g V A) {id : Int} (hw : wfI id) (pd : Int) : Calls Tryz.prog 78 #[.pointer (some ⟨a, 0, none⟩), .int .i64 id, .int .i64 pd] w fun e w' => e = .returned (.tuple #[ffP f g id pd, .int .i64 (ffE f id pd)]) ∧ w' = w := by
  have CF : Hid (Calls _ _ _ _ _) := find_ok K hw
  have B2 : Hid (Calls Tryz.prog 85 #[.int .i64 pd, .int .i64 16] w _) := below_any pd 16 w
  clear K
  unfold ffP ffE
  unfold fdE fdP at *
  cases hr : rcd f id with
  | none =>
    rw [hr] at CF
    simp only [Option.map_none, Option.getD_none, ite_self] at CF ⊢
    go_enter Tryz.func78, Tryz.ntmps78
    go_wp2_with (go_at_call 84; refine CF.out.mono ?_; rintro e w1 ⟨rfl, hw⟩; obtain rfl := hw.symm; clear hw)
    clear CF
    go_wp2
    go_ret2
    exact ⟨rfl, rfl⟩
  | some r =>
    rw [hr] at CF
    simp only [Option.map_some, Option.getD_some] at CF ⊢
    by_cases h2 : 0 ≤ pd ∧ pd < 16
    · have e2 : decide (0 ≤ pd ∧ pd < 16) = true := by simpa using h2
      rw [e2] at B2
      simp only [if_pos h2]
      go_enter Tryz.func78, Tryz.ntmps78
      go_wp2_with (go_at_call 84; refine CF.out.mono ?_; rintro e w1 ⟨rfl, hw⟩; obtain rfl := hw.symm; clear hw)
      clear CF
      go_wp2_with (go_at_call 85; refine B2.out.mono ?_; rintro e w1 ⟨rfl, hw⟩; obtain rfl := hw.symm; clear hw)
      clear B2
      go_wp2
      go_ret2
      exact ⟨rfl, rfl⟩
    · have e2 : decide (0 ≤ pd ∧ pd < 16) = false := by simpa using h2
      rw [e2] at B2
      simp only [if_neg h2]
      go_enter Tryz.func78, Tryz.ntmps78
      go_wp2_with (go_at_call 84; refine CF.out.mono ?_; rintro e w1 ⟨rfl, hw⟩; obtain rfl := hw.symm; clear hw)
      clear CF
      go_wp2_with (go_at_call 85; refine B2.out.mono ?_; rintro e w1 ⟨rfl, hw⟩; obtain rfl := hw.symm; clear hw)
      clear B2
      go_wp2
      go_ret2
      exact ⟨rfl, rfl⟩
end
end Go.Proofs.YtkbpnkjjmipjfaaGreat.Az
namespace Go.Proofs.YtkbpnkjjmipjfaaGreat.Az
open B P Go.ChangeShapes Go.WideShapes Go.ChangeAt Go.RowKit
set_option linter.unusedVariables false
set_option maxRecDepth 8192

theorem own_cells {w : World} {g cap : Nat} {l : List Int} (h : Own w (.slice (some ⟨g, 0, none⟩) l.length cap) l) {k : Nat} {t : Int} (hk : l[k]? = some t) : w.cell? ⟨g, k, none⟩ = some (.int .i64 t) := by
  obtain ⟨g', cap', e, hc⟩ := h.cell hk
  cases e
  exact hc
theorem plc_or (l : List Int) (x : Int) : (∃ i, Plc l x i) ∨ x ∉ l := by
  by_cases h : x ∈ l
  · left
    have hlt := List.idxOf_lt_length_iff.2 h
    refine ⟨l.idxOf x, hlt, ?_, fun j hj e => ?_⟩
    · rw [List.getElem?_eq_getElem hlt, List.getElem_idxOf]
    · obtain ⟨hj', e'⟩ := List.getElem?_eq_some_iff.1 e
      have := List.not_of_lt_findIdx (p := (· == x)) (xs := l) (i := j) hj
      simp [e'] at this
  · exact Or.inr h
def intOf : Value → Int
  | .int _ a => a
  | _ => 0
theorem Index_at {w : World} {g cap : Nat} {l : List Int} {x : Int} {i : Nat} (h : Own w (.slice (some ⟨g, 0, none⟩) l.length cap) l) (hb : l.length ≤ 5000) (hi : Plc l x i) :
    Calls Tryz.prog 80 #[.slice (some ⟨g, 0, none⟩) l.length cap, .int .i64 x] w fun e w' => e = .returned (.int .i64 i) ∧ w' = w := by
  have hlt := hi.lt
  have HC : Hid (∀ k, k < l.length → w.cell? ⟨g, k, none⟩ = some (.int .i64 (l.getD k 0))) := fun k hk => own_cells h (by rw [List.getElem?_eq_getElem hk, List.getD_eq_getElem?_getD, List.getElem?_eq_getElem hk]; rfl)
  have HX : Hid (l.getD i 0 = x) := by unfold Hid; rw [List.getD_eq_getElem?_getD, hi.at']; rfl
  have HN : Hid (∀ k, k < i → l.getD k 0 ≠ x) := fun k hk e => hi.no k hk (by
    rw [List.getD_eq_getElem?_getD, List.getElem?_eq_getElem (by omega)] at e
    rw [List.getElem?_eq_getElem (by omega)]
    exact congrArg some e)
  clear h hi
  generalize l.length = n at *
  go_enter Tryz.func80, Tryz.ntmps80
  go_wp2
  go_loop [8] (fun j => ∃ k : Nat, k ≤ i ∧ j = .int .i64 k) (fun j => n - (intOf j).toNat)
  case atStart => exact ⟨0, by omega, rfl⟩
  case round =>
    obtain ⟨k, hk, rfl⟩ := hrel
    have hkn : k < n := by omega
    have hc := HC.out k hkn
    by_cases e : k = i
    · subst e
      rw [HX.out] at hc
      go_wp2
      go_ret
      exact ⟨rfl, rfl⟩
    · have hne := HN.out k (by omega)
      generalize l.getD k 0 = y at *
      go_wp2
      go_round
      case rel => exact ⟨k + 1, by omega, by go_num⟩
      case measure => simp [intOf]; omega
theorem Index_no {w : World} {g cap : Nat} {l : List Int} {x : Int} (h : Own w (.slice (some ⟨g, 0, none⟩) l.length cap) l) (hb : l.length ≤ 5000) (hi : x ∉ l) :
    Calls Tryz.prog 80 #[.slice (some ⟨g, 0, none⟩) l.length cap, .int .i64 x] w fun e w' => e = .returned (.int .i64 (-1)) ∧ w' = w := by
  have HC : Hid (∀ k, k < l.length → w.cell? ⟨g, k, none⟩ = some (.int .i64 (l.getD k 0))) := fun k hk => own_cells h (by rw [List.getElem?_eq_getElem hk, List.getD_eq_getElem?_getD, List.getElem?_eq_getElem hk]; rfl)
  have HN : Hid (∀ k, k < l.length → x ≠ l.getD k 0) := fun k hk e => hi (by
    rw [List.getD_eq_getElem?_getD, List.getElem?_eq_getElem (by omega)] at e
    rw [e]
    exact List.getElem_mem _)
  clear h hi
  generalize l.length = n at *
  go_enter Tryz.func80, Tryz.ntmps80
  go_wp2
  go_loop [8] (fun j => ∃ k : Nat, k ≤ n ∧ j = .int .i64 k) (fun j => n - (intOf j).toNat)
  case atStart => exact ⟨0, by omega, rfl⟩
  case round =>
    obtain ⟨k, hk, rfl⟩ := hrel
    by_cases hkn : k < n
    · have hc := HC.out k hkn
      have hne := HN.out k hkn
      generalize l.getD k 0 = y at *
      go_wp2
      go_round
      case rel => exact ⟨k + 1, by omega, by go_num⟩
      case measure => simp [intOf]; omega
    · obtain rfl : k = n := by omega
      go_wp2
      go_ret
      exact ⟨rfl, rfl⟩
theorem Contains_ok {w : World} {g cap : Nat} {l : List Int} {x : Int} (h : Own w (.slice (some ⟨g, 0, none⟩) l.length cap) l) (hb : l.length ≤ 5000) :
    Calls Tryz.prog 110 #[.slice (some ⟨g, 0, none⟩) l.length cap, .int .i64 x] w fun e w' => e = .returned (.bool (decide (x ∈ l))) ∧ w' = w := by
  rcases plc_or l x with ⟨i, hi⟩ | hi
  · have CI := Index_at h hb hi
    rw [decide_eq_true hi.mem]
    clear hi
    go_enter Tryz.func110, Tryz.ntmps110
    go_wp2_with (go_at_call 80; refine CI.mono ?_; rintro e w' ⟨rfl, hw⟩; obtain rfl := hw.symm)
    go_ret
    exact ⟨ret_bool (by simp), rfl⟩
  · have CI := Index_no h hb hi
    rw [decide_eq_false hi]
    clear hi
    go_enter Tryz.func110, Tryz.ntmps110
    go_wp2_with (go_at_call 80; refine CI.mono ?_; rintro e w' ⟨rfl, hw⟩; obtain rfl := hw.symm)
    go_ret
    exact ⟨rfl, rfl⟩
theorem Sort_ok {w : World} {v : Value} {l : List Int} (h : Own w v l) (hne : l ≠ []) (hl : l.length < 1000000) :
    Calls Tryz.prog 79 #[v] w fun e w' => ∃ l' : List Int, e = .returned (.tuple #[]) ∧ l'.Perm l ∧ l'.Pairwise (· ≤ ·) ∧ Own w' v l' ∧ w.grownBy w' v.ownBlock := by
  rcases h.shape with ⟨_, e⟩ | ⟨g, cap, C, rfl, h1, h2, h3, h4, h5⟩
  · exact absurd e hne
  · have ht : C.toArray.toList.take l.length = l.map (Value.int .i64) := by rw [List.toList_toArray]; exact h5
    have hH := holds_of_blockI (w := w) (g := g) (cur := C.toArray) (e := 3) (ss := l) h1 ht
    have CS := AnyM.slices_Sort_int sortA g 0 cap l w hH h1.lt (by omega)
    rw [show sortA_ren.f 5 = 79 from rfl] at CS
    refine CS.mono ?_
    rintro e w' ⟨rfl, n, os, rfl⟩
    have hlen : (l.mergeSort fun x y => decide (x ≤ y)).length = l.length := List.length_mergeSort _
    have hown := ownsRow_sortedI (w := w) (base := 0) (g := g) (cap := cap) (n := n) (e := 3) (os := os) (cur := C.toArray) (ss := l) (ts := l.mergeSort fun x y => decide (x ≤ y)) hlen (Nat.zero_le _) h1 h2 h3 (by simp [h4])
    refine ⟨l.mergeSort fun x y => decide (x ≤ y), rfl, List.mergeSort_perm _ _, ?_, ?_, grownBy_sortedI _⟩
    · have := List.pairwise_mergeSort (le := fun x y : Int => decide (x ≤ y)) (fun a b c h h' => by simp at *; omega) (fun a b => by simp; omega) l
      exact this.imp (fun h => by simpa using h)
    · unfold Own
      rw [hlen]
      exact hown
def Jn (w : World) (v : Value) (l : List Int) (v' : Value) (w' : World) : Prop := Own w' v' l ∧ w.grownBy w' v.ownBlock ∧ ∀ g, v'.ownBlock = some g → v.ownBlock = some g ∨ w.heap.size ≤ g
theorem app_one {w : World} {v : Value} {l : List Int} (h : Own w v l) (x : Int) (g0 cx : Nat) (hg : w.cell? ⟨g0, 0, none⟩ = some (.int .i64 x)) (hle : l.length ≤ 100000) (ty : TypeId) :
    ∃ v' w', (Builtin.append_ #[25, 25] ty #[v, .slice (some ⟨g0, 0, none⟩) 1 cx]).run Tryz.prog w = .ok v' w' ∧ Jn w v (l ++ [x]) v' w' := by
  obtain ⟨i0, hi0, hz0, hz1, hz2⟩ := info_parts B.Tryz.infoI
  obtain ⟨v', w', hr, ho, hg', _, hat⟩ := run_append_own_at w 0 25 ty 3 i0 _ 1 8 Tryz.underlying25 hi0 hz0 hz1 hz2 rfl (by decide) v l.length (tv l) h ⟨g0, 0, none⟩ 1 cx [.int .i64 x] rfl (fun j u hj => by
    cases j with
    | zero => cases hj; exact hg
    | succ j => simp at hj) (by intro u hu; simp at hu; subst hu; rfl) (by unfold maxLen; omega) (by omega) (Nat.zero_le _)
  refine ⟨v', w', hr, ?_, hg', fun g hg' => ?_⟩
  · unfold Own
    rw [List.length_append, show tv (l ++ [x]) = tv l ++ [.int .i64 x] by simp [tv]]
    exact ho
  · rcases hat with q | q
    · exact Or.inl (by rw [← q]; exact hg')
    · right
      rw [hg'] at q
      have : g = w.heap.size := by injection q
      omega
theorem wpList_app {w : World} {ops : Array Oper} {rest : List Oper} {o : Oper} {a : Act} {Q : Exit → Act → World → Prop} {R : Value → World → Prop} (hgd : o.guard = none) (s x : Operand)
    (ho : o.op = .call { callee := .builtin .append, args := #[s, x], argTypes := #[25, 25] }) (vs vx : Value) (hs : a.eval s = vs) (hx : a.eval x = vx)
    (hr : ∃ v' w', (Builtin.append_ #[25, 25] o.type #[vs, vx]).run Tryz.prog w = .ok v' w' ∧ R v' w') (h : ∀ v' w', R v' w' → wpList Tryz.prog ops Q rest (a.put o.dst v') w') : wpList Tryz.prog ops Q (o :: rest) a w :=
  wpList_plain hgd fun _ hK => by
    obtain ⟨v', w', hr, hR⟩ := hr
    unfold Oper.wp execOp
    simp only [ho, resolve, invoke, builtin, Sem.run_bind, Sem.run_pure, Result.andThen_ok, List.map_toArray, List.map_cons, List.map_nil, hs, hx, hr]
    exact hK _ _ (h v' w' hR)
theorem wpList_del {w : World} {ops : Array Oper} {rest : List Oper} {o : Oper} {a : Act} {Q : Exit → Act → World → Prop} {R : World → Prop} (hgd : o.guard = none) (s x : Operand)
    (ho : o.op = .call { callee := .builtin .delete, args := #[s, x], argTypes := #[85, 3] }) (vs vx : Value) (hs : a.eval s = vs) (hx : a.eval x = vx)
    (hr : ∃ w', (Builtin.delete_ #[85, 3] o.type #[vs, vx]).run Tryz.prog w = .ok (.tuple #[]) w' ∧ R w') (h : ∀ w', R w' → wpList Tryz.prog ops Q rest (a.put o.dst (.tuple #[])) w') : wpList Tryz.prog ops Q (o :: rest) a w := by
  refine wpList_plain hgd fun K hK => ?_
  obtain ⟨w', hr, hR⟩ := hr
  unfold Oper.wp
  simp [execOp, ho, resolve, invoke, builtin, hs, hx, hr, Result.andThen]
  exact hK _ _ (h w' hR)
end Go.Proofs.YtkbpnkjjmipjfaaGreat.Az
namespace Go.Proofs.YtkbpnkjjmipjfaaGreat.Az
open B P Go.ChangeShapes Go.WideShapes Go.ChangeAt Go.RowKit
set_option linter.unusedVariables false
set_option maxRecDepth 8192

section
variable {w : World} {L : Nat → Nat} {a h s b N : Nat} {f : Rs} {g : Nat → Nat} {V : Nat → Value} {A : Nat → Nat}
theorem An.row (K : An w L a h s b N f g V A) {i : Nat} {r : Rc} (hr : f i = some r) : ∃ x cap, V i = .slice (some ⟨x, 0, none⟩) r.ps.length cap ∧ Own w (.slice (some ⟨x, 0, none⟩) r.ps.length cap) r.ps ∧ r.ps.length ≤ cap ∧ cap ≤ maxLen ∧ r.ps.length ≤ 16 ∧ L x = 2 * i + 4 := by
  have ho := K.ow i r hr
  rcases ho.shape with ⟨_, e⟩ | ⟨x, cap, C, e, h1, h2, h3, h4, h5⟩
  · exact absurd e (K.ok.ne i r hr)
  · rw [e] at ho
    exact ⟨x, cap, e, ho, h2, h3, K.ok.len hr, K.lv i r x hr (by rw [e]; rfl)⟩
theorem pts_some {x : Int} {c : Value} (h : pts f g x = some c) : ∃ (k : Nat) (r : Rc), x = k ∧ f k = some r ∧ c = .pointer (some ⟨g k, 0, none⟩) := by
  unfold pts at h
  cases e : rcd f x with
  | none => rw [e] at h; cases h
  | some r =>
    rw [e] at h
    obtain ⟨h0, hr⟩ := rcd_some e
    exact ⟨x.toNat, r, by omega, hr, by simpa using h.symm⟩
def OfA (f : Rs) (pg pd i : Int) (t : Bool) : Prop := (∃ k : Nat, Fd f pg pd k ∧ i = k ∧ t = true) ∨ ((∀ k, ¬ Fd f pg pd k) ∧ i = 0 ∧ t = false)
set_option maxHeartbeats 1000000 in
theorem of_ok (K : An w L a h s b N f g V A) (pg pd : Int) : Calls Tryz.prog 74 #[.pointer (some ⟨a, 0, none⟩), .int .i64 pg, .int .i64 pd] w fun e w' => ∃ i t, e = .returned (.tuple #[.int .i64 i, .bool t]) ∧ OfA f pg pd i t ∧ Below w.heap.size w w' := by
  have hc := K.c2
  have HK : Hid (An w L a h s b N f g V A) := K
  obtain ⟨D, ho, hv⟩ := K.mp
  have HV : Hid (Vm ik D (pts f g)) := hv
  clear K hv
  go_enter Tryz.func74, Tryz.ntmps74
  go_wp2_with (first | (at_range; refine wpList_range_own _ rfl _ 85 rfl 3 158 keyed Tryz.underlying85 _ b N D rfl ho ?_; intro w0 hrg0 hg0 hs0) | go_in)
  go_frame
  go_loopw [8, 9] (fun _ _ wr => ∃ (left : Lit → Bool) (cnt : Nat), wr.ranges Tryz.prog 3 Rv b w.heap.size N D left cnt ∧ (∀ k : Nat, Fd f pg pd k → left (.int .i64 k) = true) ∧ Below w.heap.size w wr) (fun _ _ wr => wr.rangeLeft b w.heap.size)
  case atStart =>
    refine ⟨_, _, hrg0, fun k hk => ?_, below_of hg0 _ (Nat.le_refl _) (by simp)⟩
    obtain ⟨r, hr, _⟩ := hk
    rw [show Maps.has D (.int .i64 (k : Int)) = (pts f g k).isSome from HV.out.has k, pts_nat, hr]
    rfl
  case round =>
    obtain ⟨left, cnt, hrg, hF, hB⟩ := hrel
    have HF : Hid (∀ k : Nat, Fd f pg pd k → left (.int .i64 k) = true) := hF
    have HB : Hid (Below w.heap.size w wr) := hB
    have HRG : Hid (wr.ranges Tryz.prog 3 Rv b w.heap.size N D left cnt) := hrg
    clear hF hB hrg hrg0 hg0
    go_wp2_with (first | (at_next; refine wpList_next_ranges _ rfl _ rfl 3 keyed Rv (Value.int .i64) (fun v : Value => v) (fun key kl hk => by obtain ⟨x, e, _⟩ := Maps.keyOf_int_inv Tryz.underlying3 hk; exact ⟨x, e⟩) (fun v y _ => ⟨v, rfl⟩) b w.heap.size N _ _ _ rfl HRG.out ?_ ?_) | go_in)
    · intro _ hl0
      have HN : Hid (OfA f pg pd 0 false) := Or.inr ⟨fun k hk => (by have := HF.out k hk; rw [hl0] at this; cases this), rfl, rfl⟩
      go_wp2
      go_ret2
      exact ⟨0, false, rfl, HN.out, HB.out⟩
    · intro x c kl y1 y2 w1 cnt1 hkey hlk hR hat hrg1 hlt hg1 hs1 hen
      obtain ⟨rfl, hm⟩ := ent_is (y := (y1, y2)) HV.out hkey hR hat
      obtain ⟨k, r, rfl, hr, rfl⟩ := pts_some hm
      have HRG1 : Hid (w1.ranges Tryz.prog 3 Rv b w.heap.size N D (fun z => left z && !z.sameKey (.int .i64 (k : Int))) cnt1) := hrg1
      have HB1 : Hid (Below w.heap.size w w1) := HB.out.trans (below_of hg1 _ HB.out.size (by intro k z; injection z with z; omega))
      have K1 := HK.out.below HB1.out
      obtain ⟨x, cap, hV, hO, h1, h2, h3, _⟩ := K1.row hr
      have c0 : w1.cell? ⟨g k, 0, none⟩ = some (.int .i64 r.pg) := (K1.rc k r hr).cell 0
      have c1 : w1.cell? ⟨g k, 1, none⟩ = some (.slice (some ⟨x, 0, none⟩) r.ps.length cap) := by rw [← hV]; exact (K1.rc k r hr).cell 1
      have CC : Hid (Calls Tryz.prog 110 #[.slice (some ⟨x, 0, none⟩) r.ps.length cap, .int .i64 pd] w1 _) := Contains_ok (x := pd) hO (by omega)
      have HFD : Hid (Fd f pg pd k ↔ r.pg = pg ∧ pd ∈ r.ps) := ⟨fun ⟨q, hq, h⟩ => by rw [hr] at hq; cases hq; exact h, fun h => ⟨r, hr, h⟩⟩
      have HNX : Hid (¬ Fd f pg pd k → ∀ j : Nat, Fd f pg pd j → (left (.int .i64 j) && !(Lit.int .i64 (j : Int)).sameKey (.int .i64 (k : Int))) = true) := fun hn j hj => by
        have e : j ≠ k := fun e => hn (e ▸ hj)
        rw [HF.out j hj]
        simp [Lit.sameKey]
        omega
      have HLT : Hid (cnt1 < cnt) := hlt
      clear hkey hlk hR hat hrg1 hg1 hm K1 hO hV hlt
      generalize r.ps.length = nl at *
      by_cases e1 : r.pg = pg
      · have e2 : (r.pg == pg) = true := by simpa using e1
        rw [e1] at c0
        by_cases e3 : pd ∈ r.ps
        · have e4 : decide (pd ∈ r.ps) = true := by simpa using e3
          have HY : Hid (OfA f pg pd k true) := Or.inl ⟨k, HFD.out.2 ⟨e1, e3⟩, rfl, rfl⟩
          rw [e4] at CC
          go_wp2_with (go_at_call 110; refine CC.out.mono ?_; rintro e w2 ⟨rfl, hw2⟩; obtain rfl := hw2.symm; clear hw2)
          clear CC hen
          go_wp2
          go_ret2
          exact ⟨k, true, rfl, HY.out, HB1.out⟩
        · have e4 : decide (pd ∈ r.ps) = false := by simpa using e3
          have HNX := HNX.out (fun q => e3 (HFD.out.1 q).2)
          rw [e4] at CC
          go_wp2_with (go_at_call 110; refine CC.out.mono ?_; rintro e w2 ⟨rfl, hw2⟩; obtain rfl := hw2.symm; clear hw2)
          clear CC hen
          go_wp2
          go_roundw
          case rel => exact ⟨_, cnt1, HRG1.out, HNX, HB1.out⟩
          case measure => rw [HRG1.out.left_eq, HRG.out.left_eq]; exact HLT.out
      · have e2 : (r.pg == pg) = false := by simpa using e1
        have HNX := HNX.out (fun q => e1 (HFD.out.1 q).1)
        clear CC
        generalize r.pg = rp at *
        go_wp2
        go_roundw
        case rel => exact ⟨_, cnt1, HRG1.out, HNX, HB1.out⟩
        case measure => rw [HRG1.out.left_eq, HRG.out.left_eq]; exact HLT.out
theorem free_ok (K : An w L a h s b N f g V A) : Calls Tryz.prog 76 #[.pointer (some ⟨a, 0, none⟩)] w fun e w' => ∃ i : Nat, e = .returned (.int .i64 i) ∧ Lf f i ∧ w' = w := by
  have hc := K.c2
  obtain ⟨i, hi, hLf⟩ := lf_ex (K.ok.far N (Nat.le_refl _))
  have hN := K.nn
  have HL : Hid (∀ x : Nat, x ≤ i → (Instr.lookup 85 (.map (some b)) (.int .i64 x) false).run Tryz.prog w = .ok (if x < i then .pointer (some ⟨g x, 0, none⟩) else .pointer none) w) := fun x hx => by
    rw [K.mp.look1 keyed Tryz.underlying85 (z := .pointer none) ((zero_of_info Tryz.zeroPr).1 w) (x := (x : Int)) (kv := .int .i64 x) (ik_in (by omega) (by omega)), pts_nat]
    by_cases e : x < i
    · rw [if_pos e]
      cases hf : f x with
      | none => exact absurd hf (hLf.2 x e)
      | some r => rfl
    · have : x = i := by omega
      subst this
      rw [if_neg e, hLf.1]
      rfl
  have HLF : Hid (Lf f i) := hLf
  clear K hLf
  go_enter Tryz.func76, Tryz.ntmps76
  go_wp2
  go_loop [3] (fun j => ∃ k : Nat, k ≤ i ∧ j = .int .i64 k) (fun j => i - (intOf j).toNat)
  case atStart => exact ⟨0, by omega, rfl⟩
  case round =>
    obtain ⟨k, hk, rfl⟩ := hrel
    have hl := HL.out k hk
    by_cases e : k < i
    · rw [if_pos e] at hl
      go_wp2
      go_round
      case rel => exact ⟨k + 1, by omega, by go_num⟩
      case measure => simp [intOf]; omega
    · have : k = i := by omega
      subst this
      rw [if_neg e] at hl
      go_wp2
      go_ret
      exact ⟨k, rfl, HLF.out, rfl⟩
end
end Go.Proofs.YtkbpnkjjmipjfaaGreat.Az
namespace Go.Proofs.YtkbpnkjjmipjfaaGreat.Az
open B P Go.ChangeShapes Go.WideShapes Go.ChangeAt Go.RowKit
set_option linter.unusedVariables false
set_option maxRecDepth 8192

section
variable {w : World} {L : Nat → Nat} {a h s b N : Nat} {f : Rs} {g : Nat → Nat} {V : Nat → Value} {A : Nat → Nat}
def OfB (f : Rs) (pg pd i : Int) (t : Bool) (e : Int) : Prop := (¬ inA pg pd ∧ i = 0 ∧ t = false ∧ e = 2) ∨ (inA pg pd ∧ OfA f pg pd i t ∧ e = 0)
theorem chE_in {pg pd : Int} (h : inA pg pd) : chE pg pd = 0 := if_pos h
theorem chE_out {pg pd : Int} (h : ¬ inA pg pd) : chE pg pd = 2 := if_neg h
theorem Of_ok (K : An w L a h s b N f g V A) (pg pd : Int) : Calls Tryz.prog 30 #[.pointer (some ⟨a, 0, none⟩), .int .i64 pg, .int .i64 pd] w fun e w' => ∃ i t e', e = .returned (.tuple #[.int .i64 i, .bool t, .int .i64 e']) ∧ OfB f pg pd i t e' ∧ Below w.heap.size w w' := by
  have CH : Hid (Calls _ _ _ _ _) := check_ok K pg pd
  have CO : Hid (Calls _ _ _ _ _) := of_ok K pg pd
  clear K
  by_cases hi : inA pg pd
  · rw [chE_in hi] at CH
    go_enter Tryz.func30, Tryz.ntmps30
    go_wp2_with (go_at_call 73; refine CH.out.mono ?_; rintro e w1 ⟨rfl, hw⟩; obtain rfl := hw.symm; clear hw)
    clear CH
    go_wp2_with (go_at_call 74; refine CO.out.mono ?_; rintro e w1 ⟨i, t, rfl, h1, h2⟩; have H1 : Hid (OfA f pg pd i t ∧ Below w.heap.size w w1) := ⟨h1, h2⟩; clear h1 h2)
    clear CO
    go_wp2
    go_ret3
    exact ⟨i, t, 0, rfl, Or.inr ⟨hi, H1.out.1, rfl⟩, H1.out.2⟩
  · rw [chE_out hi] at CH
    go_enter Tryz.func30, Tryz.ntmps30
    go_wp2_with (go_at_call 73; refine CH.out.mono ?_; rintro e w1 ⟨rfl, hw⟩; obtain rfl := hw.symm; clear hw)
    clear CH
    go_wp2
    go_ret3
    exact ⟨0, false, 2, rfl, Or.inl ⟨hi, rfl, rfl, rfl⟩, Below.refl _ _⟩
theorem Count_ok (K : An w L a h s b N f g V A) : Calls Tryz.prog 33 #[.pointer (some ⟨a, 0, none⟩)] w fun e w' => e = .returned (.int .i64 (cn f N : Nat)) ∧ w' = w := by
  have CM : Hid (Calls _ _ _ _ _) := made_ok K
  have hc := K.c2
  have hl := K.mp.len Tryz.underlying85 (idI_nd f N) (idI_mem (g := g) K.ok.far)
  rw [idI_len] at hl
  clear K
  generalize cn f N = c at *
  go_enter Tryz.func33, Tryz.ntmps33
  go_wp2_with (go_at_call 86; refine CM.out.mono ?_; rintro e w1 ⟨rfl, hw⟩; obtain rfl := hw.symm; clear hw)
  clear CM
  go_wp2
  go_ret
  exact ⟨rfl, rfl⟩
def Tr (w : World) (L : Nat → Nat) (a h s b N : Nat) (f' : Rs) (g A : Nat → Nat) (w' : World) : Prop := ∃ L' V', An w' L' a h s b N f' g V' A ∧ Kp (Fo L) (Fo L') w w'
theorem An.tr (K : An w L a h s b N f g V A) : Tr w L a h s b N f g A w := ⟨L, V, K, Kp.refl _ _⟩
theorem An.two (K : An w L a h s b N f g V A) {i : Nat} {r : Rc} (hr : f i = some r) (x y : Int) : Tr w L a h s b N (put f i (some { r with fr := x, sl := y })) g A ((w.setCell ⟨g i, 2, none⟩ (.int .i64 x)).setCell ⟨g i, 3, none⟩ (.int .i64 y)) := by
  have g1 := grown_setCell' w (g i) 2 (.int .i64 x)
  have g2 := grown_setCell' (w.setCell ⟨g i, 2, none⟩ (.int .i64 x)) (g i) 3 (.int .i64 y)
  have gg := g1.trans g2
  have hne : ∀ z, (V i).ownBlock = some z → z ≠ g i := fun z hz e => by
    have h1 := K.lv i r z hr hz
    have h2 := K.lg i r hr
    rw [e] at h1
    omega
  obtain ⟨A1, A2⟩ := K.turned (w' := (w.setCell ⟨g i, 2, none⟩ (.int .i64 x)).setCell ⟨g i, 3, none⟩ (.int .i64 y)) (q := { r with fr := x, sl := y }) (v' := V i) hr gg.size (((K.rc i r hr).set 2 _).set 3 _) ((K.ow i r hr).of_eq (fun z hz => gg.block z ((K.ow i r hr).lt z hz) (some_ne (hne z hz)))) (fun z hz => Or.inl hz) (fun z hz h1 _ => gg.block z hz (some_ne h1))
    (K.ok.put (K.ok.lt hr) (K.ok.ne i r hr) (K.ok.up i r hr) (fun z hz => K.ok.rg i r z hr hz) (K.ok.pg i r hr) (fun pd hp k hk q => hk (K.ok.un _ _ _ _ q ⟨r, hr, rfl, hp⟩)))
  exact ⟨_, _, A1, Kp.of_grown gg (fun z hz => by cases hz; show L (g i) ≠ 0; rw [K.lg i r hr]; omega) A2⟩
theorem Frame_ok (K : An w L a h s b N f g V A) {id : Int} (hw : wfI id) (x : Int) : Calls Tryz.prog 31 #[.pointer (some ⟨a, 0, none⟩), .int .i64 id, .int .i64 x] w fun e w' => ∃ e' f', e = .returned (.int .i64 e') ∧ FrS f id x 4096 (fun r => { r with fr := x, sl := -1 }) f' e' ∧ Tr w L a h s b N f' g A w' := by
  have CF : Hid (Calls _ _ _ _ _) := find_ok K hw
  have B2 : Hid (Calls Tryz.prog 85 #[.int .i64 x, .int .i64 4096] w _) := below_any x 4096 w
  have HK : Hid (An w L a h s b N f g V A) := K
  unfold fdE fdP at CF
  clear K
  cases hr : rcd f id with
  | none =>
    rw [hr] at CF
    go_enter Tryz.func31, Tryz.ntmps31
    go_wp2_with (go_at_call 84; refine CF.out.mono ?_; rintro e w1 ⟨rfl, hw⟩; obtain rfl := hw.symm; clear hw)
    clear CF
    go_wp2
    go_ret
    exact ⟨200, f, rfl, Or.inl ⟨hr, rfl, rfl⟩, HK.out.tr⟩
  | some r =>
    rw [hr] at CF
    simp only [Option.map_some, Option.getD_some] at CF
    obtain ⟨h0, hr'⟩ := rcd_some hr
    have HT := HK.out.two hr' x (-1)
    have k2 : w.cell? ⟨g id.toNat, 2, none⟩ = some (.int .i64 r.fr) := (HK.out.rc _ r hr').cell 2
    have k3 : w.cell? ⟨g id.toNat, 3, none⟩ = some (.int .i64 r.sl) := (HK.out.rc _ r hr').cell 3
    have z2 := (HK.out.rc _ r hr').frozen 2
    have z3 := (HK.out.rc _ r hr').frozen 3
    have HHT : Hid (Tr _ _ _ _ _ _ _ _ _ _ _) := HT
    clear HT
    by_cases hx : 0 ≤ x ∧ x < 4096
    · rw [show decide (0 ≤ x ∧ x < 4096) = true by simpa using hx] at B2
      go_enter Tryz.func31, Tryz.ntmps31
      go_wp2_with (go_at_call 84; refine CF.out.mono ?_; rintro e w1 ⟨rfl, hw⟩; obtain rfl := hw.symm; clear hw)
      clear CF
      go_wp2_with (go_at_call 85; refine B2.out.mono ?_; rintro e w1 ⟨rfl, hw⟩; obtain rfl := hw.symm; clear hw)
      clear B2
      go_wp2
      go_ret
      exact ⟨0, _, rfl, Or.inr ⟨r, hr, Or.inr ⟨hx, rfl, rfl⟩⟩, HHT.out⟩
    · rw [show decide (0 ≤ x ∧ x < 4096) = false by simpa using hx] at B2
      go_enter Tryz.func31, Tryz.ntmps31
      go_wp2_with (go_at_call 84; refine CF.out.mono ?_; rintro e w1 ⟨rfl, hw⟩; obtain rfl := hw.symm; clear hw)
      clear CF
      go_wp2_with (go_at_call 85; refine B2.out.mono ?_; rintro e w1 ⟨rfl, hw⟩; obtain rfl := hw.symm; clear hw)
      clear B2
      go_wp2
      go_ret
      exact ⟨2, f, rfl, Or.inr ⟨r, hr, Or.inl ⟨hx, rfl, rfl⟩⟩, HK.out.tr⟩
end
end Go.Proofs.YtkbpnkjjmipjfaaGreat.Az
