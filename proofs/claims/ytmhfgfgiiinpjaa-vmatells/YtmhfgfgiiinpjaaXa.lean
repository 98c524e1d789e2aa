/- The document's perm, Within, pages, part, count over regions; no condition but the ranges that each theorem names. -/
import Derived.Test.YtmhfgfgiiinpjaaWk
namespace Go.Proofs.Ytmhfgfgiiinpjaa.V
open Go.ChangeShapes Go.WideShapes Go.ChangeAt Go.RowKit
set_option linter.unusedVariables false
set_option maxRecDepth 8192

theorem perm_r (m : Int) (w : World) : Calls Try.prog 37 #[.int .u8 m] w fun e w' => e = .returned (.bool (decide (prm m))) ∧ w' = w := by
  go_enter Try.func37, Try.ntmps37
  go_wp2
  all_goals (go_ret; exact ⟨ret_bool (dec_iff (by unfold prm; simp; try omega)), rfl⟩)
theorem within_r (x a b : Int) (w : World) : Calls Try.prog 49 #[.int .i64 x, .int .i64 a, .int .i64 b] w fun e w' => e = .returned (.bool (decide (a ≤ x ∧ x ≤ b))) ∧ w' = w := by
  go_enter Try.func49, Try.ntmps49
  go_wp2
  all_goals go_ret
  all_goals first | exact ⟨ret_bool (by rw [Bool.eq_iff_iff]; simp; omega), rfl⟩ | exact ⟨ret_bool (by rw [Bool.eq_iff_iff]; simp), rfl⟩ | exact ⟨ret_bool (by rw [decide_eq_decide]; omega), rfl⟩ | exact ⟨ret_bool (decide_eq_false (by omega)).symm, rfl⟩ | exact ⟨ret_bool (decide_eq_true (by omega)).symm, rfl⟩
theorem pages_r (p n : Int) (hp : -9223372036854775808 ≤ p ∧ p < 9223372036854775808) (w : World) : Calls Try.prog 36 #[.int .i64 p, .int .i64 n] w fun e w' => e = .returned (.bool (decide (pgs p n))) ∧ w' = w := by
  have HW : Hid (∀ (x a b : Int) (w : World), Calls Try.prog 49 #[.int .i64 x, .int .i64 a, .int .i64 b] w fun e w' => e = .returned (.bool (decide (a ≤ x ∧ x ≤ b))) ∧ w' = w) := within_r
  by_cases h : 1 ≤ p ∧ p ≤ 1048575
  · have hd : decide (1 ≤ p ∧ p ≤ 1048575) = true := decide_eq_true h
    obtain ⟨h1, h2⟩ := h
    go_enter Try.func36, Try.ntmps36
    go_wp2_with fail
    refine (HW.out _ _ _ _).mono ?_
    rintro e w' ⟨rfl, rfl⟩
    rw [hd]
    go_wp2_with fail
    refine (HW.out _ _ _ _).mono ?_
    rintro e w'' ⟨rfl, rfl⟩
    go_wp2
    go_ret
    exact ⟨ret_bool (dec_iff (by unfold pgs; simp; omega)), rfl⟩
  · have hd : decide (1 ≤ p ∧ p ≤ 1048575) = false := decide_eq_false h
    have HF : Hid (decide (pgs p n) = false) := decide_eq_false (fun q => h ⟨q.1, q.2.1⟩)
    clear h
    go_enter Try.func36, Try.ntmps36
    go_wp2_with fail
    refine (HW.out _ _ _ _).mono ?_
    rintro e w' ⟨rfl, rfl⟩
    rw [hd]
    go_wp2
    go_ret
    exact ⟨ret_bool HF.out.symm, rfl⟩
set_option maxHeartbeats 1000000 in
theorem count_r {w : World} {ao : Option Addr} {cap : Nat} {l : List Rg} (h : Rn w ao l) (hs : Rs l) : Calls Try.prog 46 #[.slice ao l.length cap] w fun e w' => e = .returned (.int .i64 (tot l)) ∧ w' = w := by
  have hl := len_tot hs
  have hl2 := (tot_max hs).2
  have HS : Hid (Rs l) := hs
  have HR : Hid (Rn w ao l) := h
  clear h hs
  go_enter Try.func46, Try.ntmps46
  go_wp2_with fail
  go_loopw [3, 4] (fun n i wr => ∃ k : Nat, k ≤ l.length ∧ i = .int .i64 k ∧ n = .int .i64 (tot (l.take k)) ∧ wr = w) (fun _ i _ => l.length - (iv i).toNat)
  case atStart => exact ⟨0, by omega, rfl, rfl, rfl⟩
  case round =>
    obtain ⟨k, hk, rfl, rfl, rfl⟩ := hrel
    by_cases hlt : k < l.length
    case' pos =>
      obtain ⟨b, off, rfl, hbl, c0, c1, c2⟩ := HR.out.at' hlt
      have HT : Hid (tot (l.take (k + 1)) = tot (l.take k) + l[k].n) := tot_succ hlt
      have t1 := tot_take HS.out k
      have t2 := tot_take HS.out (k + 1)
      rw [HT.out] at t2
      generalize l[k] = r at *
      generalize tot (l.take k) = t at *
      obtain ⟨t2a, t2b⟩ := t2
      clear t1
      have ix1 : (0 : Int) ≤ (k : Int) := Int.natCast_nonneg k
      have ix2 : (k : Int) < (l.length : Int) := Int.ofNat_lt.2 hlt
      go_wp2
      go_roundw
      case rel => exact ⟨k + 1, by omega, by go_num, by rw [HT.out], trivial⟩
      case measure => simp [iv]; omega
    case' neg =>
      obtain rfl : k = l.length := by omega
      go_wp2
      go_ret
      exact ⟨by simp, rfl⟩
/-- What of a region lies from a page up to one, as the call tells it. -/
def ptV (f t : Int) (r : Rg) : Rg × Bool := match part f t r with
  | none => (z3, false)
  | some q => (q, true)
theorem fin2 (w : World) (A : Array Value) (ty : TypeId) (r : Rg) : (loadVar 29 ⟨w.heap.size + 1, 0, none⟩).run Try.prog ((w.alloc (.cells A ty)).alloc (.cells #[.int .i64 r.p, .int .i64 r.n, .int .u8 r.m] 29)) = .ok (rv r) ((w.alloc (.cells A ty)).alloc (.cells #[.int .i64 r.p, .int .i64 r.n, .int .u8 r.m] 29)) := by
  have := heap_alloc_last (w.alloc (.cells A ty)) (.cells #[.int .i64 r.p, .int .i64 r.n, .int .u8 r.m] 29)
  rw [World.size_alloc] at this
  exact run_loadVar_row _ (w.heap.size + 1) 29 29 _ (0, 0) _ this Try.underlying29 rfl Try.sizeRg
theorem results_rb {fn : Func} {p u : Tmp} {ty : TypeId} (h : fn.results = #[.cell p ty, .tmp u]) (tmps : Array Value) (w : World) (ad : Addr) (v v' : Value) (hp : tmps.getD p undef = .pointer (some ad)) (hu : tmps.getD u undef = v') (hl : (loadVar ty ad).run Try.prog w = .ok v w) :
    (results fn tmps).run Try.prog w = .ok (.tuple #[v, v']) w := by
  rw [results_cell_tmp h, hp, hu]
  simp [asAddr, hl, Result.andThen]
set_option maxHeartbeats 1000000 in
theorem part_r (r : Rg) (f t : Int) (hr : r.Ok) (hf : -9223372036854775808 ≤ f ∧ f ≤ 2097152) (ht : -2097152 ≤ t ∧ t < 9223372036854775808) (w : World) : Calls Try.prog 52 #[.agg #[.int .i64 r.p, .int .i64 r.n, .int .u8 r.m], .int .i64 f, .int .i64 t] w fun e w' => e = .returned (.tuple #[rv (ptV f t r).1, .bool (ptV f t r).2]) ∧ Below w.heap.size w w' := by
  have hl := hr.lt
  have HV : Hid (ptV f t r = if max r.p f ≥ min (r.p + r.n) t then (z3, false) else (⟨max r.p f, min (r.p + r.n) t - max r.p f, r.m⟩, true)) := by
    have e : part f t r = if max r.p f ≥ min (r.p + r.n) t then none else some ⟨max r.p f, min (r.p + r.n) t - max r.p f, r.m⟩ := rfl
    unfold ptV
    rw [e]
    by_cases c : max r.p f ≥ min (r.p + r.n) t
    · rw [if_pos c, if_pos c]; rfl
    · rw [if_neg c, if_neg c]; rfl
  have hpg := hr.pg
  unfold pgs at hpg
  obtain ⟨p, n, m⟩ := r
  simp only at HV hpg ⊢
  generalize ptV f t ⟨p, n, m⟩ = z at *
  obtain ⟨hp1, hp2, hp3, hp4⟩ := hpg
  obtain ⟨f1, f2⟩ := hf
  obtain ⟨t1, t2⟩ := ht
  clear hr hl
  have fin : ∀ (r : Rg) (b : Bool), z = (r, b) → Ending.returned (.tuple #[rv r, .bool b]) = .returned (.tuple #[rv z.1, .bool z.2]) := fun r b e => by rw [e]
  have HFin : Hid (∀ (r : Rg) (b : Bool), z = (r, b) → Ending.returned (.tuple #[rv r, .bool b]) = .returned (.tuple #[rv z.1, .bool z.2])) := fin
  clear fin
  rcases (by omega : (max p f = p ∧ f ≤ p) ∨ (max p f = f ∧ p < f)) with ⟨e1, g1⟩ | ⟨e1, g1⟩
  all_goals rcases (by omega : (min (p + n) t = p + n ∧ p + n ≤ t) ∨ (min (p + n) t = t ∧ t < p + n)) with ⟨e2, g2⟩ | ⟨e2, g2⟩
  all_goals
    rw [e1, e2] at HV
    clear e1 e2
  · by_cases hc : p ≥ p + n
    · omega
    · have HQ : Hid (z = (⟨p, p + n - p, m⟩, true)) := HV.out.trans (if_neg hc)
      go_enter Try.func52, Try.ntmps52
      go_wp2
      exact bodyPost_ret (results_rb Try.results52 _ _ _ _ _ rfl rfl (fin2 w _ _ ⟨p, p + n - p, m⟩)) rfl ⟨HFin.out _ _ HQ.out, below2 w _ _⟩
  · by_cases hc : p ≥ t
    · have HQ : Hid (z = (z3, false)) := HV.out.trans (if_pos hc)
      go_enter Try.func52, Try.ntmps52
      go_wp2
      exact bodyPost_ret (results_rb Try.results52 _ _ _ _ _ rfl rfl (fin2 w _ _ z3)) rfl ⟨HFin.out _ _ HQ.out, below2 w _ _⟩
    · have HQ : Hid (z = (⟨p, t - p, m⟩, true)) := HV.out.trans (if_neg hc)
      have hd : decide (t ≤ p) = false := decide_eq_false hc
      go_enter Try.func52, Try.ntmps52
      go_wp2
      exact bodyPost_ret (results_rb Try.results52 _ _ _ _ _ rfl rfl (fin2 w _ _ ⟨p, t - p, m⟩)) rfl ⟨HFin.out _ _ HQ.out, below2 w _ _⟩
  · by_cases hc : f ≥ p + n
    · have HQ : Hid (z = (z3, false)) := HV.out.trans (if_pos hc)
      go_enter Try.func52, Try.ntmps52
      go_wp2
      exact bodyPost_ret (results_rb Try.results52 _ _ _ _ _ rfl rfl (fin2 w _ _ z3)) rfl ⟨HFin.out _ _ HQ.out, below2 w _ _⟩
    · have HQ : Hid (z = (⟨f, p + n - f, m⟩, true)) := HV.out.trans (if_neg hc)
      have hd : decide (p + n ≤ f) = false := decide_eq_false hc
      go_enter Try.func52, Try.ntmps52
      go_wp2
      exact bodyPost_ret (results_rb Try.results52 _ _ _ _ _ rfl rfl (fin2 w _ _ ⟨f, p + n - f, m⟩)) rfl ⟨HFin.out _ _ HQ.out, below2 w _ _⟩
  · by_cases hc : f ≥ t
    · have HQ : Hid (z = (z3, false)) := HV.out.trans (if_pos hc)
      go_enter Try.func52, Try.ntmps52
      go_wp2
      exact bodyPost_ret (results_rb Try.results52 _ _ _ _ _ rfl rfl (fin2 w _ _ z3)) rfl ⟨HFin.out _ _ HQ.out, below2 w _ _⟩
    · have HQ : Hid (z = (⟨f, t - f, m⟩, true)) := HV.out.trans (if_neg hc)
      have hd : decide (t ≤ f) = false := decide_eq_false hc
      go_enter Try.func52, Try.ntmps52
      go_wp2
      exact bodyPost_ret (results_rb Try.results52 _ _ _ _ _ rfl rfl (fin2 w _ _ ⟨f, t - f, m⟩)) rfl ⟨HFin.out _ _ HQ.out, below2 w _ _⟩
end Go.Proofs.Ytmhfgfgiiinpjaa.V
