/- What Allows gives back, and what the reference's functions give back, each for every entry and word; how two entries are held against one another. -/
import Derived.Test.YtinegjobjpmkcaaFn
import Derived.Deep.AppendLies
import Derived.Deep.WholeRow
namespace Go.Proofs.Ytinegjobjpmkcaa
open Go.ChangeShapes Go.WideShapes Go.ChangeAt Go.RowKit
set_option linter.unusedVariables false

/-- The seven cells of an entry. -/
structure Sev (w : World) (g : Nat) (p s r u a d : Bool) (t : Int) : Prop where
  lt : g < w.heap.size
  c0 : w.cell? ⟨g, 0, none⟩ = some (.bool p)
  c1 : w.cell? ⟨g, 1, none⟩ = some (.bool s)
  c2 : w.cell? ⟨g, 2, none⟩ = some (.bool r)
  c3 : w.cell? ⟨g, 3, none⟩ = some (.bool u)
  c4 : w.cell? ⟨g, 4, none⟩ = some (.bool a)
  c5 : w.cell? ⟨g, 5, none⟩ = some (.bool d)
  c6 : w.cell? ⟨g, 6, none⟩ = some (.int .i64 t)
theorem cell_new (w : World) (L : List Value) (ty : TypeId) (i : Nat) : (w.alloc (.cells L.toArray ty)).cell? ⟨w.heap.size, i, none⟩ = L[i]? := by
  rw [cell_of_row (w.alloc (.cells L.toArray ty)) w.heap.size i _ ty (0, 0) (heap_alloc_last w _)]; simp
theorem sev_new (w : World) (p s r u a d : Bool) (t : Int) : Sev (w.alloc (.cells #[.bool p, .bool s, .bool r, .bool u, .bool a, .bool d, .int .i64 t] 23)) w.heap.size p s r u a d t :=
  ⟨by simp, cell_new w _ 23 0, cell_new w _ 23 1, cell_new w _ 23 2, cell_new w _ 23 3, cell_new w _ 23 4, cell_new w _ 23 5, cell_new w _ 23 6⟩
theorem Sev.below {w w' : World} {g : Nat} {p s r u a d : Bool} {t : Int} (h : Sev w g p s r u a d t) (k : Below w.heap.size w w') : Sev w' g p s r u a d t :=
  ⟨Nat.lt_of_lt_of_le h.lt k.size, (k.cell h.lt).trans h.c0, (k.cell h.lt).trans h.c1, (k.cell h.lt).trans h.c2, (k.cell h.lt).trans h.c3, (k.cell h.lt).trans h.c4, (k.cell h.lt).trans h.c5, (k.cell h.lt).trans h.c6⟩
/-- Two entries held against one another. -/
def eqE (p s r u a d : Bool) (t : Int) (p' s' r' u' a' d' : Bool) (t' : Int) : Bool := p == p' && (s == s' && (r == r' && (u == u' && (a == a' && (d == d' && t == t')))))
theorem eqE_self (p s r u a d : Bool) (t : Int) : eqE p s r u a d t p s r u a d t = true := by simp [eqE]
theorem eqE_eq {p s r u a d : Bool} {t : Int} {p' s' r' u' a' d' : Bool} {t' : Int} (h : eqE p s r u a d t p' s' r' u' a' d' t' = true) : p = p' ∧ s = s' ∧ r = r' ∧ u = u' ∧ a = a' ∧ d = d' ∧ t = t' := by
  simpa [eqE] using h
theorem eq_run (p s r u a d : Bool) (t : Int) (p' s' r' u' a' d' : Bool) (t' : Int) (W : World) : (binOp .eql 23 (.agg #[.bool p, .bool s, .bool r, .bool u, .bool a, .bool d, .int .i64 t]) (.agg #[.bool p', .bool s', .bool r', .bool u', .bool a', .bool d', .int .i64 t'])).run Try.prog W = .ok (.bool (eqE p s r u a d t p' s' r' u' a' d' t')) W := by
  simp only [run_eql_struct]
  rw [run_equalIn_agg W 9999 23 _ _ (by kernel_rfl) Try.stoodInHeld23]
  simp [go_sem, Program.fieldsOf, Try.underlying23]
  unfold eqE
  by_cases h1 : p = p'
  · by_cases h2 : s = s'
    · by_cases h3 : r = r'
      · by_cases h4 : u = u'
        · by_cases h5 : a = a'
          · by_cases h6 : d = d'
            · by_cases h7 : t = t'
              · simp [h1, h2, h3, h4, h5, h6, h7]
              · simp [h1, h2, h3, h4, h5, h6, h7]
            · simp [h1, h2, h3, h4, h5, h6]
          · simp [h1, h2, h3, h4, h5]
        · simp [h1, h2, h3, h4]
      · simp [h1, h2, h3]
    · simp [h1, h2]
  · simp [h1]
theorem ne_run (p s r u a d : Bool) (t : Int) (p' s' r' u' a' d' : Bool) (t' : Int) (W : World) : (binOp .neq 23 (.agg #[.bool p, .bool s, .bool r, .bool u, .bool a, .bool d, .int .i64 t]) (.agg #[.bool p', .bool s', .bool r', .bool u', .bool a', .bool d', .int .i64 t'])).run Try.prog W = .ok (.bool (!eqE p s r u a d t p' s' r' u' a' d' t')) W := by
  have h := eq_run p s r u a d t p' s' r' u' a' d' t' W
  simp only [run_eql_struct] at h
  simp only [run_neq_struct]
  cases hr : (Op.equalIn 10000 23 (.agg #[.bool p, .bool s, .bool r, .bool u, .bool a, .bool d, .int .i64 t]) (.agg #[.bool p', .bool s', .bool r', .bool u', .bool a', .bool d', .int .i64 t'])).run Try.prog W with
  | ok b w2 =>
    rw [hr] at h
    simp [Result.andThen] at h ⊢
    exact ⟨by rw [h.1], h.2⟩
  | halt x w2 =>
    rw [hr] at h
    simp [Result.andThen] at h
/-- What an access by an entry that may be answers. -/
def al (p s r u q : Bool) : Int := if s then 2 else if !p then 1 else if !(if q then u else r) then 3 else 0
theorem Allows_no (p s r u a d : Bool) (t : Int) (q : Bool) (hm : may p s r u a d t = false) (w : World) : Calls Try.prog 11 #[.agg #[.bool p, .bool s, .bool r, .bool u, .bool a, .bool d, .int .i64 t], .bool q] w fun e w' => e = .returned (.tuple #[.int .u8 0, .int .i64 70]) ∧ Below w.heap.size w w' := by
  have hb := below_new w (.cells #[.bool p, .bool s, .bool r, .bool u, .bool a, .bool d, .int .i64 t] 23)
  have C := Check_any p s r u a d t (w.alloc (.cells #[.bool p, .bool s, .bool r, .bool u, .bool a, .bool d, .int .i64 t] 23))
  rw [hm] at C
  go_enter Try.func11, Try.ntmps11
  go_wp2_with fail
  refine C.mono ?_
  rintro e w1 ⟨rfl, k⟩
  clear C
  rw [show er false = 70 from rfl]
  go_wp2
  go_ret2
  exact ⟨rfl, hb.trans (k.mono (by simp))⟩
theorem Allows_ok (p s r u a d : Bool) (t : Int) (q : Bool) (hm : may p s r u a d t = true) (w : World) : Calls Try.prog 11 #[.agg #[.bool p, .bool s, .bool r, .bool u, .bool a, .bool d, .int .i64 t], .bool q] w fun e w' => e = .returned (.tuple #[.int .u8 (al p s r u q), .int .i64 0]) ∧ Below w.heap.size w w' := by
  have hb := below_new w (.cells #[.bool p, .bool s, .bool r, .bool u, .bool a, .bool d, .int .i64 t] 23)
  have S := sev_new w p s r u a d t
  have C := Check_any p s r u a d t (w.alloc (.cells #[.bool p, .bool s, .bool r, .bool u, .bool a, .bool d, .int .i64 t] 23))
  rw [hm] at C
  clear hm
  go_enter Try.func11, Try.ntmps11
  go_wp2_with fail
  refine C.mono ?_
  rintro e w1 ⟨rfl, k⟩
  have FIN : Hid (Below w.heap.size w w1) := hb.trans (k.mono (by simp))
  obtain ⟨_, c0, c1, c2, c3, _, _, _⟩ := S.below k
  clear C k hb S
  rw [show er true = 0 from rfl]
  cases q <;> cases p <;> cases s <;> cases r <;> cases u
  all_goals (go_wp2; go_ret2; exact ⟨rfl, FIN.out⟩)
theorem bit_any (b : Bool) (k : Nat) (hk : k < 6) (w : World) : Calls Try.prog 18 #[.bool b, .int .u64 (k : Int)] w fun e w' => e = .returned (.int .u64 (bi b ((2 ^ k : Nat) : Int))) ∧ w' = w := by
  have : k = 0 ∨ k = 1 ∨ k = 2 ∨ k = 3 ∨ k = 4 ∨ k = 5 := by omega
  cases b
  · go_enter Try.func18, Try.ntmps18
    go_wp2
    go_ret
    exact ⟨rfl, rfl⟩
  · rcases this with rfl | rfl | rfl | rfl | rfl | rfl
    all_goals (go_enter Try.func18, Try.ntmps18; go_wp2; go_ret; exact ⟨rfl, rfl⟩)
/-- Whether an entry is the empty one. -/
def ez (p s r u a d : Bool) (t : Int) : Bool := eqE p s r u a d t false false false false false false 0
theorem rCheck_zero (p s r u a d : Bool) (t : Int) (h : ez p s r u a d t = true) (w : World) : Calls Try.prog 10 #[.agg #[.bool p, .bool s, .bool r, .bool u, .bool a, .bool d, .int .i64 t]] w fun e w' => e = .returned (.int .i64 0) ∧ Below w.heap.size w w' := by
  have hb := below_new w (.cells #[.bool p, .bool s, .bool r, .bool u, .bool a, .bool d, .int .i64 t] 23)
  have hq := eq_run p s r u a d t false false false false false false 0
  rw [show eqE p s r u a d t false false false false false false 0 = true from h] at hq
  clear h
  go_enter Try.func10, Try.ntmps10
  go_wp2
  go_ret
  exact ⟨rfl, hb⟩
theorem ret_0 {b : Bool} (h : b = true) : Ending.returned (.int .i64 0) = .returned (.int .i64 (er b)) := by rw [h]; rfl
theorem ret_70 {b : Bool} (h : b = false) : Ending.returned (.int .i64 70) = .returned (.int .i64 (er b)) := by rw [h]; rfl
theorem rCheck_some (p s r u a d : Bool) (t : Int) (h : ez p s r u a d t = false) (w : World) : Calls Try.prog 10 #[.agg #[.bool p, .bool s, .bool r, .bool u, .bool a, .bool d, .int .i64 t]] w fun e w' => e = .returned (.int .i64 (er ((p != s) && decide (0 ≤ t) && (if s then decide (t ≤ 1023) else decide (t ≤ 4095)) && !(u && !r) && !(s && (a || d))))) ∧ Below w.heap.size w w' := by
  have hq := eq_run p s r u a d t false false false false false false 0
  rw [show eqE p s r u a d t false false false false false false 0 = false from h] at hq
  clear h
  go_enter Try.func10, Try.ntmps10
  go_wp2
  all_goals (go_ret; refine ⟨?_, below_new _ _⟩; clear hq)
  all_goals (first | (refine ret_0 ?_; simp [*]; done) | (refine ret_70 ?_; simp [*]; done) | (refine ret_70 ?_; simp [*]; intros; omega) | (refine ret_70 ?_; cases s <;> cases d <;> simp_all <;> (intros; omega)))
theorem may_zero {p s r u a d : Bool} {t : Int} (h : ez p s r u a d t = true) : may p s r u a d t = true := by
  obtain ⟨rfl, rfl, rfl, rfl, rfl, rfl, rfl⟩ := eqE_eq h
  rfl
theorem may_some {p s r u a d : Bool} {t : Int} (h : ez p s r u a d t = false) : may p s r u a d t = ((p != s) && decide (0 ≤ t) && (if s then decide (t ≤ 1023) else decide (t ≤ 4095)) && !(u && !r) && !(s && (a || d))) := by
  unfold may mb
  have e : (!p && !s && !r && !u && !a && !d && (t == 0)) = false := by
    unfold ez eqE at h
    revert h
    generalize (t == 0) = z
    revert p s r u a d z
    decide
  rw [e, Bool.false_or]
theorem rCheck_any (p s r u a d : Bool) (t : Int) (w : World) : Calls Try.prog 10 #[.agg #[.bool p, .bool s, .bool r, .bool u, .bool a, .bool d, .int .i64 t]] w fun e w' => e = .returned (.int .i64 (er (may p s r u a d t))) ∧ Below w.heap.size w w' := by
  cases h : ez p s r u a d t
  · rw [may_some h]
    exact rCheck_some p s r u a d t h w
  · rw [may_zero h]
    exact rCheck_zero p s r u a d t h w
theorem bi_range (b : Bool) (k : Int) (h : 0 ≤ k) : 0 ≤ bi b k ∧ bi b k ≤ k := by
  cases b
  · exact ⟨Int.le_refl _, h⟩
  · exact ⟨h, Int.le_refl _⟩
end Go.Proofs.Ytinegjobjpmkcaa
