/- What plan's slicingWrong gives back, and the closure that notes faults; no condition but those named. -/
import Derived.Test.YtdempgjhjcjklaaGreatVP9
namespace Go.Proofs.YtdempgjhjcjklaaGreat
open Go.ChangeShapes Go.WideShapes Go.ChangeAt Go.RowKit
set_option linter.unusedVariables false

theorem s0k_ways (c : Cf) : s0k c = false ∧ (c.sl < 1 ∨ (¬ c.sl < 1 ∧ 4194304 < c.sl) ∨ (¬ c.sl < 1 ∧ ¬ 4194304 < c.sl ∧ 4194304 < c.pd) ∨ (¬ c.sl < 1 ∧ ¬ 4194304 < c.sl ∧ ¬ 4194304 < c.pd ∧ ¬ c.ft < 1099511627776))
    ∨ s0k c = true ∧ ¬ c.sl < 1 ∧ ¬ 4194304 < c.sl ∧ ¬ 4194304 < c.pd ∧ c.ft < 1099511627776 := by
  simp only [s0k, inB]
  by_cases h1 : c.sl < 1
  · left
    exact ⟨by simp; omega, Or.inl h1⟩
  by_cases h2 : 4194304 < c.sl
  · left
    exact ⟨by simp; omega, Or.inr (Or.inl ⟨h1, h2⟩)⟩
  by_cases h3 : 4194304 < c.pd
  · left
    exact ⟨by simp; omega, Or.inr (Or.inr (Or.inl ⟨h1, h2, h3⟩))⟩
  by_cases h4 : c.ft < 1099511627776
  · right
    exact ⟨by simp; omega, h1, h2, h3, h4⟩
  · left
    exact ⟨by simp; omega, Or.inr (Or.inr (Or.inr ⟨h1, h2, h3, h4⟩))⟩
set_option maxRecDepth 20000 in
set_option maxHeartbeats 1000000 in
theorem slicingWrong_any {w : World} {a : Ad} {c : Cf} {e n : Nat} (hc : Cin w a c) (hn : n = min c.pn 8) (he : Blk w e 36 (pbL c n n)) :
    Calls Tryz.prog 136 #[.agg #[.int .i64 c.F, .int .i64 c.C, .int .i64 c.W, .int .i64 c.S, .int .i64 c.V, .int .i64 c.T, .int .u64 c.k.l1, .int .u64 c.k.llc, .int .u64 c.k.mi, .int .u64 c.k.fa, .int .u64 c.k.st, .int .u64 c.k.di, .int .u64 c.sl, .int .u64 c.pd, .int .u64 c.ft, .slice a.ta c.tn a.tc, .slice a.pa c.pn a.pc], .bool (mOk c && okC c.k), .slice (some ⟨e, 0, none⟩) n n] w (One (.int .i64 (un (sOk c) 113)) w) := by
  have HB0 := cb_new hc
  have he1 := he.below (below_new w (.cells #[.int .i64 c.F, .int .i64 c.C, .int .i64 c.W, .int .i64 c.S, .int .i64 c.V, .int .i64 c.T, .int .u64 c.k.l1, .int .u64 c.k.llc, .int .u64 c.k.mi, .int .u64 c.k.fa, .int .u64 c.k.st, .int .u64 c.k.di, .int .u64 c.sl, .int .u64 c.pd, .int .u64 c.ft, .slice a.ta c.tn a.tc, .slice a.pa c.pn a.pc] 28))
  have HC0 : Ce w (w.alloc (.cells #[.int .i64 c.F, .int .i64 c.C, .int .i64 c.W, .int .i64 c.S, .int .i64 c.V, .int .i64 c.T, .int .u64 c.k.l1, .int .u64 c.k.llc, .int .u64 c.k.mi, .int .u64 c.k.fa, .int .u64 c.k.st, .int .u64 c.k.di, .int .u64 c.sl, .int .u64 c.pd, .int .u64 c.ft, .slice a.ta c.tn a.tc, .slice a.pa c.pn a.pc] 28)) w.heap.size e a c (pbL c n n) := ⟨HB0.be, HB0.bx, HB0.ci, he1⟩
  have PS : Hid (∀ w', mOk c = true → okC c.k = true → Calls Tryz.prog 162 #[.agg #[.int .i64 c.F, .int .i64 c.C, .int .i64 c.W, .int .i64 c.S, .int .i64 c.V, .int .i64 c.T, .int .u64 c.k.l1, .int .u64 c.k.llc, .int .u64 c.k.mi, .int .u64 c.k.fa, .int .u64 c.k.st, .int .u64 c.k.di, .int .u64 c.sl, .int .u64 c.pd, .int .u64 c.ft, .slice a.ta c.tn a.tc, .slice a.pa c.pn a.pc]] w' (One (.bool (decide (pdM c ≤ c.pd))) w')) := fun w' h1 h2 => padSuffices_ok (mOk_iff.1 h1) h2
  have SS : Hid (∀ w', Ce w w' w.heap.size e a c (pbL c n n) → okC c.k = true → Calls Tryz.prog 163 #[.agg #[.int .i64 c.F, .int .i64 c.C, .int .i64 c.W, .int .i64 c.S, .int .i64 c.V, .int .i64 c.T, .int .u64 c.k.l1, .int .u64 c.k.llc, .int .u64 c.k.mi, .int .u64 c.k.fa, .int .u64 c.k.st, .int .u64 c.k.di, .int .u64 c.sl, .int .u64 c.pd, .int .u64 c.ft, .slice a.ta c.tn a.tc, .slice a.pa c.pn a.pc], .slice (some ⟨e, 0, none⟩) n n] w' (One (.bool (allS c n)) w')) := fun w' h h2 => sliceSuffices_ok h.ci h2 (by omega) (by omega) h.er
  have HSO : Hid (sOk c = (s0k c && (!(mOk c && okC c.k) || (decide (pdM c ≤ c.pd) && allS c c.pn)))) := rfl
  have HNP : Hid (mOk c = true → c.pn = n) := fun h => by have := (mOk_iff.1 h).p2; omega
  clear hc he HB0 he1 hn
  rcases s0k_ways c with ⟨h0, hw⟩ | ⟨h0, h1, h2, h3, h4⟩
  · have HR : Hid (sOk c = false) := by unfold Hid; rw [HSO.out, h0]; rfl
    clear h0 HSO PS SS HNP
    generalize (mOk c && okC c.k) = rk
    rcases hw with h | ⟨h1, h⟩ | ⟨h1, h2, h⟩ | ⟨h1, h2, h3, h⟩
    all_goals
      go_enter Tryz.func136, Tryz.ntmps136
      go_wp2_with (go_at_call 158; refine (unless_any _ _ _).mono ?_; rintro e w' ⟨rfl, rfl⟩)
      go_ret
      exact ⟨ret_int (by rw [HR.out]; rfl), HC0.be⟩
  rw [h0] at HSO
  clear h0
  cases hr : (mOk c && okC c.k)
  · have HR : Hid (sOk c = true) := by unfold Hid; rw [HSO.out, hr]; rfl
    clear hr HSO PS SS HNP
    go_enter Tryz.func136, Tryz.ntmps136
    go_wp2_with (go_at_call 158; refine (unless_any _ _ _).mono ?_; rintro e w' ⟨rfl, rfl⟩)
    go_ret
    exact ⟨ret_int (by rw [HR.out]; rfl), HC0.be⟩
  · rw [hr] at HSO
    obtain ⟨hm, hk⟩ : mOk c = true ∧ okC c.k = true := by simpa using hr
    have hpn := HNP.out hm
    have PS1 : Hid (∀ w', Calls Tryz.prog 162 #[.agg #[.int .i64 c.F, .int .i64 c.C, .int .i64 c.W, .int .i64 c.S, .int .i64 c.V, .int .i64 c.T, .int .u64 c.k.l1, .int .u64 c.k.llc, .int .u64 c.k.mi, .int .u64 c.k.fa, .int .u64 c.k.st, .int .u64 c.k.di, .int .u64 c.sl, .int .u64 c.pd, .int .u64 c.ft, .slice a.ta c.tn a.tc, .slice a.pa c.pn a.pc]] w' (One (.bool (decide (pdM c ≤ c.pd))) w')) := fun w' => PS.out w' hm hk
    have SS1 : Hid (∀ w', Ce w w' w.heap.size e a c (pbL c n n) → Calls Tryz.prog 163 #[.agg #[.int .i64 c.F, .int .i64 c.C, .int .i64 c.W, .int .i64 c.S, .int .i64 c.V, .int .i64 c.T, .int .u64 c.k.l1, .int .u64 c.k.llc, .int .u64 c.k.mi, .int .u64 c.k.fa, .int .u64 c.k.st, .int .u64 c.k.di, .int .u64 c.sl, .int .u64 c.pd, .int .u64 c.ft, .slice a.ta c.tn a.tc, .slice a.pa c.pn a.pc], .slice (some ⟨e, 0, none⟩) n n] w' (One (.bool (allS c n)) w')) := fun w' h => SS.out w' h hk
    have HR : Hid (sOk c = (decide (pdM c ≤ c.pd) && allS c n)) := by unfold Hid; rw [HSO.out, hpn]; rfl
    clear hr hm hk HSO PS SS HNP hpn
    generalize decide (pdM c ≤ c.pd) = b1 at *
    generalize allS c n = b2 at *
    go_enter Tryz.func136, Tryz.ntmps136
    go_wp2_with fail
    obtain ⟨W, hW, HB⟩ : ∃ W, (w.alloc (.cells #[.int .i64 c.F, .int .i64 c.C, .int .i64 c.W, .int .i64 c.S, .int .i64 c.V, .int .i64 c.T, .int .u64 c.k.l1, .int .u64 c.k.llc, .int .u64 c.k.mi, .int .u64 c.k.fa, .int .u64 c.k.st, .int .u64 c.k.di, .int .u64 c.sl, .int .u64 c.pd, .int .u64 c.ft, .slice a.ta c.tn a.tc, .slice a.pa c.pn a.pc] 28)) = W ∧ Hid (Ce w W w.heap.size e a c (pbL c n n)) := ⟨_, rfl, HC0⟩
    rw [hW]
    clear hW HC0
    refine (PS1.out _).mono ?_
    rintro e' w1 ⟨rfl, k1⟩
    have HB1 : Hid (Ce w w1 w.heap.size e a c (pbL c n n)) := HB.out.below k1
    clear k1 HB PS1
    cases b1
    · go_wp2_with (go_at_call 158; refine (unless_any _ _ _).mono ?_; rintro e w' ⟨rfl, rfl⟩)
      go_ret
      exact ⟨ret_int (by rw [HR.out]; rfl), HB1.out.be⟩
    · obtain ⟨_, c0, c1, c2, c3, c4, c5, c6, c7, c8, c9, c10, c11, c12, c13, c14, c15, c16⟩ := HB1.out.bx
      go_wp2_with fail
      refine (SS1.out _ HB1.out).mono ?_
      rintro e' w2 ⟨rfl, k2⟩
      have FIN : Hid (Below w.heap.size w w2) := HB1.out.be.trans (k2.mono HB1.out.be.size)
      clear k2 HB1 SS1 c0 c1 c2 c3 c4 c5 c6 c7 c8 c9 c10 c11 c12 c13 c14 c15 c16
      go_wp2_with (go_at_call 158; refine (unless_any _ _ _).mono ?_; rintro e w' ⟨rfl, rfl⟩)
      go_ret
      exact ⟨ret_int (by rw [HR.out]; rfl), FIN.out⟩
/-! ### A row of faults -/
theorem Tryz.infoF : (Tryz.prog.info? 187).map (fun i => (i.zero, i.size, i.bytes)) = some (some (.agg #[.int .i64 0, .int .i64 0]), 2, 16) := by kernel_rfl
/-- Faults as cells. -/
def enF : List (Int × Int) → List Value
  | [] => []
  | x :: l => .int .i64 x.1 :: .int .i64 x.2 :: enF l
theorem enF_len (L : List (Int × Int)) : (enF L).length = L.length * 2 := by
  induction L with
  | nil => rfl
  | cons x l ih => simp only [enF, List.length_cons, ih]; omega
theorem enF_append (L M : List (Int × Int)) : enF (L ++ M) = enF L ++ enF M := by
  induction L with
  | nil => rfl
  | cons x l ih => simp only [List.cons_append, enF, ih]
/-- A list of faults of the call's own. -/
def Fs (w : World) (base : Nat) (v : Value) (L : List (Int × Int)) : Prop := w.ownsRow base 187 2 v L.length (enF L)
theorem Fs.nil (w : World) (base : Nat) : Fs w base (.slice none 0 0) [] := World.ownsRow_nil _ _ _ _
theorem cell_two_new (w : World) (u v : Value) (t : TypeId) : ∀ j x, [u, v][j]? = some x → (w.alloc (.cells #[u, v] t)).cell? ((⟨w.heap.size, 0, none⟩ : Addr).add j) = some x := by
  intro j x hx
  rw [Go.WideShapes.add_plain, cell_of_row _ _ (0 + j) _ t (0, 0) (heap_alloc_last w _), Nat.zero_add]
  simpa using hx
/-- What the closure leaves: one fault more, if there is one; nothing else turned but the row and its box. -/
structure Nt (w w' : World) (base g : Nat) (L : List (Int × Int)) : Prop where
  ex : ∃ v, w'.cell? ⟨g, 0, none⟩ = some v ∧ w'.frozen? ⟨g, 0, none⟩ = false ∧ Fs w' base v L ∧ (∀ t, v.ownBlock = some t → base ≤ t ∧ t ≠ g)
  be : Below g w w'
end Go.Proofs.YtdempgjhjcjklaaGreat
