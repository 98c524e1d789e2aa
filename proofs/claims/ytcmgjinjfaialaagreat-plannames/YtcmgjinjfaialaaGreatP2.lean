/- What plan's functions of the sizes, of a partition's numbers and of its shape give back; no condition but the ranges named. -/
import Derived.Test.YtcmgjinjfaialaaGreatP1
namespace Go.Proofs.YtcmgjinjfaialaaGreat
open Go.ChangeShapes Go.WideShapes Go.ChangeAt Go.RowKit
set_option linter.unusedVariables false

theorem ways8 : ∀ a b c d e f g h : Bool, ((a && (b && (c && (d && (e && (f && (g && h))))))) = false ∧ (a = false ∨ (a = true ∧ b = false) ∨ (a = true ∧ b = true ∧ c = false) ∨ (a = true ∧ b = true ∧ c = true ∧ d = false)
    ∨ (a = true ∧ b = true ∧ c = true ∧ d = true ∧ e = false) ∨ (a = true ∧ b = true ∧ c = true ∧ d = true ∧ e = true ∧ f = false) ∨ (a = true ∧ b = true ∧ c = true ∧ d = true ∧ e = true ∧ f = true ∧ g = false)
    ∨ (a = true ∧ b = true ∧ c = true ∧ d = true ∧ e = true ∧ f = true ∧ g = true ∧ h = false)))
    ∨ ((a && (b && (c && (d && (e && (f && (g && h))))))) = true ∧ a = true ∧ b = true ∧ c = true ∧ d = true ∧ e = true ∧ f = true ∧ g = true ∧ h = true) := by
  intro a b c d e f g h
  cases a <;> cases b <;> cases c <;> cases d <;> cases e <;> cases f <;> cases g <;> cases h <;> simp
def un (b : Bool) (e : Int) : Int := bif b then 0 else e
theorem tm_em {F C : Int} (h1 : 1 ≤ F) : F.tmod C = F % C := Int.tmod_eq_emod_of_nonneg (by omega)
theorem machineWrong_any {w : World} {a : Ad} {c : Cf} : Calls Tryz.prog 12 #[.agg #[.int .i64 c.F, .int .i64 c.C, .int .i64 c.W, .int .i64 c.S, .int .i64 c.V, .int .i64 c.T, .int .u64 c.k.l1, .int .u64 c.k.llc, .int .u64 c.k.mi, .int .u64 c.k.fa, .int .u64 c.k.st, .int .u64 c.k.di, .int .u64 c.sl, .int .u64 c.pd, .int .u64 c.ft, .slice a.ta c.tn a.tc, .slice a.pa c.pn a.pc]] w (One (.int .i64 (un (mOk c) 114)) w) := by
  have hb := below_new w (.cells #[.int .i64 c.F, .int .i64 c.C, .int .i64 c.W, .int .i64 c.S, .int .i64 c.V, .int .i64 c.T, .int .u64 c.k.l1, .int .u64 c.k.llc, .int .u64 c.k.mi, .int .u64 c.k.fa, .int .u64 c.k.st, .int .u64 c.k.di, .int .u64 c.sl, .int .u64 c.pd, .int .u64 c.ft, .slice a.ta c.tn a.tc, .slice a.pa c.pn a.pc] 28)
  rcases ways8 (pwH c.C 16) (inB c.F 1 4096) (decide (c.F % c.C = 0)) (pwH c.S 4096) (inB c.W 1 16) (inB c.V 1 16) (inB c.T 1 64) (inB c.pn 1 8) with ⟨h0, h | ⟨h1, h⟩ | ⟨h1, h2, h⟩ | ⟨h1, h2, h3, h⟩ | ⟨h1, h2, h3, h4, h⟩ | ⟨h1, h2, h3, h4, h5, h⟩ | ⟨h1, h2, h3, h4, h5, h6, h⟩ | ⟨h1, h2, h3, h4, h5, h6, h7, h⟩⟩ | ⟨h0, h1, h2, h3, h4, h5, h6, h7, h⟩
  all_goals
    have h0 : mOk c = _ := h0
    rw [h0]
    clear h0
  · go_enter Tryz.func12, Tryz.ntmps12
    go_wp2_with (first | (go_at_call 35; refine (powerOfTwo_any _ _ (by decide) _).mono ?_; rintro e w' ⟨rfl, rfl⟩) | (go_at_call 36; refine (from_any _ _ _ _).mono ?_; rintro e w' ⟨rfl, rfl⟩) | (go_at_call 37; refine (unless_any _ _ _).mono ?_; rintro e w' ⟨rfl, rfl⟩))
    go_ret
    exact ⟨rfl, hb⟩
  · go_enter Tryz.func12, Tryz.ntmps12
    go_wp2_with (first | (go_at_call 35; refine (powerOfTwo_any _ _ (by decide) _).mono ?_; rintro e w' ⟨rfl, rfl⟩) | (go_at_call 36; refine (from_any _ _ _ _).mono ?_; rintro e w' ⟨rfl, rfl⟩) | (go_at_call 37; refine (unless_any _ _ _).mono ?_; rintro e w' ⟨rfl, rfl⟩))
    go_ret
    exact ⟨rfl, hb⟩
  all_goals
    have hC : ¬ c.C = 0 := by
      unfold pwH at h1
      simp only [Bool.and_eq_true, decide_eq_true_eq, pow2_iff] at h1
      omega
    have hm : c.F.tmod c.C = c.F % c.C := tm_em (inB_iff.1 h2).1
    first
      | have hr := of_decide_eq_true h3
      | have hr := of_decide_eq_false h
    generalize c.F % c.C = r at *
    go_enter Tryz.func12, Tryz.ntmps12
    go_wp2_with (first | (go_at_call 35; refine (powerOfTwo_any _ _ (by decide) _).mono ?_; rintro e w' ⟨rfl, rfl⟩) | (go_at_call 36; refine (from_any _ _ _ _).mono ?_; rintro e w' ⟨rfl, rfl⟩) | (go_at_call 37; refine (unless_any _ _ _).mono ?_; rintro e w' ⟨rfl, rfl⟩))
    go_ret
    exact ⟨rfl, hb⟩
theorem isPart_any {w : World} {a : Ad} {c : Cf} (p : Int) : Calls Tryz.prog 43 #[.agg #[.int .i64 c.F, .int .i64 c.C, .int .i64 c.W, .int .i64 c.S, .int .i64 c.V, .int .i64 c.T, .int .u64 c.k.l1, .int .u64 c.k.llc, .int .u64 c.k.mi, .int .u64 c.k.fa, .int .u64 c.k.st, .int .u64 c.k.di, .int .u64 c.sl, .int .u64 c.pd, .int .u64 c.ft, .slice a.ta c.tn a.tc, .slice a.pa c.pn a.pc], .int .i64 p] w (One (.bool (decide (0 ≤ p) && decide (p < (c.pn : Int)))) w) := by
  have hb := below_new w (.cells #[.int .i64 c.F, .int .i64 c.C, .int .i64 c.W, .int .i64 c.S, .int .i64 c.V, .int .i64 c.T, .int .u64 c.k.l1, .int .u64 c.k.llc, .int .u64 c.k.mi, .int .u64 c.k.fa, .int .u64 c.k.st, .int .u64 c.k.di, .int .u64 c.sl, .int .u64 c.pd, .int .u64 c.ft, .slice a.ta c.tn a.tc, .slice a.pa c.pn a.pc] 28)
  go_enter Tryz.func43, Tryz.ntmps43
  go_wp2
  all_goals (go_ret; exact ⟨ret_bool (by clear hb; rw [Bool.eq_iff_iff]; simp; omega), hb⟩)
theorem slotsMayBe_any {w : World} {q : Option Addr} {m : Nat} {x : Pa} : Calls Tryz.prog 40 #[.agg #[.slice q x.n m, .int .i64 x.o, .int .i64 x.u, .int .i64 x.t, .int .i64 x.s, .int .i64 x.r, .int .i64 x.d, .int .i64 x.z]] w (One (.bool (zOk x)) w) := by
  have hb := below_new w (.cells #[.slice q x.n m, .int .i64 x.o, .int .i64 x.u, .int .i64 x.t, .int .i64 x.s, .int .i64 x.r, .int .i64 x.d, .int .i64 x.z] 40)
  go_enter Tryz.func40, Tryz.ntmps40
  go_wp2_with (go_at_call 36; refine (from_any _ _ _ _).mono ?_; rintro e w' ⟨rfl, rfl⟩)
  go_ret
  exact ⟨rfl, hb⟩
theorem quotasMayBe_any {w : World} {q : Option Addr} {m : Nat} {x : Pa} : Calls Tryz.prog 66 #[.agg #[.slice q x.n m, .int .i64 x.o, .int .i64 x.u, .int .i64 x.t, .int .i64 x.s, .int .i64 x.r, .int .i64 x.d, .int .i64 x.z]] w (One (.bool (qOk x)) w) := by
  have hb := below_new w (.cells #[.slice q x.n m, .int .i64 x.o, .int .i64 x.u, .int .i64 x.t, .int .i64 x.s, .int .i64 x.r, .int .i64 x.d, .int .i64 x.z] 40)
  go_enter Tryz.func66, Tryz.ntmps66
  go_wp2_with (go_at_call 36; refine (from_any _ _ _ _).mono ?_; rintro e w' ⟨rfl, rfl⟩)
  all_goals (go_ret; exact ⟨ret_bool (by simp [qOk, *]), hb⟩)
theorem im_ways {x : Pa} (h0 : 0 ≤ x.o) (h1 : x.o ≤ 3) : (x.o = 0 ∧ im x = 1) ∨ (x.o = 1 ∧ im x = 2) ∨ (x.o = 2 ∧ im x = 4) ∨ (x.o = 3 ∧ im x = 8) := by
  have : x.o = 0 ∨ x.o = 1 ∨ x.o = 2 ∨ x.o = 3 := by omega
  unfold im
  rcases this with h | h | h | h <;> rw [h] <;> decide
theorem imageFrames_ok {w : World} {q : Option Addr} {m : Nat} {x : Pa} (h0 : 0 ≤ x.o) (h1 : x.o ≤ 3) : Calls Tryz.prog 76 #[.agg #[.slice q x.n m, .int .i64 x.o, .int .i64 x.u, .int .i64 x.t, .int .i64 x.s, .int .i64 x.r, .int .i64 x.d, .int .i64 x.z]] w (One (.int .i64 (im x)) w) := by
  rcases im_ways h0 h1 with ⟨e1, e2⟩ | ⟨e1, e2⟩ | ⟨e1, e2⟩ | ⟨e1, e2⟩
  all_goals
    rw [e1, e2]
    clear h0 h1 e1 e2
    go_enter Tryz.func76, Tryz.ntmps76
    go_wp2
    go_ret
    exact ⟨by first | rfl | simp, below_new _ _⟩
theorem limit_ok {w : World} {q : Option Addr} {m : Nat} {x : Pa} (h0 : 0 ≤ x.u) (h1 : x.u ≤ 4096) (h2 : 0 ≤ x.z) (h3 : x.z ≤ 1024) (h4 : 0 ≤ x.d) (h5 : x.d ≤ 4096) : Calls Tryz.prog 59 #[.agg #[.slice q x.n m, .int .i64 x.o, .int .i64 x.u, .int .i64 x.t, .int .i64 x.s, .int .i64 x.r, .int .i64 x.d, .int .i64 x.z]] w (One (.int .i64 (lim x)) w) := by
  have hb := below_new w (.cells #[.slice q x.n m, .int .i64 x.o, .int .i64 x.u, .int .i64 x.t, .int .i64 x.s, .int .i64 x.r, .int .i64 x.d, .int .i64 x.z] 40)
  go_enter Tryz.func59, Tryz.ntmps59
  go_wp2
  all_goals (go_ret; exact ⟨ret_int (by simp only [lim]; omega), hb⟩)
end Go.Proofs.YtcmgjinjfaialaaGreat
