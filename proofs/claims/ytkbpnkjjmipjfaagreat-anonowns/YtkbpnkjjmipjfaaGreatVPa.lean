/- What the small functions of both sides give back: of numbers, of powers of two; no condition but the ranges named. -/
import Derived.Test.YtkbpnkjjmipjfaaGreatVFa
namespace Go.Proofs.YtkbpnkjjmipjfaaGreat
open Go.ChangeShapes Go.WideShapes Go.ChangeAt Go.RowKit
set_option linter.unusedVariables false

theorem from_any (a n b : Int) (w : World) : Calls Tryz.prog 210 #[.int .i64 a, .int .i64 n, .int .i64 b] w fun e w' => e = .returned (.bool (inB n a b)) ∧ w' = w := by
  go_enter Tryz.func210, Tryz.ntmps210
  go_wp2
  all_goals (go_ret; exact ⟨ret_bool (by rw [Bool.eq_iff_iff]; simp [inB]; omega), rfl⟩)
theorem unless_any (b : Bool) (e : Int) (w : World) : Calls Tryz.prog 211 #[.bool b, .int .i64 e] w fun x w' => x = .returned (.int .i64 (bif b then 0 else e)) ∧ w' = w := by
  cases b
  · go_enter Tryz.func211, Tryz.ntmps211
    go_wp2
    go_ret
    exact ⟨rfl, rfl⟩
  · go_enter Tryz.func211, Tryz.ntmps211
    go_wp2
    go_ret
    exact ⟨rfl, rfl⟩
def o1 (n : Int) : Int := IntKind.u64.wrap (bits BinOp.and IntKind.u64 (n / 2) 6148914691236517205 + bits BinOp.and IntKind.u64 n 6148914691236517205)
def o2 (n : Int) : Int := IntKind.u64.wrap (bits BinOp.and IntKind.u64 (n / 4) 3689348814741910323 + bits BinOp.and IntKind.u64 n 3689348814741910323)
def o3 (n : Int) : Int := bits BinOp.and IntKind.u64 (IntKind.u64.wrap (n / 16 + n)) 1085102592571150095
def o4 (n : Int) : Int := IntKind.u64.wrap (n + n / 256)
def o5 (n : Int) : Int := IntKind.u64.wrap (n + n / 65536)
def o6 (n : Int) : Int := IntKind.u64.wrap (n + n / 4294967296)
def o7 (n : Int) : Int := bits BinOp.and IntKind.i64 (wrap64 n) 127
def oc (n : Int) : Int := o7 (o6 (o5 (o4 (o3 (o2 (o1 n))))))
theorem oc_tab : ((List.range 4097).all fun n => (oc (n : Int) == 1) == pow2 (n : Int)) = true := by decide +kernel
theorem oc_pow {n : Nat} (hn : n ≤ 4096) : (oc (n : Int) == 1) = pow2 (n : Int) := by
  have := List.all_eq_true.1 oc_tab n (by simp; omega)
  simpa using this
theorem ones64 (n : Nat) (w : World) : Calls Tryz.prog 248 #[.int .u64 (n : Int)] w fun e w' => e = .returned (.int .i64 (oc n)) ∧ w' = w := by
  go_enter Tryz.func248, Tryz.ntmps248
  go_wp2
  go_ret
  exact ⟨rfl, rfl⟩
theorem ones (n : Nat) (w : World) : Calls Tryz.prog 232 #[.int .u64 (n : Int)] w fun e w' => e = .returned (.int .i64 (oc n)) ∧ w' = w := by
  go_enter Tryz.func232, Tryz.ntmps232
  go_wp2_with (go_at_call 248; refine (ones64 _ _).mono ?_; rintro e w' ⟨rfl, rfl⟩)
  go_ret
  exact ⟨rfl, rfl⟩
theorem powerOfTwo_any (n h : Int) (hh : h ≤ 4096) (w : World) : Calls Tryz.prog 209 #[.int .i64 n, .int .i64 h] w fun e w' => e = .returned (.bool (pwH n h)) ∧ w' = w := by
  cases hb : inB n 1 h
  · have hp : pwH n h = false := by
      cases hq : pwH n h
      · rfl
      · unfold pwH at hq
        simp only [Bool.and_eq_true, decide_eq_true_eq, pow2_iff] at hq
        have := inB_not hb
        omega
    rw [hp]
    go_enter Tryz.func209, Tryz.ntmps209
    go_wp2_with (go_at_call 210; refine (from_any _ _ _ _).mono ?_; rintro e w' ⟨rfl, rfl⟩)
    go_ret
    exact ⟨rfl, rfl⟩
  · obtain ⟨k1, k2⟩ := inB_iff.1 hb
    obtain ⟨m, rfl⟩ := Int.eq_ofNat_of_zero_le (show 0 ≤ n by omega)
    have hp : pwH m h = (oc m == 1) := by rw [oc_pow (by omega)]; simp [pwH, k2]
    rw [hp]
    have C : Hid (∀ w, Calls Tryz.prog 232 #[.int .u64 (m : Int)] w fun e w' => e = .returned (.int .i64 (oc m)) ∧ w' = w) := fun w => ones m w
    clear hp
    generalize oc m = q at *
    go_enter Tryz.func209, Tryz.ntmps209
    go_wp2_with (first | (go_at_call 210; refine (from_any _ _ _ _).mono ?_; rintro e w' ⟨rfl, rfl⟩) | (go_at_call 232; refine (C.out _).mono ?_; rintro e w' ⟨rfl, rfl⟩))
    all_goals (go_ret; exact ⟨ret_bool (by first | rfl | simp [*]), rfl⟩)
end Go.Proofs.YtkbpnkjjmipjfaaGreat
namespace Go.Proofs.YtkbpnkjjmipjfaaGreat
open Go.ChangeShapes Go.WideShapes Go.ChangeAt Go.RowKit
set_option linter.unusedVariables false

theorem ways8 : ∀ a b c d e f g h : Bool, ((a && (b && (c && (d && (e && (f && (g && h))))))) = false ∧ (a = false ∨ (a = true ∧ b = false) ∨ (a = true ∧ b = true ∧ c = false) ∨ (a = true ∧ b = true ∧ c = true ∧ d = false)
    ∨ (a = true ∧ b = true ∧ c = true ∧ d = true ∧ e = false) ∨ (a = true ∧ b = true ∧ c = true ∧ d = true ∧ e = true ∧ f = false) ∨ (a = true ∧ b = true ∧ c = true ∧ d = true ∧ e = true ∧ f = true ∧ g = false)
    ∨ (a = true ∧ b = true ∧ c = true ∧ d = true ∧ e = true ∧ f = true ∧ g = true ∧ h = false)))
    ∨ ((a && (b && (c && (d && (e && (f && (g && h))))))) = true ∧ a = true ∧ b = true ∧ c = true ∧ d = true ∧ e = true ∧ f = true ∧ g = true ∧ h = true) := by
  intro a b c d e f g h
  cases a <;> cases b <;> cases c <;> cases d <;> cases e <;> cases f <;> cases g <;> cases h <;> simp
def un (b : Bool) (e : Int) : Int := bif b then 0 else e
theorem tm_em {F C : Int} (h1 : 1 ≤ F) : F.tmod C = F % C := Int.tmod_eq_emod_of_nonneg (by omega)
theorem machineWrong_any {w : World} {a : Ad} {c : Cf} : Calls Tryz.prog 166 #[.agg #[.int .i64 c.F, .int .i64 c.C, .int .i64 c.W, .int .i64 c.S, .int .i64 c.V, .int .i64 c.T, .int .u64 c.k.l1, .int .u64 c.k.llc, .int .u64 c.k.mi, .int .u64 c.k.fa, .int .u64 c.k.st, .int .u64 c.k.di, .int .u64 c.sl, .int .u64 c.pd, .int .u64 c.ft, .slice a.ta c.tn a.tc, .slice a.pa c.pn a.pc]] w (One (.int .i64 (un (mOk c) 114)) w) := by
  have hb := below_new w (.cells #[.int .i64 c.F, .int .i64 c.C, .int .i64 c.W, .int .i64 c.S, .int .i64 c.V, .int .i64 c.T, .int .u64 c.k.l1, .int .u64 c.k.llc, .int .u64 c.k.mi, .int .u64 c.k.fa, .int .u64 c.k.st, .int .u64 c.k.di, .int .u64 c.sl, .int .u64 c.pd, .int .u64 c.ft, .slice a.ta c.tn a.tc, .slice a.pa c.pn a.pc] 28)
  rcases ways8 (pwH c.C 16) (inB c.F 1 4096) (decide (c.F % c.C = 0)) (pwH c.S 4096) (inB c.W 1 16) (inB c.V 1 16) (inB c.T 1 64) (inB c.pn 1 8) with ⟨h0, h | ⟨h1, h⟩ | ⟨h1, h2, h⟩ | ⟨h1, h2, h3, h⟩ | ⟨h1, h2, h3, h4, h⟩ | ⟨h1, h2, h3, h4, h5, h⟩ | ⟨h1, h2, h3, h4, h5, h6, h⟩ | ⟨h1, h2, h3, h4, h5, h6, h7, h⟩⟩ | ⟨h0, h1, h2, h3, h4, h5, h6, h7, h⟩
  all_goals
    have h0 : mOk c = _ := h0
    rw [h0]
    clear h0
  · go_enter Tryz.func166, Tryz.ntmps166
    go_wp2_with (first | (go_at_call 209; refine (powerOfTwo_any _ _ (by decide) _).mono ?_; rintro e w' ⟨rfl, rfl⟩) | (go_at_call 210; refine (from_any _ _ _ _).mono ?_; rintro e w' ⟨rfl, rfl⟩) | (go_at_call 211; refine (unless_any _ _ _).mono ?_; rintro e w' ⟨rfl, rfl⟩))
    go_ret
    exact ⟨rfl, hb⟩
  · go_enter Tryz.func166, Tryz.ntmps166
    go_wp2_with (first | (go_at_call 209; refine (powerOfTwo_any _ _ (by decide) _).mono ?_; rintro e w' ⟨rfl, rfl⟩) | (go_at_call 210; refine (from_any _ _ _ _).mono ?_; rintro e w' ⟨rfl, rfl⟩) | (go_at_call 211; refine (unless_any _ _ _).mono ?_; rintro e w' ⟨rfl, rfl⟩))
    go_ret
    exact ⟨rfl, hb⟩
  all_goals
    have hC : ¬ c.C = 0 := by
      unfold pwH at h1
      simp only [Bool.and_eq_true, decide_eq_true_eq, pow2_iff] at h1
      omega
    have hm : c.F.tmod c.C = c.F % c.C := tm_em (inB_iff.1 h2).1
    first
      | have hr := of_decide_eq_true h3
      | have hr := of_decide_eq_false h
    generalize c.F % c.C = r at *
    go_enter Tryz.func166, Tryz.ntmps166
    go_wp2_with (first | (go_at_call 209; refine (powerOfTwo_any _ _ (by decide) _).mono ?_; rintro e w' ⟨rfl, rfl⟩) | (go_at_call 210; refine (from_any _ _ _ _).mono ?_; rintro e w' ⟨rfl, rfl⟩) | (go_at_call 211; refine (unless_any _ _ _).mono ?_; rintro e w' ⟨rfl, rfl⟩))
    go_ret
    exact ⟨rfl, hb⟩
theorem isPart_any {w : World} {a : Ad} {c : Cf} (p : Int) : Calls Tryz.prog 129 #[.agg #[.int .i64 c.F, .int .i64 c.C, .int .i64 c.W, .int .i64 c.S, .int .i64 c.V, .int .i64 c.T, .int .u64 c.k.l1, .int .u64 c.k.llc, .int .u64 c.k.mi, .int .u64 c.k.fa, .int .u64 c.k.st, .int .u64 c.k.di, .int .u64 c.sl, .int .u64 c.pd, .int .u64 c.ft, .slice a.ta c.tn a.tc, .slice a.pa c.pn a.pc], .int .i64 p] w (One (.bool (decide (0 ≤ p) && decide (p < (c.pn : Int)))) w) := by
  have hb := below_new w (.cells #[.int .i64 c.F, .int .i64 c.C, .int .i64 c.W, .int .i64 c.S, .int .i64 c.V, .int .i64 c.T, .int .u64 c.k.l1, .int .u64 c.k.llc, .int .u64 c.k.mi, .int .u64 c.k.fa, .int .u64 c.k.st, .int .u64 c.k.di, .int .u64 c.sl, .int .u64 c.pd, .int .u64 c.ft, .slice a.ta c.tn a.tc, .slice a.pa c.pn a.pc] 28)
  go_enter Tryz.func129, Tryz.ntmps129
  go_wp2
  all_goals (go_ret; exact ⟨ret_bool (by clear hb; rw [Bool.eq_iff_iff]; simp; omega), hb⟩)
theorem slotsMayBe_any {w : World} {q : Option Addr} {m : Nat} {x : Pa} : Calls Tryz.prog 214 #[.agg #[.slice q x.n m, .int .i64 x.o, .int .i64 x.u, .int .i64 x.t, .int .i64 x.s, .int .i64 x.r, .int .i64 x.d, .int .i64 x.z]] w (One (.bool (zOk x)) w) := by
  have hb := below_new w (.cells #[.slice q x.n m, .int .i64 x.o, .int .i64 x.u, .int .i64 x.t, .int .i64 x.s, .int .i64 x.r, .int .i64 x.d, .int .i64 x.z] 109)
  go_enter Tryz.func214, Tryz.ntmps214
  go_wp2_with (go_at_call 210; refine (from_any _ _ _ _).mono ?_; rintro e w' ⟨rfl, rfl⟩)
  go_ret
  exact ⟨rfl, hb⟩
theorem quotasMayBe_any {w : World} {q : Option Addr} {m : Nat} {x : Pa} : Calls Tryz.prog 235 #[.agg #[.slice q x.n m, .int .i64 x.o, .int .i64 x.u, .int .i64 x.t, .int .i64 x.s, .int .i64 x.r, .int .i64 x.d, .int .i64 x.z]] w (One (.bool (qOk x)) w) := by
  have hb := below_new w (.cells #[.slice q x.n m, .int .i64 x.o, .int .i64 x.u, .int .i64 x.t, .int .i64 x.s, .int .i64 x.r, .int .i64 x.d, .int .i64 x.z] 109)
  go_enter Tryz.func235, Tryz.ntmps235
  go_wp2_with (go_at_call 210; refine (from_any _ _ _ _).mono ?_; rintro e w' ⟨rfl, rfl⟩)
  all_goals (go_ret; exact ⟨ret_bool (by simp [qOk, *]), hb⟩)
theorem im_ways {x : Pa} (h0 : 0 ≤ x.o) (h1 : x.o ≤ 3) : (x.o = 0 ∧ im x = 1) ∨ (x.o = 1 ∧ im x = 2) ∨ (x.o = 2 ∧ im x = 4) ∨ (x.o = 3 ∧ im x = 8) := by
  have : x.o = 0 ∨ x.o = 1 ∨ x.o = 2 ∨ x.o = 3 := by omega
  unfold im
  rcases this with h | h | h | h <;> rw [h] <;> decide
theorem imageFrames_ok {w : World} {q : Option Addr} {m : Nat} {x : Pa} (h0 : 0 ≤ x.o) (h1 : x.o ≤ 3) : Calls Tryz.prog 249 #[.agg #[.slice q x.n m, .int .i64 x.o, .int .i64 x.u, .int .i64 x.t, .int .i64 x.s, .int .i64 x.r, .int .i64 x.d, .int .i64 x.z]] w (One (.int .i64 (im x)) w) := by
  rcases im_ways h0 h1 with ⟨e1, e2⟩ | ⟨e1, e2⟩ | ⟨e1, e2⟩ | ⟨e1, e2⟩
  all_goals
    rw [e1, e2]
    clear h0 h1 e1 e2
    go_enter Tryz.func249, Tryz.ntmps249
    go_wp2
    go_ret
    exact ⟨by first | rfl | simp, below_new _ _⟩
theorem limit_ok {w : World} {q : Option Addr} {m : Nat} {x : Pa} (h0 : 0 ≤ x.u) (h1 : x.u ≤ 4096) (h2 : 0 ≤ x.z) (h3 : x.z ≤ 1024) (h4 : 0 ≤ x.d) (h5 : x.d ≤ 4096) : Calls Tryz.prog 252 #[.agg #[.slice q x.n m, .int .i64 x.o, .int .i64 x.u, .int .i64 x.t, .int .i64 x.s, .int .i64 x.r, .int .i64 x.d, .int .i64 x.z]] w (One (.int .i64 (lim x)) w) := by
  have hb := below_new w (.cells #[.slice q x.n m, .int .i64 x.o, .int .i64 x.u, .int .i64 x.t, .int .i64 x.s, .int .i64 x.r, .int .i64 x.d, .int .i64 x.z] 109)
  go_enter Tryz.func252, Tryz.ntmps252
  go_wp2
  all_goals (go_ret; exact ⟨ret_int (by simp only [lim]; omega), hb⟩)
end Go.Proofs.YtkbpnkjjmipjfaaGreat
