/- What colour's functions of numbers and the reference's give back, each for every number that it may be handed; no condition but the ranges that each theorem names. -/
import Derived.Test.YtkbpnkjjmipjfaaGreatRows
import Derived.Test.YtkbpnkjjmipjfaaGreatVMa
import Derived.WalkKit
import Derived.ProofKit
import Derived.OpenShut
import Derived.WalkSpells
import Derived.WalkLawsBesides
import Derived.Laws.BitsAllLaws
import Derived.Deep.QuietTactic
import Derived.BigQuiet
namespace Go.Proofs.YtkbpnkjjmipjfaaGreat.K
open Go.ChangeShapes Go.WideShapes Go.ChangeAt Go.RowKit
set_option linter.unusedVariables false

theorem ret_bool {a b : Bool} (h : a = b) : Ending.returned (.bool a) = .returned (.bool b) := by rw [h]
def inB (n a b : Int) : Bool := decide (a ≤ n) && decide (n ≤ b)
theorem inB_t {n a b : Int} (h : a ≤ n) (h' : n ≤ b) : inB n a b = true := by simp [inB, h, h']
def Two (a e : Int) (w : World) (x : Ending) (w' : World) : Prop := x = .returned (.tuple #[.int .i64 a, .int .i64 e]) ∧ w' = w

theorem frameMayBe_any (a : Int) (w : World) : Calls Tryz.prog 171 #[.int .i64 a] w fun e w' => e = .returned (.bool (inB a 0 4095)) ∧ w' = w := by
  go_enter Tryz.func171, Tryz.ntmps171
  go_wp2
  all_goals (go_ret; exact ⟨ret_bool (by rw [Bool.eq_iff_iff]; simp [inB]; omega), rfl⟩)
theorem framesMayBe_any (a : Int) (w : World) : Calls Tryz.prog 96 #[.int .i64 a] w fun e w' => e = .returned (.bool (inB a 1 4096)) ∧ w' = w := by
  go_enter Tryz.func96, Tryz.ntmps96
  go_wp2
  all_goals (go_ret; exact ⟨ret_bool (by rw [Bool.eq_iff_iff]; simp [inB]; omega), rfl⟩)
theorem coloursMayBe_any (a : Int) (w : World) : Calls Tryz.prog 130 #[.int .i64 a] w fun e w' => e = .returned (.bool (inB a 1 16)) ∧ w' = w := by
  go_enter Tryz.func130, Tryz.ntmps130
  go_wp2
  all_goals (go_ret; exact ⟨ret_bool (by rw [Bool.eq_iff_iff]; simp [inB]; omega), rfl⟩)
def cm (c n : Int) : Bool := inB n 1 16 && inB c 0 (n - 1)
theorem colourMayBe_any (c n : Int) (w : World) : Calls Tryz.prog 97 #[.int .i64 c, .int .i64 n] w fun e w' => e = .returned (.bool (cm c n)) ∧ w' = w := by
  cases h : inB n 1 16
  · go_enter Tryz.func97, Tryz.ntmps97
    go_wp2_with (go_at_call 130; refine (coloursMayBe_any _ _).mono ?_; rintro e w' ⟨rfl, rfl⟩)
    all_goals (go_ret; exact ⟨ret_bool (by simp [cm, h]), rfl⟩)
  · go_enter Tryz.func97, Tryz.ntmps97
    go_wp2_with (go_at_call 130; refine (coloursMayBe_any _ _).mono ?_; rintro e w' ⟨rfl, rfl⟩)
    all_goals (go_ret; exact ⟨ret_bool (by rw [Bool.eq_iff_iff]; simp [cm, h]; simp [inB]; omega), rfl⟩)
theorem Of_ok (x n : Int) (h0 : 0 ≤ x) (h1 : x ≤ 4095) (h2 : 1 ≤ n) (h3 : n ≤ 16) (w : World) : Calls Tryz.prog 131 #[.int .i64 x, .int .i64 n] w (Two (x % n) 0 w) := by
  have ha := inB_t h0 h1
  have hb := inB_t h2 h3
  have hm : x.tmod n = x % n := Int.tmod_eq_emod_of_nonneg h0
  have k0 := Int.emod_nonneg x (show n ≠ 0 by omega)
  have k1 := Int.emod_lt_of_pos x (show 0 < n by omega)
  have hn : ¬ n = 0 := by omega
  go_enter Tryz.func131, Tryz.ntmps131
  go_wp2_with (first | (go_at_call 171; refine (frameMayBe_any _ _).mono ?_; rintro e w' ⟨rfl, rfl⟩) | (go_at_call 130; refine (coloursMayBe_any _ _).mono ?_; rintro e w' ⟨rfl, rfl⟩))
  go_ret2
  exact ⟨rfl, rfl⟩
theorem Index_ok (x n : Int) (h0 : 0 ≤ x) (h1 : x ≤ 4095) (h2 : 1 ≤ n) (h3 : n ≤ 16) (w : World) : Calls Tryz.prog 132 #[.int .i64 x, .int .i64 n] w (Two (x / n) 0 w) := by
  have ha := inB_t h0 h1
  have hb := inB_t h2 h3
  have hm : x.tdiv n = x / n := Int.tdiv_eq_ediv_of_nonneg h0
  have k0 : 0 ≤ x / n := Int.ediv_nonneg h0 (by omega)
  have k1 : x / n ≤ x := Int.ediv_le_self n h0
  have hn : ¬ n = 0 := by omega
  go_enter Tryz.func132, Tryz.ntmps132
  go_wp2_with (first | (go_at_call 171; refine (frameMayBe_any _ _).mono ?_; rintro e w' ⟨rfl, rfl⟩) | (go_at_call 130; refine (coloursMayBe_any _ _).mono ?_; rintro e w' ⟨rfl, rfl⟩))
  go_ret2
  exact ⟨rfl, rfl⟩
def fo (c i n : Int) : Prop := (1 ≤ n ∧ n ≤ 16) ∧ (0 ≤ c ∧ c < n) ∧ 0 ≤ i ∧ i * n + c ≤ 4095
theorem prod_le (i n : Int) (h0 : 0 ≤ i) (h1 : i ≤ 4095) (h2 : 1 ≤ n) (h3 : n ≤ 16) : 0 ≤ i * n ∧ i * n ≤ 65520 ∧ i ≤ i * n := by
  refine ⟨Int.mul_nonneg h0 (by omega), ?_, ?_⟩
  · have := Int.mul_le_mul h1 h3 (by omega) (by omega)
    omega
  · have := Int.mul_le_mul_of_nonneg_left h2 h0
    omega
theorem fo_i {c i n : Int} (h : fo c i n) : i ≤ 4095 := by
  obtain ⟨⟨a, b⟩, ⟨c0, c1⟩, i0, l⟩ := h
  have := Int.mul_le_mul_of_nonneg_left a i0
  omega
theorem Frame_ok (c i n : Int) (h : fo c i n) (w : World) : Calls Tryz.prog 188 #[.int .i64 c, .int .i64 i, .int .i64 n] w (Two (i * n + c) 0 w) := by
  have hi := fo_i h
  obtain ⟨⟨a, b⟩, ⟨c0, c1⟩, i0, l⟩ := h
  obtain ⟨p0, p1, p2⟩ := prod_le i n i0 hi a b
  have h1 : cm c n = true := by simp [cm, inB_t a b, inB_t c0 (show c ≤ n - 1 by omega)]
  have h2 := inB_t i0 hi
  have h3 := inB_t (show 0 ≤ i * n + c by omega) l
  go_enter Tryz.func188, Tryz.ntmps188
  go_wp2_with (first | (go_at_call 97; refine (colourMayBe_any _ _ _).mono ?_; rintro e w' ⟨rfl, rfl⟩) | (go_at_call 171; refine (frameMayBe_any _ _).mono ?_; rintro e w' ⟨rfl, rfl⟩))
  go_ret2
  exact ⟨rfl, rfl⟩
def ct (F n c : Int) : Int := (F - c + n - 1) / n
theorem ct_le {F n c : Int} (hF : 1 ≤ F) (hF1 : F ≤ 4096) (h0 : 0 ≤ c) (h1 : c < n) (hn : n ≤ 16) : 0 ≤ F - c + n - 1 ∧ 0 ≤ ct F n c ∧ ct F n c ≤ F - c + n - 1 ∧ F - c + n - 1 ≤ 4111 := by
  have hs : 0 ≤ F - c + n - 1 := by omega
  exact ⟨hs, Int.ediv_nonneg hs (by omega), Int.ediv_le_self n hs, by omega⟩
theorem Count_ok (F n c : Int) (hF : 1 ≤ F) (hF1 : F ≤ 4096) (h2 : 1 ≤ n) (h3 : n ≤ 16) (h0 : 0 ≤ c) (h1 : c < n) (w : World) : Calls Tryz.prog 46 #[.int .i64 F, .int .i64 n, .int .i64 c] w (Two (ct F n c) 0 w) := by
  have ha := inB_t hF hF1
  have hb : cm c n = true := by simp [cm, inB_t h2 h3, inB_t h0 (show c ≤ n - 1 by omega)]
  obtain ⟨k0, k1, k2, k3⟩ := ct_le hF hF1 h0 h1 h3
  have hm : (F - c + n - 1).tdiv n = ct F n c := Int.tdiv_eq_ediv_of_nonneg k0
  have hn : ¬ n = 0 := by omega
  generalize ct F n c = q at *
  go_enter Tryz.func46, Tryz.ntmps46
  go_wp2_with (first | (go_at_call 96; refine (framesMayBe_any _ _).mono ?_; rintro e w' ⟨rfl, rfl⟩) | (go_at_call 97; refine (colourMayBe_any _ _ _).mono ?_; rintro e w' ⟨rfl, rfl⟩))
  go_ret2
  exact ⟨rfl, rfl⟩
def st (a n : Int) : Int := a / 256 % n * 16 + a % 256 / 16
theorem Set_ok (a n : Int) (h0 : 0 ≤ a) (h1 : a < 1048576) (h2 : 1 ≤ n) (h3 : n ≤ 16) (w : World) : Calls Tryz.prog 178 #[.int .u64 a, .int .i64 n] w (Two (st a n) 0 w) := by
  have C : Hid (∀ w, Calls Tryz.prog 131 #[.int .i64 (a / 256), .int .i64 n] w (Two (a / 256 % n) 0 w)) := fun w => Of_ok (a / 256) n (by omega) (by omega) h2 h3 w
  have k0 := Int.emod_nonneg (a / 256) (show n ≠ 0 by omega)
  have k1 := Int.emod_lt_of_pos (a / 256) (show 0 < n by omega)
  unfold st
  generalize a / 256 % n = c at *
  go_enter Tryz.func178, Tryz.ntmps178
  go_wp2_with (go_at_call 131; refine (C.out _).mono ?_; rintro e w' ⟨rfl, rfl⟩)
  go_ret2
  exact ⟨rfl, rfl⟩
end Go.Proofs.YtkbpnkjjmipjfaaGreat.K
namespace Go.Proofs.YtkbpnkjjmipjfaaGreat.P
open B Go.ChangeShapes Go.WideShapes Go.ChangeAt Go.RowKit
set_option linter.unusedVariables false
set_option maxRecDepth 8192

theorem mapu_nil (r : Option Nat) : ∀ w : World, (binOp .neq 112 (.map r) (.map none)).run Tryz.prog w = .ok (.bool r.isSome) w := fun w => by rw [run_neq_map_nil w _ _ _ r Tryz.underlying112]; cases r <;> rfl
theorem made_p {w : World} {m p ga b cap : Nat} {G : Nat → Nat → Prop} {bp : Nat → Nat} {P : Par} {L : Nat → Nat → List Nat} {tk : Nat → Nat → Option Nat} {us : Us} {cn : Nat → Nat} (h : Pp w m p ga b cap G bp P L tk us cn) : Calls Tryz.prog 70 #[.pointer (some ⟨p, 0, none⟩)] w fun e w' => e = .returned (.bool true) ∧ w' = w := by
  have hc := h.cm
  have hq := mapu_nil (some b)
  clear h
  go_enter Tryz.func70, Tryz.ntmps70
  go_wp2
  go_ret
  exact ⟨rfl, rfl⟩
theorem fr_bound {L : Nat → List Nat} (h : ∀ i, i < 7 → (L i).length ≤ 4096) : fr L ≤ 600000 := by
  have h0 := h 0 (by omega)
  have h1 := h 1 (by omega)
  have h2 := h 2 (by omega)
  have h3 := h 3 (by omega)
  have h4 := h 4 (by omega)
  have h5 := h 5 (by omega)
  have h6 := h 6 (by omega)
  unfold fr
  omega
theorem Pp.col {w : World} {m p ga b cap : Nat} {G : Nat → Nat → Prop} {bp : Nat → Nat} {P : Par} {L : Nat → Nat → List Nat} {tk : Nat → Nat → Option Nat} {us : Us} {cn : Nat → Nat} (h : Pp w m p ga b cap G bp P L tk us cn) {i : Nat} (hi : i < P.k) : w.cell? ⟨ga, i, none⟩ = some (.int .i64 (P.f i)) := by
  obtain ⟨g, c, e1, e2⟩ := h.own.cell (cols_get P hi)
  simp only [Value.slice.injEq, Option.some.injEq, Addr.mk.injEq] at e1
  obtain ⟨⟨rfl, _, _⟩, _, rfl⟩ := e1
  exact e2
theorem Pp.cap {w : World} {m p ga b cap : Nat} {G : Nat → Nat → Prop} {bp : Nat → Nat} {P : Par} {L : Nat → Nat → List Nat} {tk : Nat → Nat → Option Nat} {us : Us} {cn : Nat → Nat} (h : Pp w m p ga b cap G bp P L tk us cn) : P.k ≤ cap ∧ cap ≤ maxLen := by
  rcases h.own.shape with ⟨e, _⟩ | ⟨g, c, l, e, _, e3, e4, _⟩
  · cases e
  · simp only [Value.slice.injEq, Option.some.injEq, Addr.mk.injEq] at e
    obtain ⟨_, _, rfl⟩ := e
    rw [cols_len] at e3
    exact ⟨e3, e4⟩
set_option maxHeartbeats 1000000 in
theorem fullest_p {w : World} {p ga b cap : Nat} {G : Nat → Nat → Prop} {bp : Nat → Nat} {P : Par} {L : Nat → Nat → List Nat} {tk : Nat → Nat → Option Nat} {us : Us} {cn : Nat → Nat} (h : Pp w P.k p ga b cap G bp P L tk us cn) (hk : 1 ≤ P.k) (hk2 : P.k ≤ 16) (hf : ∀ i, i < P.k → P.f i < 16) (hl : ∀ i, i < P.k → ∀ j, j < 7 → (L i j).length ≤ 4096) :
    Calls Tryz.prog 145 #[.pointer (some ⟨p, 0, none⟩)] w fun e w' => e = .returned (.int .i64 (P.f (bs (fun i => fr (L i)) (P.k - 1)) : Nat)) ∧ Below w.heap.size w w' := by
  have hc1 := h.c1
  have h0 := h.col (i := 0) (by omega)
  have hcap := h.cap.1
  have HP : Hid (∀ W, Below w.heap.size w W → Pp W P.k p ga b cap G bp P L tk us cn) := fun W hW => h.below hW
  have HL : Hid (∀ i, i < P.k → P.f i < 16) := hf
  have HM : Hid (∀ i, i < P.k → ∀ j, j < 7 → (L i j).length ≤ 4096) := hl
  obtain ⟨v, hv⟩ : ∃ v : Nat → Nat, v = fun i => fr (L i) := ⟨_, rfl⟩
  have HV : Hid (∀ i, fr (L i) = v i) := fun i => by rw [hv]
  rw [← hv]
  clear hv h hl hf
  generalize hK : P.k = K at *
  by_cases hcp : cap = 1
  · subst hcp
    obtain rfl : K = 1 := by omega
    go_enter Tryz.func145, Tryz.ntmps145
    go_wp2
    go_loopw [3, 18] (fun y z wr => y = .int .i64 (P.f 0 : Nat) ∧ z = .int .i64 0 ∧ wr = w) (fun _ _ _ => 0)
    case atStart => exact ⟨rfl, rfl, rfl⟩
    case round =>
      obtain ⟨rfl, rfl, hw⟩ := hrel
      obtain rfl := hw
      go_wp2
      go_ret
      exact ⟨rfl, Below.refl _ _⟩
  · obtain ⟨C, hC⟩ : ∃ C, cap = C + 1 := ⟨cap - 1, by omega⟩
    obtain ⟨n, hn⟩ : ∃ n, K = n + 1 := ⟨K - 1, by omega⟩
    subst hC hn
    have hC0 : ¬ C = 0 := by omega
    rw [show n + 1 - 1 = n by omega]
    go_enter Tryz.func145, Tryz.ntmps145
    go_wp2
    go_loopw [3, 18] (fun y z wr => ∃ j : Nat, j ≤ n ∧ y = .int .i64 (P.f (bs v j) : Nat) ∧ z = .int .i64 j ∧ Below w.heap.size w wr) (fun _ z _ => (n - iv z).toNat)
    case atStart => exact ⟨0, by omega, rfl, rfl, Below.refl _ _⟩
    case round =>
      obtain ⟨j, hj, rfl, rfl, hw⟩ := hrel
      have HW : Hid (Below w.heap.size w wr) := hw
      clear hw
      by_cases hjn : j < n
      · have hq := HP.out wr HW.out
        have hcol := hq.col (i := j + 1) (by omega)
        have hb1 := bs_le v j
        have hcb1 := hq.cb (j + 1) (by omega)
        have hcb2 := hq.cb (bs v j) (by omega)
        have hf1 := HL.out (j + 1) (by omega)
        have hf2 := HL.out (bs v j) (by omega)
        have HF : Hid (∀ i, i < n + 1 → ∀ m, Calls Tryz.prog 186 #[.pointer (some ⟨bp i, 0, none⟩)] (wr.drewN m) fun e w' => e = .returned (.int .i64 (v i : Nat)) ∧ w' = wr.drewN m) := fun i hi m => by
          have := Free_any ((hq.bu i (by omega)).below (below_of (grown_drewN wr m none) _ (Nat.le_refl _) (by simp))) (HM.out i hi)
          rw [HV.out] at this
          exact this
        have r1 : v (j + 1) ≤ 600000 := by rw [← HV.out]; exact fr_bound (HM.out _ (by omega))
        have r2 : v (bs v j) ≤ 600000 := by rw [← HV.out]; exact fr_bound (HM.out _ (by omega))
        have HS : Hid (bs v (j + 1) = if v (bs v j) < v (j + 1) then j + 1 else bs v j) := rfl
        have CF : Hid (∀ q r, (q = bp (j + 1) ∧ r = v (j + 1)) ∨ (q = bp (bs v j) ∧ r = v (bs v j)) → ∀ m, Calls Tryz.prog 186 #[.pointer (some ⟨q, 0, none⟩)] (wr.drewN m) fun e w' => e = .returned (.int .i64 (r : Nat)) ∧ w' = wr.drewN m) := by
          rintro q r (⟨rfl, rfl⟩ | ⟨rfl, rfl⟩)
          · exact HF.out _ (by omega)
          · exact HF.out _ (by omega)
        clear hq HF
        have hcol : wr.cell? ⟨ga, 1 + j, none⟩ = some (.int .i64 (P.f (j + 1))) := by rw [Nat.add_comm 1 j]; exact hcol
        have hjI : (j : Int) < (n : Int) := by omega
        by_cases hlt : v (bs v j) < v (j + 1)
        · rw [if_pos hlt] at HS
          generalize bs v j = z at *
          obtain ⟨z', hz'⟩ : ∃ z', bs v (j + 1) = z' := ⟨_, rfl⟩
          have HZ : Hid (bs v (j + 1) = z') := hz'
          rw [hz'] at HS
          clear hz'
          generalize P.f z = f2 at *
          generalize v (j + 1) = v1 at *
          generalize v z = v2 at *
          generalize bp (j + 1) = b1 at *
          generalize bp z = b2 at *
          have HS2 : Hid (P.f z' = P.f (j + 1)) := by show P.f z' = P.f (j + 1); rw [HS.out]
          generalize P.f (j + 1) = f1 at *
          have hltI : (v2 : Int) < (v1 : Int) := by omega
          have i1 : (0 : Int) ≤ (f1 : Int) := by omega
          have i2 : (f1 : Int) < 16 := by omega
          have i3 : (0 : Int) ≤ (f2 : Int) := by omega
          have i4 : (f2 : Int) < 16 := by omega
          go_wp2_with fail
          go_quiet ((go_at_call 186; exact Calls.quiet_of_same (CF.out _ _ (by first | exact Or.inl ⟨rfl, rfl⟩ | exact Or.inr ⟨rfl, rfl⟩) _)))
          go_wp2
          go_roundw
          case rel => exact ⟨j + 1, by omega, by rw [HZ.out, HS2.out], by go_num, HW.out.trans ((below_of (grown_drewN wr _ none) _ (Nat.le_refl _) (by simp)).mono HW.out.size)⟩
          case measure => simp [iv]; omega
        · rw [if_neg hlt] at HS
          generalize hz : bs v j = z at *
          obtain ⟨z', hz'⟩ : ∃ z', bs v (j + 1) = z' := ⟨_, rfl⟩
          have HZ : Hid (bs v (j + 1) = z') := hz'
          rw [hz'] at HS
          clear hz' hz
          have HS2 : Hid (P.f z' = P.f z) := by show P.f z' = P.f z; rw [HS.out]
          generalize P.f z = f2 at *
          generalize v (j + 1) = v1 at *
          generalize v z = v2 at *
          generalize bp (j + 1) = b1 at *
          generalize bp z = b2 at *
          generalize P.f (j + 1) = f1 at *
          have hltI : ¬ (v2 : Int) < (v1 : Int) := by omega
          have i1 : (0 : Int) ≤ (f1 : Int) := by omega
          have i2 : (f1 : Int) < 16 := by omega
          have i3 : (0 : Int) ≤ (f2 : Int) := by omega
          have i4 : (f2 : Int) < 16 := by omega
          go_wp2_with fail
          go_quiet ((go_at_call 186; exact Calls.quiet_of_same (CF.out _ _ (by first | exact Or.inl ⟨rfl, rfl⟩ | exact Or.inr ⟨rfl, rfl⟩) _)))
          go_wp2
          go_roundw
          case rel => exact ⟨j + 1, by omega, by rw [HZ.out, HS2.out], by go_num, HW.out.trans ((below_of (grown_drewN wr _ none) _ (Nat.le_refl _) (by simp)).mono HW.out.size)⟩
          case measure => simp [iv]; omega
      · obtain rfl : j = n := by omega
        go_wp2
        go_ret
        exact ⟨rfl, HW.out⟩
theorem Kp.wide {F F' : Nat → Prop} {w w' : World} (h : Kp F F w w') (e : ∀ x, F x → F' x) : Kp F' F' w w' :=
  ⟨h.os, h.tape, h.output, h.size, fun k hk hn => h.block k hk (fun z => hn (e k z)), fun k hk => Or.inl hk⟩
set_option maxHeartbeats 1000000 in
theorem mark_p {w : World} {m p ga b cap : Nat} {G : Nat → Nat → Prop} {bp : Nat → Nat} {P : Par} {L : Nat → Nat → List Nat} {tk : Nat → Nat → Option Nat} {us : Us} {cn : Nat → Nat} (h : Pp w m p ga b cap G bp P L tk us cn) (hP : P.Ok) (i x u : Nat) (hi : i < P.k) (hx : x < P.N) (hu1 : 1 ≤ u) (hu6 : u ≤ 6) (hc0 : 1 ≤ cn 0) (hcm : ∀ u, cn u ≤ 70000) :
    Calls Tryz.prog 147 #[.pointer (some ⟨p, 0, none⟩), .int .i64 (P.f i), .int .i64 x, .int .u8 u] w fun e w' => e = .returned (.int .i64 (fm P i x : Nat)) ∧ Pp w' m p ga b cap G bp P L tk (pt us (fm P i x) (some u)) (put (put cn u (cn u + 1)) 0 (cn 0 - 1)) ∧ Kp (fun k => k = p ∨ k = b) (fun k => k = p ∨ k = b) w w' := by
  have hfc := hP.fC i hi
  have hC1 := hP.C1
  have hC2 := hP.C2
  have hlt := fm_lt hP hi hx
  have hf16 : ∀ i, i < m → P.f i < 16 := fun i hi => Nat.lt_of_lt_of_le (hP.fC i (Nat.lt_of_lt_of_le hi h.mk')) hP.C2
  have CF : Hid (Calls Tryz.prog 188 #[.int .i64 (P.f i), .int .i64 x, .int .i64 P.C] w (K.Two (fm P i x : Nat) 0 w)) := by
    have := K.Frame_ok (P.f i) x P.C ⟨by omega, by omega, by omega, by have := hlt; unfold fm at this; omega⟩ w
    unfold fm
    rw [show (((x * P.C + P.f i : Nat)) : Int) = (x : Int) * (P.C : Int) + (P.f i : Int) by simp]
    exact this
  have h0 := h.c0
  have hm := h.cm
  obtain ⟨w1, hst, M1, g1⟩ := h.mp.store (Nat.le_refl _) (fm P i x) hlt u hu6
  have HP1 : Hid (Pp w1 m p ga b cap G bp P L tk (pt us (fm P i x) (some u)) cn) := h.mapped g1 M1
  have HG1 : Hid (Kp (fun k => k = p ∨ k = b) (fun k => k = p ∨ k = b) w w1) := Kp.of_grown g1 (by rintro g e; injection e with e; exact Or.inr e.symm) (fun _ h => Or.inl h)
  have c1 := HP1.out.cc u (by omega)
  have z1 := HP1.out.fz (27 + u)
  have hbu := hcm u
  have hb0 := hcm 0
  have HF : Hid (∀ i, i < m → P.f i < 16) := hf16
  have HC : Hid (1 ≤ cn 0) := hc0
  clear h g1 M1 hf16 hc0 hcm hlt hfc
  generalize hfr : fm P i x = fr at *
  generalize hcu : cn u = c at *
  have HCU : Hid (cn u = c) := hcu
  clear hcu hfr
  have i1 : (0 : Int) ≤ (u : Int) := by omega
  have i2 : (u : Int) < 7 := by omega
  go_enter Tryz.func147, Tryz.ntmps147
  go_wp2_with (go_at_call 188; refine CF.out.mono ?_; rintro e w' ⟨rfl, h⟩; obtain rfl := h.symm)
  go_region
  have HP2 : Hid (Pp (w1.setCell ⟨p, 27 + u, none⟩ (.int .i64 ((c : Int) + 1))).drew m p ga b cap G bp P L tk (pt us fr (some u)) (put cn u (cn u + 1))) := by
    have := HP1.out.count u (by omega) (cn u + 1) HF.out
    rw [HCU.out] at this
    rw [HCU.out]
    exact this.of_eq (Nat.le_refl _) (fun _ _ => rfl)
  have HG2 : Hid (Kp (fun k => k = p ∨ k = b) (fun k => k = p ∨ k = b) w (w1.setCell ⟨p, 27 + u, none⟩ (.int .i64 ((c : Int) + 1))).drew) := HG1.out.trans (Kp.of_grown ((grown_setCell' _ _ _ _).trans (grown_drew _ _)) (by rintro g e; injection e with e; exact Or.inl e.symm) (fun _ h => Or.inl h))
  clear c1 z1 HP1 HG1
  generalize (w1.setCell ⟨p, 27 + u, none⟩ (.int .i64 ((c : Int) + 1))).drew = w2 at *
  have c2 := HP2.out.cc 0 (by omega)
  have z2 := HP2.out.fz (27 + 0)
  rw [put_other _ _ _ _ (show (0 : Nat) ≠ u by omega)] at c2
  obtain ⟨d, hd⟩ : ∃ d, cn 0 = d + 1 := ⟨cn 0 - 1, by have := HC.out; omega⟩
  have HD : Hid (cn 0 = d + 1) := hd
  rw [hd] at c2 hb0
  clear hd
  go_wp2
  go_region
  have HP3 : Hid (Pp (w2.setCell ⟨p, 27, none⟩ (.int .i64 (d : Int))).drew m p ga b cap G bp P L tk (pt us fr (some u)) (put (put cn u (cn u + 1)) 0 (cn 0 - 1))) := by
    have := HP2.out.count 0 (by omega) (cn 0 - 1) HF.out
    rw [HD.out, show d + 1 - 1 = d by omega] at this
    rw [HD.out, show d + 1 - 1 = d by omega]
    exact this.of_eq (Nat.le_refl _) (fun _ _ => rfl)
  have HG3 : Hid (Kp (fun k => k = p ∨ k = b) (fun k => k = p ∨ k = b) w (w2.setCell ⟨p, 27, none⟩ (.int .i64 (d : Int))).drew) := HG2.out.trans (Kp.of_grown ((grown_setCell' _ _ _ _).trans (grown_drew _ _)) (by rintro g e; injection e with e; exact Or.inl e.symm) (fun _ h => Or.inl h))
  clear c2 z2 HP2 HG2
  generalize (w2.setCell ⟨p, 27, none⟩ (.int .i64 (d : Int))).drew = w3 at *
  go_wp2
  go_ret
  refine ⟨rfl, ?_, HG3.out⟩
  rw [← HCU.out]
  exact HP3.out
end Go.Proofs.YtkbpnkjjmipjfaaGreat.P
