/- What the reference's Frames and Count give back: as the program's; no condition. -/
import Derived.Test.YtoondpgdodmngaaFr
namespace Go.Proofs.Ytoondpgdodmngaa
open Go.ChangeShapes Go.WideShapes Go.ChangeAt Go.RowKit
set_option linter.unusedVariables false

theorem okP_lt {n : Int} {l : Nat} {f : Nat → Int} (h : okP n l f) : ∀ d i : Nat, i + d + 1 < l → f i < f (i + d + 1) := by
  intro d
  induction d with
  | zero => intro i hi; exact h.2 i hi
  | succ d ih =>
    intro i hi
    have h1 := ih i (by omega)
    have h2 := h.2 (i + d + 1) (by omega)
    have e : i + (d + 1) + 1 = i + d + 1 + 1 := by omega
    rw [e]
    omega
theorem okP_mono {n : Int} {l : Nat} {f : Nat → Int} (h : okP n l f) {i j : Nat} (hij : i < j) (hj : j < l) : f i < f j := by
  have := okP_lt h (j - i - 1) i (by omega)
  rwa [show i + (j - i - 1) + 1 = j by omega] at this
theorem okP_ge {n : Int} {l : Nat} {f : Nat → Int} (h : okP n l f) : ∀ i : Nat, i < l → (i : Int) ≤ f i := by
  intro i
  induction i with
  | zero => intro hi; have := (h.1 0 hi).1; omega
  | succ i ih =>
    intro hi
    have h1 := ih (by omega)
    have h2 := h.2 i hi
    omega
theorem okP_len {n : Int} {l : Nat} {f : Nat → Int} (h : okP n l f) (hn : 0 ≤ n) : (l : Int) ≤ n := by
  cases l with
  | zero => exact hn
  | succ k =>
    have h1 := okP_ge h k (by omega)
    have h2 := (h.1 k (by omega)).2
    omega
theorem okP_fresh {n : Int} {l : Nat} {f : Nat → Int} (h : okP n l f) {j : Nat} (hj : j < l) : has j f (f j) = false := by
  cases q : has j f (f j)
  · rfl
  · exfalso
    obtain ⟨i, hi, e⟩ := has_iff.1 q
    have := okP_mono h hi hj
    omega
set_option maxRecDepth 20000 in
set_option maxHeartbeats 1000000 in
theorem rFrames_no {w : World} {a : Option Addr} {l c : Nat} {f : Nat → Int} {F n : Int} (hl : l ≤ maxLen) (hA : Arg w a l f) (h : ¬ ((1 ≤ F ∧ F ≤ 4096) ∧ okL n l f)) :
    Calls Try.prog 17 #[.int .i64 F, .int .i64 n, .slice a l c] w fun e w' => e = .returned (.tuple #[.slice none 0 0, .int .i64 2]) ∧ Below w.heap.size w w' := by
  unfold maxLen at hl
  have HA : Hid (Arg w a l f) := hA
  clear hA
  cases ha : inB F 1 4096
  · go_enter Try.func17, Try.ntmps17
    go_wp2_with (first | (go_at_call 27; refine (Within_any _ _ _ _).mono ?_; rintro e w' ⟨rfl, hw'⟩; obtain rfl := hw'.symm) | (go_at_call 28; refine (rcolours_any _ _).mono ?_; rintro e w' ⟨rfl, hw'⟩; obtain rfl := hw'.symm))
    go_ret2
    exact ⟨rfl, Below.refl _ _⟩
  · cases hb : inB n 1 16
    · go_enter Try.func17, Try.ntmps17
      go_wp2_with (first | (go_at_call 27; refine (Within_any _ _ _ _).mono ?_; rintro e w' ⟨rfl, hw'⟩; obtain rfl := hw'.symm) | (go_at_call 28; refine (rcolours_any _ _).mono ?_; rintro e w' ⟨rfl, hw'⟩; obtain rfl := hw'.symm))
      go_ret2
      exact ⟨rfl, Below.refl _ _⟩
    · have hn := inB_iff.1 hb
      have HN : Hid (¬ okP n l f) := fun q => h ⟨inB_iff.1 ha, hn, q⟩
      clear h
      by_cases hln : n < (l : Int)
      · go_enter Try.func17, Try.ntmps17
        go_wp2_with (first | (go_at_call 27; refine (Within_any _ _ _ _).mono ?_; rintro e w' ⟨rfl, hw'⟩; obtain rfl := hw'.symm) | (go_at_call 28; refine (rcolours_any _ _).mono ?_; rintro e w' ⟨rfl, hw'⟩; obtain rfl := hw'.symm))
        go_ret2
        exact ⟨rfl, Below.refl _ _⟩
      · go_enter Try.func17, Try.ntmps17
        go_wp2_with (first | (go_at_call 27; refine (Within_any _ _ _ _).mono ?_; rintro e w' ⟨rfl, hw'⟩; obtain rfl := hw'.symm) | (go_at_call 28; refine (rcolours_any _ _).mono ?_; rintro e w' ⟨rfl, hw'⟩; obtain rfl := hw'.symm))
        go_loopw [8] (fun i wr => ∃ j : Nat, j ≤ l ∧ i = .int .i64 j ∧ okP n j f ∧ Below w.heap.size w wr) (fun i _ => l - (intOf i).toNat)
        case atStart => exact ⟨0, by omega, rfl, okP_zero _ _, Below.refl _ _⟩
        case round =>
          obtain ⟨j, hj, rfl, hP, hb0⟩ := hrel
          have HL : Hid (Below w.heap.size w wr) := hb0
          clear hb0
          have HP : Hid (okP n j f) := hP
          clear hP
          by_cases hlt : j < l
          · obtain ⟨b, off, rfl, hc⟩ := HA.out.at' HL.out hlt
            have HS : Hid (∀ x, f j = x → inB x 0 (n - 1) = true → la f j < x → okP n (j + 1) f) := fun x hx q1 q2 => by
              have := inB_iff.1 q1
              exact okP_succ.2 ⟨HP.out, by rw [hx]; exact ⟨this.1, by omega⟩, by rw [hx]; exact q2⟩
            have hn1 : n - 1 ≤ 15 := by omega
            have hw1 : IntKind.i64.wrap (n - 1) = n - 1 := IntWalk.i64_in _ (by omega)
            by_cases hj0 : j = 0
            · subst hj0
              replace hc : wr.cell? ⟨b, off, none⟩ = some (.int .i64 (f 0)) := hc
              generalize f 0 = x at *
              have g0 : decide (((0 : Nat) : Int) > 0) = false := by decide
              have g1 : decide ((0 : Int) < ((0 : Nat) : Int)) = false := by decide
              cases hx : inB x 0 (n - 1)
              · have CW : Hid (∀ w, Calls Try.prog 27 #[.int .i64 x, .int .i64 0, .int .i64 (n - 1)] w fun e w' => e = .returned (.bool false) ∧ w' = w) := fun w => by rw [← hx]; exact Within_any x 0 (n - 1) w
                go_wp2_with fail
                go_quiet ((go_at_call 27; exact Calls.quiet_of_same (CW.out _)))
                go_wp2
                go_ret2
                exact ⟨rfl, below_drewN HL.out _⟩
              · have CW : Hid (∀ w, Calls Try.prog 27 #[.int .i64 x, .int .i64 0, .int .i64 (n - 1)] w fun e w' => e = .returned (.bool true) ∧ w' = w) := fun w => by rw [← hx]; exact Within_any x 0 (n - 1) w
                go_wp2_with fail
                go_quiet ((go_at_call 27; exact Calls.quiet_of_same (CW.out _)))
                go_wp2
                go_roundw
                case rel => exact ⟨1, by omega, by go_num, HS.out x rfl hx (by have := inB_iff.1 hx; rw [la_zero]; omega), below_drewN HL.out _⟩
                case measure => simp [intOf]; omega
            · obtain ⟨i, hi⟩ : ∃ i, j = i + 1 := ⟨j - 1, by omega⟩
              have hd := HA.out.at' HL.out (show i < l by omega)
              obtain ⟨b', off', e', hd⟩ := hd
              cases e'
              have HS' : Hid (∀ x, f j = x → inB x 0 (n - 1) = true → f i < x → okP n (j + 1) f) := fun x hx q1 q2 => HS.out x hx q1 (by rw [hi, la_succ]; exact q2)
              clear HS
              generalize f j = x at *
              generalize f i = y at *
              have g0 : (0 : Int) < (j : Int) := by omega
              have g4 : 0 < j := by omega
              have g1 : (j : Int) - 1 = (i : Int) := by omega
              have g2 : (i : Int) < (l : Int) := by omega
              have g3 : (j : Int) < (l : Int) := by omega
              clear hi
              cases hx : inB x 0 (n - 1)
              · have CW : Hid (∀ w, Calls Try.prog 27 #[.int .i64 x, .int .i64 0, .int .i64 (n - 1)] w fun e w' => e = .returned (.bool false) ∧ w' = w) := fun w => by rw [← hx]; exact Within_any x 0 (n - 1) w
                go_wp2_with fail
                go_quiet ((go_at_call 27; exact Calls.quiet_of_same (CW.out _)))
                go_wp2
                go_ret2
                exact ⟨rfl, below_drewN HL.out _⟩
              · have CW : Hid (∀ w, Calls Try.prog 27 #[.int .i64 x, .int .i64 0, .int .i64 (n - 1)] w fun e w' => e = .returned (.bool true) ∧ w' = w) := fun w => by rw [← hx]; exact Within_any x 0 (n - 1) w
                by_cases hy : x ≤ y
                · go_wp2_with fail
                  go_quiet ((go_at_call 27; exact Calls.quiet_of_same (CW.out _)))
                  go_wp2
                  go_ret2
                  exact ⟨rfl, below_drewN HL.out _⟩
                · go_wp2_with fail
                  go_quiet ((go_at_call 27; exact Calls.quiet_of_same (CW.out _)))
                  go_wp2
                  go_roundw
                  case rel => exact ⟨j + 1, by omega, by go_num, HS'.out x rfl hx (by omega), below_drewN HL.out _⟩
                  case measure => simp [intOf]; omega
          · exfalso
            obtain rfl : j = l := by omega
            exact HN.out HP.out
/-- The frame k, if one of the first j numbers is its colour. -/
def on (j : Nat) (f : Nat → Int) (r k : Int) : List Int := if has j f r then [k] else []
theorem on_zero (f : Nat → Int) (r k : Int) : on 0 f r k = [] := by simp [on, has_zero]
theorem on_len (j : Nat) (f : Nat → Int) (r k : Int) : (on j f r k).length ≤ 1 := by unfold on; split <;> simp
theorem on_skip (j : Nat) (f : Nat → Int) (r k : Int) (h : ¬ r = f j) : on (j + 1) f r k = on j f r k := by
  have e : (f j == r) = false := by simpa using fun q => h q.symm
  simp [on, has_succ, e]
theorem on_hit {n : Int} {l : Nat} {f : Nat → Int} (hp : okP n l f) (j : Nat) (hj : j < l) (r k : Int) (h : r = f j) : on j f r k = [] ∧ on (j + 1) f r k = [k] := by
  subst h
  simp [on, has_succ, okP_fresh hp hj]
theorem fr_on (k : Nat) (n : Int) (l : Nat) (f : Nat → Int) : fr (k + 1) n l f = fr k n l f ++ on l f ((k : Int) % n) k := fr_succ k n l f
set_option maxRecDepth 20000 in
set_option maxHeartbeats 1000000 in
theorem rFrames_ok {w : World} {a : Option Addr} {l c : Nat} {f : Nat → Int} {F : Nat} {n : Int} (hl : l ≤ maxLen) (hA : Arg w a l f) (hF : 1 ≤ F ∧ F ≤ 4096) (h : okL n l f) :
    Calls Try.prog 17 #[.int .i64 F, .int .i64 n, .slice a l c] w (Frd w F n l f) := by
  unfold maxLen at hl
  have HA : Hid (Arg w a l f) := hA
  have HO : Hid (okP n l f) := h.2
  obtain ⟨n1, n2⟩ := h.1
  have ha : inB F 1 4096 = true := inB_t (by omega) (by omega)
  have hb : inB n 1 16 = true := inB_t n1 n2
  have hln : (l : Int) ≤ n := okP_len h.2 (by omega)
  obtain ⟨i0, hi, hz0, hz1, hz2⟩ := info_parts Try.infoI
  clear hA h
  go_enter Try.func17, Try.ntmps17
  go_wp2_with (first | (go_at_call 27; refine (Within_any _ _ _ _).mono ?_; rintro e w' ⟨rfl, hw'⟩; obtain rfl := hw'.symm) | (go_at_call 28; refine (rcolours_any _ _).mono ?_; rintro e w' ⟨rfl, hw'⟩; obtain rfl := hw'.symm))
  go_loopw [8] (fun i wr => ∃ j : Nat, j ≤ l ∧ i = .int .i64 j ∧ Below w.heap.size w wr) (fun i _ => l - (intOf i).toNat)
  case atStart => exact ⟨0, by omega, rfl, Below.refl _ _⟩
  case round =>
    obtain ⟨j, hj, rfl, hb0⟩ := hrel
    have HL : Hid (Below w.heap.size w wr) := hb0
    clear hb0
    by_cases hlt : j < l
    · obtain ⟨b, off, rfl, hc⟩ := HA.out.at' HL.out hlt
      obtain ⟨x0, x1⟩ := HO.out.1 j hlt
      by_cases hj0 : j = 0
      · subst hj0
        replace hc : wr.cell? ⟨b, off, none⟩ = some (.int .i64 (f 0)) := hc
        generalize f 0 = x at *
        have g0 : decide (((0 : Nat) : Int) > 0) = false := by decide
        have g1 : decide ((0 : Int) < ((0 : Nat) : Int)) = false := by decide
        have hx : inB x 0 (n - 1) = true := inB_t x0 (by omega)
        have CW : Hid (∀ w, Calls Try.prog 27 #[.int .i64 x, .int .i64 0, .int .i64 (n - 1)] w fun e w' => e = .returned (.bool true) ∧ w' = w) := fun w => by rw [← hx]; exact Within_any x 0 (n - 1) w
        go_wp2_with fail
        go_quiet ((go_at_call 27; exact Calls.quiet_of_same (CW.out _)))
        go_wp2
        go_roundw
        case rel => exact ⟨1, by omega, by go_num, below_drewN HL.out _⟩
        case measure => simp [intOf]; omega
      · obtain ⟨i, hi'⟩ : ∃ i, j = i + 1 := ⟨j - 1, by omega⟩
        have hd := HA.out.at' HL.out (show i < l by omega)
        obtain ⟨b', off', e', hd⟩ := hd
        cases e'
        have hy : ¬ f j ≤ f i := by have := HO.out.2 i (by omega); rw [hi']; omega
        generalize f j = x at *
        generalize f i = y at *
        have g0 : (0 : Int) < (j : Int) := by omega
        have g4 : 0 < j := by omega
        have g1 : (j : Int) - 1 = (i : Int) := by omega
        have g2 : (i : Int) < (l : Int) := by omega
        have g3 : (j : Int) < (l : Int) := by omega
        have hx : inB x 0 (n - 1) = true := inB_t x0 (by omega)
        have CW : Hid (∀ w, Calls Try.prog 27 #[.int .i64 x, .int .i64 0, .int .i64 (n - 1)] w fun e w' => e = .returned (.bool true) ∧ w' = w) := fun w => by rw [← hx]; exact Within_any x 0 (n - 1) w
        clear hi'
        go_wp2_with fail
        go_quiet ((go_at_call 27; exact Calls.quiet_of_same (CW.out _)))
        go_wp2
        go_roundw
        case rel => exact ⟨j + 1, by omega, by go_num, below_drewN HL.out _⟩
        case measure => simp [intOf]; omega
    · obtain rfl : j = l := by omega
      go_wp2
      go_loopw [9, 10, 11] (fun v i q wr => ∃ (k : Nat) (vv qq : Value), vv = v ∧ qq = q ∧ k ≤ F ∧ i = .int .i64 k ∧ Is wr w.heap.size v (fr k n j f) ∧ Below w.heap.size w wr) (fun _ i _ _ => F - (intOf i).toNat)
      case atStart => exact ⟨0, _, _, rfl, rfl, by omega, rfl, Is.nil _ _, HL.out⟩
      case round =>
        clear HL
        obtain ⟨k, v, qq, hvv, hqq, hk, rfl, hI, hb0⟩ := hrel
        subst hvv hqq
        have HL : Hid (Below w.heap.size w wr) := hb0
        have HI : Hid (Is wr w.heap.size v (fr k n j f)) := hI
        have hlen : (fr k n j f).length ≤ F := Nat.le_trans (fr_len k n j f) hk
        clear hb0 hI
        by_cases hlt : k < F
        · obtain ⟨r, hr⟩ : ∃ r, r = (k : Int) % n := ⟨_, rfl⟩
          have hm : (k : Int).tmod n = r := (Int.tmod_eq_emod_of_nonneg (by omega)).trans hr.symm
          have r0 : 0 ≤ r := by rw [hr]; exact Int.emod_nonneg _ (by omega)
          have r1 : r < 16 := by have := Int.emod_lt_of_pos (k : Int) (show 0 < n by omega); omega
          have hn0 : ¬ n = 0 := by omega
          have HR : Hid (fr (k + 1) n j f = fr k n j f ++ on j f r k) := by unfold Hid; rw [fr_on, hr]
          clear hr
          go_wp2
          generalize hR : wr = R at *
          clear hR
          go_loopw [9, 11] (fun v q wr => ∃ (t : Nat) (vv : Value), vv = v ∧ t ≤ j ∧ q = .int .i64 t ∧ Is wr w.heap.size v (fr k n j f ++ on t f r k) ∧ Below w.heap.size w wr) (fun _ q _ => j - (intOf q).toNat)
          case atStart => exact ⟨0, _, rfl, by omega, rfl, by rw [on_zero, List.append_nil]; exact HI.out, HL.out⟩
          case round =>
            clear HL HI
            obtain ⟨t, v, hvv, ht, rfl, hI, hb0⟩ := hrel
            subst hvv
            have HL : Hid (Below w.heap.size w wr) := hb0
            have HI : Hid (Is wr w.heap.size v (fr k n j f ++ on t f r k)) := hI
            clear hb0 hI
            by_cases hlt2 : t < j
            · obtain ⟨b, off, rfl, hc⟩ := HA.out.at' HL.out hlt2
              have hlen2 := on_len t f r k
              by_cases hx : r = f t
              · obtain ⟨e1, e2⟩ := on_hit HO.out t hlt2 r k hx
                rw [e1, List.append_nil] at HI
                have HN : Hid (fr k n j f ++ on (t + 1) f r k = fr k n j f ++ [(k : Int)]) := by unfold Hid; rw [e2]
                clear e1 e2 hlen2
                rw [← hx] at hc
                have hq : (r == r) = true := by simp
                have hsz := HL.out.size
                clear hx
                go_wp2_with fail
                go_quiet (fail)
                have HL' : Hid (Below w.heap.size w (wr.drewN nq)) := below_drewN HL.out _
                have HI' : Hid (Is (wr.drewN nq) w.heap.size v (fr k n j f)) := HI.out
                have hsz' : w.heap.size ≤ (wr.drewN nq).heap.size := hsz
                generalize wr.drewN nq = wq at *
                go_wp2_with (at_builtin; refine wpList_append_own _ rfl (.tmp 75) (.tmp 77) 28 rfl w.heap.size 3 i0 _ 1 8 Try.underlying28 hi hz0 hz1 hz2 rfl (by decide) _ (fr k n j f).length _ rfl (HI'.out.alloc _) ⟨wq.heap.size, 0, none⟩ 1 1 [.int .i64 k] rfl rfl (cell_one_new _ _ _) (by intro u hu; simp at hu; subst hu; rfl) (by unfold maxLen; omega) (by omega) (by simp; omega) ?_; intro v2 w2 o2 gr2 nil2)
                go_roundw
                case rel =>
                  refine ⟨t + 1, _, rfl, by omega, by go_num, ?_, (HL'.out.alloc hsz' _).grown gr2 (by simp; omega) (fun t ht => (HI'.out.lt t ht).1)⟩
                  rw [HN.out]
                  unfold Is
                  rw [enI_snoc, List.length_append]
                  exact o2
                case measure => simp [intOf]; omega
              · have HN : Hid (fr k n j f ++ on (t + 1) f r k = fr k n j f ++ on t f r k) := by unfold Hid; rw [on_skip t f r k hx]
                have hq : (r == f t) = false := by simpa using hx
                clear hx
                generalize f t = x at *
                go_wp2_with fail
                go_quiet (fail)
                go_wp2
                go_roundw
                case rel => exact ⟨t + 1, _, rfl, by omega, by go_num, by rw [HN.out]; exact HI.out, below_drewN HL.out _⟩
                case measure => simp [intOf]; omega
            · obtain rfl : t = j := by omega
              go_wp2
              go_roundw
              case rel => exact ⟨k + 1, _, _, rfl, rfl, by omega, by go_num, by rw [HR.out]; exact HI.out, HL.out⟩
              case measure => simp [intOf]; omega
        · obtain rfl : k = F := by omega
          go_wp2
          go_ret2
          exact ⟨v, rfl, HI.out, HL.out⟩
end Go.Proofs.Ytoondpgdodmngaa
