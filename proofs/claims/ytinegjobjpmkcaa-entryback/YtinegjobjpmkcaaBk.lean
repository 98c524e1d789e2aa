/- EntryBack: an entry that may be comes back out of its word, a word that is read is made again, who may store may load; of every entry and word. -/
import Derived.Test.YtinegjobjpmkcaaMk
namespace Go.Proofs.Ytinegjobjpmkcaa
open Go.ChangeShapes Go.WideShapes Go.ChangeAt Go.RowKit
set_option linter.unusedVariables false

theorem al_less : ∀ (p s r u a d z n q f : Bool), mb p s r u a d z n q f = true → al p s r u true = 0 → al p s r u false = 0 := by
  decide
theorem zero_word {p s r u a d : Bool} {t : Int} (h : may p s r u a d t = true) : (lo p s r u a d + t * 256 == 0) = ez p s r u a d t := by
  obtain ⟨h0, h1⟩ := may_range h
  have hl := lo_range p s r u a d
  have e : (lo p s r u a d + t * 256 == 0) = (lo p s r u a d == 0 && t == 0) := by
    rw [Bool.eq_iff_iff]
    simp only [beq_iff_eq, Bool.and_eq_true]
    omega
  rw [e]
  unfold ez eqE
  generalize (t == 0) = z
  clear e hl h0 h1 h
  revert p s r u a d z
  decide
theorem Read_word {p s r u a d : Bool} {t : Int} (h : may p s r u a d t = true) (w : World) : Calls Try.prog 14 #[.int .u64 (lo p s r u a d + t * 256)] w fun e w' => e = .returned (.tuple #[.agg #[.bool p, .bool s, .bool r, .bool u, .bool a, .bool d, .int .i64 t], .int .i64 0]) ∧ Below w.heap.size w w' := by
  obtain ⟨h0, h1⟩ := may_range h
  have hl := lo_range p s r u a d
  obtain ⟨k1, k2, k3, k4, k5, k6⟩ := fb_word p s r u a d t h0 h1
  have C := Read_ok (lo p s r u a d + t * 256) (by omega) (by omega) (by rw [mayW_word p s r u a d t h0 h1]; exact h) w
  rw [k1, k2, k3, k4, k5, k6, show (lo p s r u a d + t * 256) / 256 = t by omega] at C
  exact C
/-- What Read and then Make say of any word. -/
theorem again (n : Int) (h0 : 0 ≤ n) (h1 : n < 18446744073709551616) : (∀ w, Hid (Calls Try.prog 14 #[.int .u64 n] w fun e w' => e = .returned (.tuple #[.agg #[.bool false, .bool false, .bool false, .bool false, .bool false, .bool false, .int .i64 0], .int .i64 70]) ∧ Below w.heap.size w w')) ∨
    ∃ p s r u a d t, (∀ w, Hid (Calls Try.prog 14 #[.int .u64 n] w fun e w' => e = .returned (.tuple #[.agg #[.bool p, .bool s, .bool r, .bool u, .bool a, .bool d, .int .i64 t], .int .i64 0]) ∧ Below w.heap.size w w')) ∧ (∀ w, Hid (Calls Try.prog 7 #[.agg #[.bool p, .bool s, .bool r, .bool u, .bool a, .bool d, .int .i64 t]] w fun e w' => e = .returned (.tuple #[.int .u64 n, .int .i64 0]) ∧ Below w.heap.size w w')) := by
  cases hm : mayW n
  · exact Or.inl fun w => Read_no n h0 h1 hm w
  · right
    refine ⟨_, _, _, _, _, _, _, fun w => Read_ok n h0 h1 hm w, fun w => ?_⟩
    unfold mayW at hm
    rw [Bool.and_eq_true] at hm
    have C := Make_ok _ _ _ _ _ _ _ hm.2 w
    rw [word_back n h0 h1 (by simpa using hm.1)] at C
    exact C
set_option maxHeartbeats 1000000 in
theorem back_any (p s r u a d : Bool) (t n : Int) (h0 : 0 ≤ n) (h1 : n < 18446744073709551616) (w : World) : Calls Try.prog 5 #[.agg #[.bool p, .bool s, .bool r, .bool u, .bool a, .bool d, .int .i64 t], .int .u64 n] w fun e w' => e = .returned (.bool true) ∧ Below w.heap.size w w' := by
  have AG : Hid _ := again n h0 h1
  have CC : ∀ w, Hid (Calls Try.prog 9 #[.agg #[.bool p, .bool s, .bool r, .bool u, .bool a, .bool d, .int .i64 t]] w fun e w' => e = .returned (.int .i64 (er (may p s r u a d t))) ∧ Below w.heap.size w w') := fun w => Check_any p s r u a d t w
  go_enter Try.func5, Try.ntmps5
  go_wp2_with fail
  have B0 : Hid (Bx w (w.alloc (.cells #[.bool p, .bool s, .bool r, .bool u, .bool a, .bool d, .int .i64 t] 23)) w.heap.size p s r u a d t) := bx_new w p s r u a d t
  generalize (w.alloc (.cells #[.bool p, .bool s, .bool r, .bool u, .bool a, .bool d, .int .i64 t] 23)) = w0 at *
  generalize hb : w.heap.size = b at *
  refine (awake_any _).mono ?_
  rintro e w1 ⟨rfl, k1⟩
  have B1 : Hid (Bx w w1 b p s r u a d t) := B0.out.below k1
  obtain ⟨_, c0, c1, c2, c3, c4, c5, c6⟩ := B1.out.cs
  clear k1 B0
  cases hm : may p s r u a d t
  case' false =>
    rw [hm] at CC
    have CM : ∀ w, Hid (Calls Try.prog 7 #[.agg #[.bool p, .bool s, .bool r, .bool u, .bool a, .bool d, .int .i64 t]] w fun e w' => e = .returned (.tuple #[.int .u64 0, .int .i64 70]) ∧ Below w.heap.size w w') := fun w => Make_no p s r u a d t hm w
    clear hm
    go_wp2_with fail
    refine (CM _).out.mono ?_
    rintro e w2 ⟨rfl, k2⟩
    have B2 : Hid (Bx w w2 b p s r u a d t) := B1.out.below k2
    clear k2 B1 c0 c1 c2 c3 c4 c5 c6
    obtain ⟨_, c0, c1, c2, c3, c4, c5, c6⟩ := B2.out.cs
    go_wp2_with fail
    refine (CC _).out.mono ?_
    rintro e w3 ⟨rfl, k3⟩
    have B3 : Hid (Bx w w3 b p s r u a d t) := B2.out.below k3
    clear k3 B2 c0 c1 c2 c3 c4 c5 c6
    rw [show er false = 70 from rfl]
    go_wp2_with fail
    have K : Hid (Below w.heap.size w w3) := B3.out.be
    clear B3 CM CC
    generalize w3 = wx at *
  case' true =>
    rw [hm] at CC
    have CM : ∀ w, Hid (Calls Try.prog 7 #[.agg #[.bool p, .bool s, .bool r, .bool u, .bool a, .bool d, .int .i64 t]] w fun e w' => e = .returned (.tuple #[.int .u64 (lo p s r u a d + t * 256), .int .i64 0]) ∧ Below w.heap.size w w') := fun w => Make_ok p s r u a d t hm w
    have CR : ∀ w, Hid (Calls Try.prog 14 #[.int .u64 (lo p s r u a d + t * 256)] w fun e w' => e = .returned (.tuple #[.agg #[.bool p, .bool s, .bool r, .bool u, .bool a, .bool d, .int .i64 t], .int .i64 0]) ∧ Below w.heap.size w w') := fun w => Read_word hm w
    have A1 : ∀ w, Hid (Calls Try.prog 11 #[.agg #[.bool p, .bool s, .bool r, .bool u, .bool a, .bool d, .int .i64 t], .bool true] w fun e w' => e = .returned (.tuple #[.int .u8 (al p s r u true), .int .i64 0]) ∧ Below w.heap.size w w') := fun w => Allows_ok p s r u a d t true hm w
    have A2 : ∀ w, Hid (Calls Try.prog 11 #[.agg #[.bool p, .bool s, .bool r, .bool u, .bool a, .bool d, .int .i64 t], .bool false] w fun e w' => e = .returned (.tuple #[.int .u8 (al p s r u false), .int .i64 0]) ∧ Below w.heap.size w w') := fun w => Allows_ok p s r u a d t false hm w
    have hz := zero_word hm
    have ha : Hid (al p s r u true = 0 → al p s r u false = 0) := al_less _ _ _ _ _ _ _ _ _ _ hm
    have hq := eq_run p s r u a d t false false false false false false 0
    rw [show eqE p s r u a d t false false false false false false 0 = ez p s r u a d t from rfl] at hq
    have hn := ne_run p s r u a d t p s r u a d t
    rw [eqE_self] at hn
    clear hm
    generalize lo p s r u a d + t * 256 = V at *
    generalize ez p s r u a d t = Z at *
    generalize al p s r u true = X at *
    generalize al p s r u false = Y at *
    go_wp2_with fail
    refine (CM _).out.mono ?_
    rintro e w2 ⟨rfl, k2⟩
    have B2 : Hid (Bx w w2 b p s r u a d t) := B1.out.below k2
    clear k2 B1 c0 c1 c2 c3 c4 c5 c6
    obtain ⟨_, c0, c1, c2, c3, c4, c5, c6⟩ := B2.out.cs
    go_wp2_with fail
    refine (CC _).out.mono ?_
    rintro e w3 ⟨rfl, k3⟩
    have B3 : Hid (Bx w w3 b p s r u a d t) := B2.out.below k3
    clear k3 B2 c0 c1 c2 c3 c4 c5 c6
    rw [show er true = 0 from rfl]
    go_wp2_with fail
    refine (CR _).out.mono ?_
    rintro e w4 ⟨rfl, k4⟩
    have B4 : Hid (Bx w w4 b p s r u a d t) := B3.out.below k4
    have S4 : Hid (Sev (w4.alloc (.cells #[.bool p, .bool s, .bool r, .bool u, .bool a, .bool d, .int .i64 t] 23)) w4.heap.size p s r u a d t) := sev_new w4 p s r u a d t
    have B5 : Hid (Bx w (w4.alloc (.cells #[.bool p, .bool s, .bool r, .bool u, .bool a, .bool d, .int .i64 t] 23)) b p s r u a d t) := B4.out.below (below_new _ _)
    clear k4 B3 B4
    obtain ⟨_, c0, c1, c2, c3, c4, c5, c6⟩ := B5.out.cs
    go_wp2_with fail
    generalize w4.alloc (.cells #[.bool p, .bool s, .bool r, .bool u, .bool a, .bool d, .int .i64 t] 23) = w5 at *
    generalize w4.heap.size = b4 at *
    refine (A1 _).out.mono ?_
    rintro e w6 ⟨rfl, k6⟩
    have B6 : Hid (Bx w w6 b p s r u a d t) := B5.out.below k6
    have S6 : Hid (Sev w6 b4 p s r u a d t) := S4.out.below k6
    clear k6 B5 S4 c0 c1 c2 c3 c4 c5 c6
    obtain ⟨_, c0, c1, c2, c3, c4, c5, c6⟩ := B6.out.cs
    go_wp2_with fail
    refine (A2 _).out.mono ?_
    rintro e w7 ⟨rfl, k7⟩
    have B7 : Hid (Bx w w7 b p s r u a d t) := B6.out.below k7
    have S7 : Hid (Sev w7 b4 p s r u a d t) := S6.out.below k7
    clear k7 B6 S6 c0 c1 c2 c3 c4 c5 c6
    obtain ⟨_, c0, c1, c2, c3, c4, c5, c6⟩ := B7.out.cs
    obtain ⟨_, d0, d1, d2, d3, d4, d5, d6⟩ := S7.out
    clear CM CC CR A1 A2
    have K : Hid (Below w.heap.size w w7) := B7.out.be
    clear B7 S7
    generalize w7 = wx at *
    have hx : (X = 0 ∧ Y = 0) ∨ (X == 0) = false := by
      by_cases e : X = 0
      · exact Or.inl ⟨e, ha.out e⟩
      · exact Or.inr (by simpa using e)
    clear ha
    rcases hx with ⟨rfl, rfl⟩ | hx <;> go_wp2_with fail
    all_goals clear hz hq hn c0 c1 c2 c3 c4 c5 c6 d0 d1 d2 d3 d4 d5 d6
  all_goals (
    rcases AG.out with CR | ⟨p', s', r', u', a', d', t', CR, CM⟩
    · have hq := eq_run false false false false false false 0 false false false false false false 0
      rw [eqE_self] at hq
      refine (CR _).out.mono ?_
      rintro e w8 ⟨rfl, k8⟩
      have K8 : Hid (Below w.heap.size w (w8.alloc (.cells #[.bool false, .bool false, .bool false, .bool false, .bool false, .bool false, .int .i64 0] 23))) := (K.out.trans (k8.mono K.out.size)).alloc ((K.out.trans (k8.mono K.out.size))).size _
      clear k8 K AG CR
      go_wp2
      go_ret
      subst hb
      exact ⟨rfl, K8.out⟩
    · refine (CR _).out.mono ?_
      rintro e w8 ⟨rfl, k8⟩
      have K8 : Hid (Below w.heap.size w (w8.alloc (.cells #[.bool p', .bool s', .bool r', .bool u', .bool a', .bool d', .int .i64 t'] 23))) := (K.out.trans (k8.mono K.out.size)).alloc ((K.out.trans (k8.mono K.out.size))).size _
      clear k8 K AG CR
      go_wp2_with fail
      refine (CM _).out.mono ?_
      rintro e w9 ⟨rfl, k9⟩
      have K9 : Hid (Below w.heap.size w w9) := K8.out.trans (k9.mono K8.out.size)
      clear k9 K8 CM
      go_wp2
      go_ret
      subst hb
      exact ⟨rfl, K9.out⟩)
end Go.Proofs.Ytinegjobjpmkcaa
