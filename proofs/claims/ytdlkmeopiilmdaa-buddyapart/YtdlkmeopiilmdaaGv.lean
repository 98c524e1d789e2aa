/- What Give, Free, Lists and Whole of package buddy give back and write; no condition but the ranges that each theorem names. -/
import Derived.Test.YtdlkmeopiilmdaaJn
namespace Go.Proofs.Ytdlkmeopiilmdaa
open Go.ChangeShapes Go.WideShapes Go.ChangeAt Go.RowKit
set_option linter.unusedVariables false

theorem Give_nil {w : World} {q : Option Addr} (hN : NoB w q) (a o : Int) : Calls Try.prog 13 #[.pointer q, .int .i64 a, .int .i64 o] w fun e w' => e = .returned (.int .i64 1) ∧ w' = w := by
  have C1 : Hid (Calls _ _ _ _ _) := made_nil hN
  clear hN
  go_enter Try.func13, Try.ntmps13
  go_wp2_with (go_at_call 27; refine C1.out.mono ?_; rintro e w' ⟨rfl, rfl⟩)
  go_ret
  exact ⟨rfl, rfl⟩
theorem Give_no {w : World} {G : Nat → Prop} {p : Nat} {L : Nat → List Nat} {tk : Nat → Option Nat} (h : Bu w G p L tk) (a o : Int) (ho : o < 0 ∨ 6 < o ∨ a < 0) : Calls Try.prog 13 #[.pointer (some ⟨p, 0, none⟩), .int .i64 a, .int .i64 o] w fun e w' => e = .returned (.int .i64 2) ∧ w' = w := by
  have C1 : Hid (Calls _ _ _ _ _) := made_any h
  have C2 : Hid (Calls _ _ _ _ _) := order_any o w
  clear h
  by_cases hb : 0 ≤ o ∧ o ≤ 6
  · have hb' : (decide (0 ≤ o) && decide (o ≤ 6)) = true := by simp; omega
    have ha : a < 0 := by omega
    rw [hb'] at C2
    clear hb' hb ho
    go_enter Try.func13, Try.ntmps13
    go_wp2_with (first | (go_at_call 27; refine C1.out.mono ?_; rintro e w' ⟨rfl, h⟩; obtain rfl := h.symm) | (go_at_call 28; refine C2.out.mono ?_; rintro e w' ⟨rfl, h⟩; obtain rfl := h.symm))
    go_ret
    exact ⟨rfl, rfl⟩
  · have hb' : (decide (0 ≤ o) && decide (o ≤ 6)) = false := by simp; omega
    rw [hb'] at C2
    clear hb' hb ho
    go_enter Try.func13, Try.ntmps13
    go_wp2_with (first | (go_at_call 27; refine C1.out.mono ?_; rintro e w' ⟨rfl, h⟩; obtain rfl := h.symm) | (go_at_call 28; refine C2.out.mono ?_; rintro e w' ⟨rfl, h⟩; obtain rfl := h.symm))
    go_ret
    exact ⟨rfl, rfl⟩
/-- Not taken as such. -/
theorem Give_tk {w : World} {G : Nat → Prop} {p : Nat} {L : Nat → List Nat} {tk : Nat → Option Nat} (h : Bu w G p L tk) (a o : Int) (h0 : 0 ≤ o) (h6 : o ≤ 6) (ha : 0 ≤ a) (ha' : a < 9223372036854775808) (hno : ∀ (x u : Nat), a = x → tk x = some u → o ≠ u) :
    Calls Try.prog 13 #[.pointer (some ⟨p, 0, none⟩), .int .i64 a, .int .i64 o] w fun e w' => e = .returned (.int .i64 91) ∧ w' = w := by
  have C1 : Hid (Calls _ _ _ _ _) := made_any h
  have C2 : Hid (Calls _ _ _ _ _) := order_any o w
  have hb' : (decide (0 ≤ o) && decide (o ≤ 6)) = true := by simp; omega
  rw [hb'] at C2
  obtain ⟨b, V, hP⟩ := h
  have hcm := hP.cm
  obtain ⟨x, hx⟩ : ∃ x : Nat, a = x := ⟨a.toNat, by omega⟩
  subst hx
  cases e : tk x with
  | none =>
    have hlk := hP.mp.look_none (j := (x : Int)) ha ha' (fun i hi => by obtain rfl : x = i := (by omega); exact e)
    clear hP hb' e hno ha ha'
    go_enter Try.func13, Try.ntmps13
    go_wp2_with (first | (go_at_call 27; refine C1.out.mono ?_; rintro e w' ⟨rfl, h⟩; obtain rfl := h.symm) | (go_at_call 28; refine C2.out.mono ?_; rintro e w' ⟨rfl, h⟩; obtain rfl := h.symm))
    go_ret
    exact ⟨rfl, rfl⟩
  | some u =>
    have hlk := hP.mp.look_some (Nat.le_refl _) e
    have hne := hno x u rfl e
    have hne' : ¬ ((u : Int) = o) := fun q => hne q.symm
    clear hP hb' e hno hne ha ha'
    go_enter Try.func13, Try.ntmps13
    go_wp2_with (first | (go_at_call 27; refine C1.out.mono ?_; rintro e w' ⟨rfl, h⟩; obtain rfl := h.symm) | (go_at_call 28; refine C2.out.mono ?_; rintro e w' ⟨rfl, h⟩; obtain rfl := h.symm))
    go_ret
    exact ⟨rfl, rfl⟩
theorem wpList_delete_at {w : World} {ops : Array Oper} {rest : List Oper} {o : Oper} {a : Act} {Q : Exit → Act → World → Prop} {R : World → Prop} (hgd : o.guard = none) (s x : Operand)
    (ho : o.op = .call { callee := .builtin .delete, args := #[s, x], argTypes := #[55, 3] }) (vs vx : Value) (hs : a.eval s = vs) (hx : a.eval x = vx)
    (hr : ∃ w', (Builtin.delete_ #[55, 3] o.type #[vs, vx]).run Try.prog w = .ok (.tuple #[]) w' ∧ R w') (h : ∀ w', R w' → wpList Try.prog ops Q rest (a.put o.dst (.tuple #[])) w') : wpList Try.prog ops Q (o :: rest) a w := by
  refine wpList_plain hgd fun K hK => ?_
  obtain ⟨w', hr, hR⟩ := hr
  unfold Oper.wp
  simp [execOp, ho, resolve, invoke, builtin, hs, hx, hr, Result.andThen]
  exact hK _ _ (h w' hR)
set_option maxHeartbeats 1000000 in
theorem Give_ok {w : World} {G : Nat → Prop} {p : Nat} {L : Nat → List Nat} {tk : Nat → Option Nat} (h : Bu w G p L tk) (hl : ∀ i, i < 7 → (L i).length ≤ 4096) (hs : ∀ i, i < 7 → (L i).Pairwise (· < ·)) (a o : Nat) (ha : a < 4096) (ho : o ≤ 6) (hao : a % 2 ^ o = 0) (ht : tk a = some o) :
    Calls Try.prog 13 #[.pointer (some ⟨p, 0, none⟩), .int .i64 a, .int .i64 o] w fun e w' => e = .returned (.int .i64 0) ∧ Jnd w G p L (pt tk a none) o a w' := by
  have C1 : Hid (Calls _ _ _ _ _) := made_any h
  have C2 : Hid (Calls _ _ _ _ _) := order_any o w
  have hb' : (decide ((0 : Int) ≤ (o : Int)) && decide ((o : Int) ≤ 6)) = true := by simp; omega
  rw [hb'] at C2
  obtain ⟨b, V, hP⟩ := h
  have HP : Hid (Bp w G p b V L tk) := hP
  have hcm := hP.cm
  have hlk := hP.mp.look_some (Nat.le_refl _) ht
  have HDE : Hid (∀ ty, ∃ w', (Builtin.delete_ #[55, 3] ty #[.map (some b), .int .i64 a]).run Try.prog w = .ok (.tuple #[]) w' ∧ (Mp w' b 4096 (pt tk a none) ∧ w.grownBy w' (some b))) := fun ty => hP.mp.drop a (by omega) ty
  have HL : Hid (∀ i, i < 7 → (L i).length ≤ 4096) := hl
  have HSO : Hid (∀ i, i < 7 → (L i).Pairwise (· < ·)) := hs
  have HAO : Hid (a % 2 ^ o = 0) := hao
  clear hP hb' ht hl hs hao
  go_enter Try.func13, Try.ntmps13
  go_wp2_with (first | (go_at_call 27; refine C1.out.mono ?_; rintro e w' ⟨rfl, h⟩; obtain rfl := h.symm) | (go_at_call 28; refine C2.out.mono ?_; rintro e w' ⟨rfl, h⟩; obtain rfl := h.symm) | (at_delete; refine wpList_delete_at rfl (.tmp 38) (.tmp 39) rfl _ _ rfl rfl (HDE.out _) ?_; rintro w3 ⟨hM3, hG3⟩))
  obtain ⟨B3, K3⟩ := HP.out.mapped hG3 hM3
  have HK3 : Hid (Kp G G w w3) := K3
  have CJ : Hid (Calls _ _ _ _ _) := join_ok ⟨b, V, B3⟩ HL.out HSO.out a o ha ho HAO.out
  clear B3 K3 hM3 hG3 HDE hlk hcm HP
  refine CJ.out.mono ?_
  rintro e w4 ⟨rfl, hJ⟩
  have HJ : Hid (Jnd w G p L (pt tk a none) o a w4) := by
    obtain ⟨J, h1, G', h2, h3⟩ := hJ
    exact ⟨J, h1, G', h2, HK3.out.trans h3⟩
  clear hJ CJ
  go_wp2
  go_ret
  exact ⟨rfl, HJ.out⟩
/-! ### Whole -/
theorem Whole_nil {w : World} {q : Option Addr} (hN : NoB w q) : Calls Try.prog 18 #[.pointer q] w fun e w' => e = .returned (.bool false) ∧ w' = w := by
  have C1 : Hid (Calls _ _ _ _ _) := made_nil hN
  clear hN
  go_enter Try.func18, Try.ntmps18
  go_wp2_with (go_at_call 27; refine C1.out.mono ?_; rintro e w' ⟨rfl, rfl⟩)
  go_ret
  exact ⟨rfl, rfl⟩
theorem Whole_any {w : World} {G : Nat → Prop} {p : Nat} {L : Nat → List Nat} {tk : Nat → Option Nat} (h : Bu w G p L tk) : Calls Try.prog 18 #[.pointer (some ⟨p, 0, none⟩)] w fun e w' => ∃ r : Bool, e = .returned (.bool r) ∧ (r = true ↔ ∀ x, tk x = none) ∧ w' = w := by
  have C1 : Hid (Calls _ _ _ _ _) := made_any h
  obtain ⟨b, V, hP⟩ := h
  have hcm := hP.cm
  obtain ⟨c, hc, hz, hlen⟩ := hP.mp.len
  have HZ : Hid (c = 0 ↔ ∀ j, tk j = none) := hz
  clear hP hz
  go_enter Try.func18, Try.ntmps18
  go_wp2_with (go_at_call 27; refine C1.out.mono ?_; rintro e w' ⟨rfl, h⟩; obtain rfl := h.symm)
  go_ret
  refine ⟨_, rfl, ?_, rfl⟩
  rw [← HZ.out]
  simp
/-! ### Free -/
theorem Free_nil {w : World} {q : Option Addr} (hN : NoB w q) : Calls Try.prog 16 #[.pointer q] w fun e w' => e = .returned (.int .i64 0) ∧ w' = w := by
  have C1 : Hid (Calls _ _ _ _ _) := made_nil hN
  clear hN
  go_enter Try.func16, Try.ntmps16
  go_wp2_with (go_at_call 27; refine C1.out.mono ?_; rintro e w' ⟨rfl, rfl⟩)
  go_ret
  exact ⟨rfl, rfl⟩
theorem Lists_nil {w : World} {q : Option Addr} (hN : NoB w q) : Calls Try.prog 25 #[.pointer q] w fun e w' => e = .returned (.slice none 0 0) ∧ w' = w := by
  have C1 : Hid (Calls _ _ _ _ _) := made_nil hN
  clear hN
  go_enter Try.func25, Try.ntmps25
  go_wp2_with (go_at_call 27; refine C1.out.mono ?_; rintro e w' ⟨rfl, rfl⟩)
  go_ret
  exact ⟨rfl, rfl⟩
end Go.Proofs.Ytdlkmeopiilmdaa
