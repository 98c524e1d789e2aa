/- The statements' spare, kept, spoil; no condition but those named. -/
import Derived.Test.YtmhfgfgiiinpjaaWm
import Derived.Test.YtmhfgfgiiinpjaaWg
namespace Go.Proofs.Ytmhfgfgiiinpjaa.V
open Go.ChangeShapes Go.WideShapes Go.ChangeAt Go.RowKit
set_option linter.unusedVariables false
set_option maxRecDepth 8192

/-- Five marked regions. -/
def sp5 : List Rg := [⟨-7, 0, 0⟩, ⟨-7, 1, 0⟩, ⟨-7, 2, 0⟩, ⟨-7, 3, 0⟩, ⟨-7, 4, 0⟩]
theorem sp5_get : ∀ i (h : i < sp5.length), sp5[i]'h = ⟨-7, (i : Int), 0⟩
  | 0, _ => rfl
  | 1, _ => rfl
  | 2, _ => rfl
  | 3, _ => rfl
  | 4, _ => rfl
  | i + 5, h => absurd (show i + 5 < 5 from h) (by omega)
theorem app_jb {w : World} {B : Nat} {v : Value} {l : List Rg} (h : Rw w B v l) {ax : Option Addr} {cx : Nat} {k : List Rg} (hk : Rn w ax k) (hb : B ≤ w.heap.size) (hle : (l.length + k.length) * 24 ≤ 140737488355328) (ty : TypeId) :
    ∃ v' w', (Builtin.append_ #[22, 22] ty #[v, .slice ax k.length cx]).run Try.prog w = .ok v' w' ∧ Jn w B v (l ++ k) v' w' := app_own h hk hb hle ty
theorem slice_to (g n cap k : Nat) (hk : k ≤ cap) : ∀ W : World, (Instr.sliceAt 22 (.slice (some ⟨g, 0, none⟩) n cap) none (some (.int .i64 (k : Nat))) none).run Try.prog W = .ok (.slice (some ⟨g, 0, none⟩) k cap) W := fun W => by
  by_cases hc : cap = 0
  · have : k = 0 := by omega
    subst hc this
    simp [Instr.sliceAt, go_sem, run_underlying Try.underlying22]
  · simp [Instr.sliceAt, go_sem, run_underlying Try.underlying22, hk, hc]
set_option maxHeartbeats 2000000 in
theorem spare_ok {w : World} {ao : Option Addr} {cap : Nat} {l : List Rg} (h : Rn w ao l) (hl : l.length * 24 ≤ 140737488351232) :
    Calls Try.prog 9 #[.slice ao l.length cap] w fun e w' => ∃ g c, e = .returned (.slice (some ⟨g, 0, none⟩) l.length c) ∧ Rn w' (some ⟨g, 0, none⟩) (l ++ sp5) ∧ l.length + 5 ≤ c ∧ Below w.heap.size w w' := by
  have D1 : Hid (∀ ty, ∃ v' w', (Builtin.append_ #[22, 22] ty #[.slice none 0 0, .slice ao l.length cap]).run Try.prog w = .ok v' w' ∧ Rw w' w.heap.size v' l ∧ Below w.heap.size w w') := fun ty => by
    obtain ⟨v', w', h1, h2⟩ := app_jb (w := w) (B := w.heap.size) (v := .slice none 0 0) (l := []) (cx := cap) (Rw.nil _ _) h (Nat.le_refl _) (by simp; omega) ty
    exact ⟨v', w', h1, h2.1, h2.below (Below.refl _ _) (fun g hg => by cases hg)⟩
  have D2 : Hid (∀ W v (k : Nat) ty, Below w.heap.size w W → k < 5 → Rw W w.heap.size v (l ++ sp5.take k) → ∃ v' w', (Builtin.append_ #[22, 22] ty #[v, .slice (some ⟨W.heap.size, 0, none⟩) 1 1]).run Try.prog (W.alloc (.cells #[.int .i64 (-7), .int .i64 (k : Nat), .int .u8 0] 29)) = .ok v' w' ∧ Rw w' w.heap.size v' (l ++ sp5.take (k + 1)) ∧ Below w.heap.size w w') := fun W v k ty hW hk hR => by
    have hWb : Below w.heap.size w (W.alloc (.cells #[.int .i64 (-7), .int .i64 (k : Nat), .int .u8 0] 29)) := hW.alloc hW.size _
    have hlen : (l ++ sp5.take k).length = l.length + k := by rw [List.length_append, List.length_take]; show l.length + min k 5 = _; omega
    obtain ⟨v', w', h1, h2⟩ := app_jb (cx := 1) (hR.alloc _) (lit1 W (-7) (k : Nat) 0 _ rfl) hWb.size (by rw [hlen]; simp; omega) ty
    have e : l ++ sp5.take k ++ [⟨-7, ((k : Nat) : Int), 0⟩] = l ++ sp5.take (k + 1) := by
      have hk5 : k = 0 ∨ k = 1 ∨ k = 2 ∨ k = 3 ∨ k = 4 := by omega
      rcases hk5 with rfl | rfl | rfl | rfl | rfl
      all_goals (rw [List.append_assoc]; rfl)
    rw [e] at h2
    exact ⟨v', w', h1, h2.1, h2.below hWb (fun g hg => (row_lt hR g hg).1)⟩
  clear h
  go_enter Try.func9, Try.ntmps9
  go_wp2_with (at_builtin; refine wpList_app rfl (.tmp 5) (.tmp 6) rfl _ _ rfl rfl (D1.out _) ?_; rintro v1 w1 ⟨q1, b1⟩; have HR1 : Hid (Rw w1 w.heap.size v1 l) := q1; have HB1 : Hid (Below w.heap.size w w1) := b1; clear q1 b1)
  go_loopw [3, 4] (fun o i wr => ∃ (k : Nat) (v : Value), k ≤ 5 ∧ i = .int .i64 k ∧ v = o ∧ Hid (Rw wr w.heap.size v (l ++ sp5.take k)) ∧ Below w.heap.size w wr) (fun _ i _ => 5 - (iv i).toNat)
  case atStart => exact ⟨0, v1, by omega, rfl, rfl, (by have := HR1.out; simpa using this : Rw w1 w.heap.size v1 (l ++ sp5.take 0)), HB1.out⟩
  case round =>
    obtain ⟨k, v, hk, rfl, rfl, HV, hb⟩ := hrel
    have HB : Hid (Below w.heap.size w wr) := hb
    clear hb
    by_cases hlt : k < 5
    case' neg =>
      obtain rfl : k = 5 := by omega
      have HV2 : Hid (Rw wr w.heap.size v (l ++ sp5)) := HV.out
      have hlen : (l ++ sp5).length = l.length + 5 := by rw [List.length_append]; rfl
      rcases HV2.out.form with ⟨_, e⟩ | ⟨g, c, rfl, _, _, hc, _⟩
      · exact absurd (List.append_eq_nil_iff.1 e).2 (by decide)
      rw [hlen] at hc
      have hsl := slice_to g (l ++ sp5).length c l.length (by omega)
      obtain ⟨a, c', e, hr, _, ho⟩ := HV2.out.rn
      cases e
      have HRn : Hid (Rn wr (some ⟨g, 0, none⟩) (l ++ sp5)) := hr
      clear hr ho HV HV2 hlen
      go_wp2
      go_ret
      exact ⟨g, c, rfl, HRn.out, hc, HB.out⟩
    case' pos =>
      have ik : (k : Int) < 5 := by omega
      go_wp2_with (at_builtin; refine wpList_app rfl (.tmp 12) (.tmp 15) rfl _ _ rfl rfl (D2.out wr v k _ HB.out hlt HV.out) ?_; rintro v2 w2 ⟨q2, b2⟩; have HR2 : Hid (Rw w2 w.heap.size v2 (l ++ sp5.take (k + 1))) := q2; have HB2 : Hid (Below w.heap.size w w2) := b2; clear q2 b2)
      go_roundw
      case rel => exact ⟨k + 1, v2, by omega, by go_num, rfl, HR2.out, HB2.out⟩
      case measure => simp [iv]; omega
set_option maxHeartbeats 4000000 in
theorem kept_ok {w : World} {g c : Nat} {ao : Option Addr} {cap : Nat} {l : List Rg} (h : Rn w (some ⟨g, 0, none⟩) (l ++ sp5)) (hc : l.length + 5 ≤ c) (h2 : Rn w ao l) (hl : l.length < 9223372036854775000) :
    Calls Try.prog 20 #[.slice (some ⟨g, 0, none⟩) l.length c, .slice ao l.length cap] w fun e w' => e = .returned (.bool true) ∧ Below w.heap.size w w' := by
  have HA : Hid (Rn w (some ⟨g, 0, none⟩) (l ++ sp5)) := h
  have HL : Hid (Rn w ao l) := h2
  have hlen : (l ++ sp5).length = l.length + 5 := by rw [List.length_append]; rfl
  have hsl := slice_to g l.length c (l.length + 5) hc
  have hcst : (((l.length + 5 : Nat) : Int)) = (l.length : Int) + 5 := by push_cast; rfl
  rw [hcst] at hsl
  clear h h2
  obtain ⟨n, hn⟩ : ∃ n, l.length = n := ⟨_, rfl⟩
  have HN : Hid (l.length = n ∧ (l ++ sp5).length = n + 5) := ⟨hn, by rw [hlen, hn]⟩
  rw [hn] at hsl hc hl ⊢
  clear hn hlen hcst
  go_enter Try.func20, Try.ntmps20
  go_wp2_with fail
  go_loopw [6] (fun i wr => ∃ k : Nat, k ≤ n + 5 ∧ i = .int .i64 k ∧ Below w.heap.size w wr) (fun i _ => n + 5 - (iv i).toNat)
  case atStart => exact ⟨0, by omega, rfl, Below.refl _ _⟩
  case round =>
    obtain ⟨k, hk, rfl, hb⟩ := hrel
    have HB : Hid (Below w.heap.size w wr) := hb
    have ix1 : (0 : Int) ≤ (k : Int) := Int.natCast_nonneg k
    by_cases hlt : k < n + 5
    case' neg =>
      obtain rfl : k = n + 5 := by omega
      clear hsl
      go_wp2
      go_ret
      exact ⟨rfl, HB.out⟩
    case' pos =>
      obtain ⟨b1, o1, e1, _, hx⟩ := HA.out.idx (i := k) (by rw [HN.out.2]; exact hlt)
      cases e1
      obtain ⟨x0, x1, x2⟩ := hx wr hb
      rw [Nat.zero_add] at x0 x1 x2
      have ix2 : (k : Int) < (n : Int) + 5 := by omega
      by_cases hkn : k < n
      case pos =>
        have hkl : k < l.length := by rw [HN.out.1]; exact hkn
        have e2 : (l ++ sp5)[k]'(by rw [HN.out.2]; exact hlt) = l[k] := List.getElem_append_left hkl
        rw [e2] at x0 x1 x2
        obtain ⟨b2, o2, rfl, _, hy⟩ := HL.out.idx hkl
        obtain ⟨y0, y1, y2⟩ := hy wr hb
        have hq := ne_run l[k] l[k]
        rw [decide_eq_true rfl, Bool.not_true] at hq
        unfold rv at hq
        generalize l[k] = r at *
        obtain ⟨p, m, u⟩ := r
        simp only at x0 x1 x2 y0 y1 y2 hq
        have ix3 : (k : Int) < (n : Int) := by omega
        have ix4 : decide ((k : Int) < (n : Int)) = true := decide_eq_true ix3
        have ix5 : decide ((n : Int) ≤ (k : Int)) = false := decide_eq_false (by omega)
        have ix6 : decide (n ≤ k) = false := decide_eq_false (by omega)
        have ix7 : decide (k < n) = true := decide_eq_true hkn
        clear hx hy hb e2 hsl
        go_wp2_with fail
        go_quiet (fail)
        go_wp2
        go_roundw
        case rel => exact ⟨k + 1, by omega, by go_num, bdn HB.out _⟩
        case measure => simp [iv]; omega
      case neg =>
        have e2 : (l ++ sp5)[k]'(by rw [HN.out.2]; exact hlt) = ⟨-7, (k : Int) - (n : Int), 0⟩ := by
          rw [List.getElem_append_right (by rw [HN.out.1]; omega)]
          simp only [HN.out.1]
          rw [sp5_get (k - n) (by show k - n < 5; omega)]
          exact congrArg (fun z => (⟨-7, z, 0⟩ : Rg)) (by omega)
        rw [e2] at x0 x1 x2
        simp only at x0 x1 x2
        have hq := ne_run ⟨-7, (k : Int) - (n : Int), 0⟩ ⟨-7, (k : Int) - (n : Int), 0⟩
        rw [decide_eq_true rfl, Bool.not_true] at hq
        unfold rv at hq
        simp only at hq
        have ix3 : (n : Int) ≤ (k : Int) := by omega
        have ix4 : decide ((k : Int) < (n : Int)) = false := decide_eq_false (by omega)
        have ix5 : decide ((n : Int) ≤ (k : Int)) = true := decide_eq_true ix3
        have ix6 : decide (n ≤ k) = true := decide_eq_true (by omega)
        have ix7 : decide (k < n) = false := decide_eq_false (by omega)
        have hwr : IntKind.i64.wrap ((k : Int) - (n : Int)) = (k : Int) - (n : Int) := by rw [IntKind.wrap_i64]; omega
        clear hx hb e2 hsl
        go_wp2_with fail
        go_quiet (fail)
        go_wp2
        go_roundw
        case rel => exact ⟨k + 1, by omega, by go_num, bdn HB.out _⟩
        case measure => simp [iv]; omega
end Go.Proofs.Ytmhfgfgiiinpjaa.V
