/- The document's Find, Pages over regions: what they answer; no condition but those named. -/
import Derived.Test.YtmhfgfgiiinpjaaXf
namespace Go.Proofs.Ytmhfgfgiiinpjaa.V
open Go.ChangeShapes Go.WideShapes Go.ChangeAt Go.RowKit
set_option linter.unusedVariables false
set_option maxRecDepth 8192

theorem Pages_r {w : World} {ao : Option Addr} {cap : Nat} {l : List Rg} (h : Ri w ao cap l) :
    Calls Try.prog 25 #[.slice ao l.length cap] w fun e w' => e = .returned (.tuple #[.int .i64 (if chk l = 0 then tot l else 0), .int .i64 (chk l)]) ∧ Below w.heap.size w w' := by
  have HC : Hid (Calls Try.prog 11 #[.slice ao l.length cap] w fun e w' => e = .returned (.int .i64 (chk l)) ∧ Below w.heap.size w w') := h.check_r
  rcases chk_cases l with he | he | he
  · have hM : May l := chk_may.1 he
    have HN : Hid (∀ W, Below w.heap.size w W → Calls Try.prog 46 #[.slice ao l.length cap] W fun e w' => e = .returned (.int .i64 (tot l)) ∧ Below W.heap.size W w') := fun W hW => (count_r (h.rn.below hW) hM.2.rs).mono (fun e w' q => ⟨q.1, by rw [q.2]; exact Below.refl _ _⟩)
    rw [he] at HC ⊢
    rw [if_pos rfl]
    clear h hM he
    go_enter Try.func25, Try.ntmps25
    go_wp2_with fail
    refine HC.out.mono ?_
    rintro e w1 ⟨rfl, b1⟩
    have HB1 : Hid (Below w.heap.size w w1) := b1
    clear b1
    go_wp2_with fail
    refine (HN.out _ HB1.out).mono ?_
    rintro e w2 ⟨rfl, b2⟩
    have HB2 : Hid (Below w.heap.size w w2) := bs HB1.out b2
    clear b2
    go_wp2
    go_ret2
    exact ⟨rfl, HB2.out⟩
  all_goals
    rw [he] at HC ⊢
    rw [if_neg (by decide)]
    clear h he
    go_enter Try.func25, Try.ntmps25
    go_wp2_with fail
    refine HC.out.mono ?_
    rintro e w1 ⟨rfl, b1⟩
    have HB1 : Hid (Below w.heap.size w w1) := b1
    clear b1
    go_wp2
    go_ret2
    exact ⟨rfl, HB1.out⟩
set_option maxHeartbeats 2000000 in
theorem Find_r {w : World} {ao : Option Addr} {cap : Nat} {l : List Rg} (h : Ri w ao cap l) (x : Int) :
    Calls Try.prog 23 #[.slice ao l.length cap, .int .i64 x] w (Fn3 w (fiV l x)) := by
  have HZ : Hid (Bz w (w.alloc (.cells #[.int .i64 0, .int .i64 0, .int .u8 0] 29))) := Bz.new w
  have HC : Hid (∀ W, Below w.heap.size w W → Calls Try.prog 11 #[.slice ao l.length cap] W fun e w' => e = .returned (.int .i64 (chk l)) ∧ Below W.heap.size W w') := fun W hW => (h.below hW).check_r
  rcases chk_cases l with he | he | he
  case' inr.inl => have HA : Hid (fiV l x = (z3, false, 2)) := by have : fiV l x = (z3, false, chk l) := if_pos (by rw [he]; decide); rwa [he] at this
  case' inr.inr => have HA : Hid (fiV l x = (z3, false, 3)) := by have : fiV l x = (z3, false, chk l) := if_pos (by rw [he]; decide); rwa [he] at this
  case' inl =>
    have HV : Hid (fiV l x = if x < 0 ∨ 1048576 ≤ x then (z3, false, 2) else ((fo l x).1, (fo l x).2, 0)) := if_neg (fun q => q he)
    have hM : May l := chk_may.1 he
    have CWi : Hid (∀ (x a b : Int) (w : World), Calls Try.prog 49 #[.int .i64 x, .int .i64 a, .int .i64 b] w fun e w' => e = .returned (.bool (decide (a ≤ x ∧ x ≤ b))) ∧ w' = w) := within_r
    have hl : l.length ≤ 1024 := hM.1
    have HRn : Hid (∀ W, Below w.heap.size w W → Rn W ao l) := fun W hW => h.rn.below hW
    have HS : Hid (Rs l) := hM.2.rs
    clear hM
  all_goals rw [he] at HC
  all_goals clear h he
  case inr.inl =>
    go_enter Try.func23, Try.ntmps23
    go_wp2_with fail
    refine (HC.out _ HZ.out.be).mono ?_
    rintro e w1 ⟨rfl, b1⟩
    have HZ1 : Hid (Bz w w1) := HZ.out.next b1
    clear b1
    go_wp2_with (refine HZ1.out.sto rfl (.tmp 4) (.tmp 13) rfl z3 rfl rfl ?_)
    exact bodyPost_ret (res3 Try.results23 _ _ _ _ _ _ rfl rfl rfl (HZ1.out.fin z3).1) rfl (by rw [HA.out]; exact ⟨rfl, (HZ1.out.fin z3).2⟩)
  case inr.inr =>
    go_enter Try.func23, Try.ntmps23
    go_wp2_with fail
    refine (HC.out _ HZ.out.be).mono ?_
    rintro e w1 ⟨rfl, b1⟩
    have HZ1 : Hid (Bz w w1) := HZ.out.next b1
    clear b1
    go_wp2_with (refine HZ1.out.sto rfl (.tmp 4) (.tmp 13) rfl z3 rfl rfl ?_)
    exact bodyPost_ret (res3 Try.results23 _ _ _ _ _ _ rfl rfl rfl (HZ1.out.fin z3).1) rfl (by rw [HA.out]; exact ⟨rfl, (HZ1.out.fin z3).2⟩)
  case inl =>
    go_enter Try.func23, Try.ntmps23
    go_wp2_with fail
    refine (HC.out _ HZ.out.be).mono ?_
    rintro e w1 ⟨rfl, b1⟩
    have HZ1 : Hid (Bz w w1) := HZ.out.next b1
    clear b1
    go_wp2_with fail
    refine (CWi.out _ _ _ _).mono ?_
    rintro e w2 ⟨rfl, rfl⟩
    by_cases hx : 0 ≤ x ∧ x ≤ 1048575
    case neg =>
      have HA : Hid (fiV l x = (z3, false, 2)) := HV.out.trans (if_pos (by omega))
      rw [decide_eq_false hx]
      go_wp2_with (refine HZ1.out.sto rfl (.tmp 4) (.tmp 18) rfl z3 rfl rfl ?_)
      exact bodyPost_ret (res3 Try.results23 _ _ _ _ _ _ rfl rfl rfl (HZ1.out.fin z3).1) rfl (by rw [HA.out]; exact ⟨rfl, (HZ1.out.fin z3).2⟩)
    case pos =>
      have HA : Hid (fiV l x = ((fo l x).1, (fo l x).2, 0)) := HV.out.trans (if_neg (by omega))
      rw [decide_eq_true hx]
      obtain ⟨hx0, hx1⟩ := hx
      go_wp2_with fail
      go_loopw [8] (fun i wr => ∃ k : Nat, k ≤ l.length ∧ i = .int .i64 k ∧ Hid (∀ r ∈ l.take k, ¬ has r x) ∧ Bz w wr) (fun i _ => l.length - (iv i).toNat)
      case atStart => exact ⟨0, by omega, rfl, fun r hr => by simp at hr, HZ1.out⟩
      case round =>
        obtain ⟨k, hk, rfl, HT, hz⟩ := hrel
        have HZr : Hid (Bz w wr) := hz
        by_cases hlt : k < l.length
        case neg =>
          obtain rfl : k = l.length := by omega
          have HA2 : Hid (fo l x = (z3, false)) := by
            have : fnd l x = none := fnd_none (by have := HT.out; rwa [List.take_length] at this)
            unfold fo; rw [this]; rfl
          clear hz
          go_wp2_with (refine HZr.out.sto rfl (.tmp 4) (.tmp 51) rfl z3 rfl rfl ?_)
          exact bodyPost_ret (res3 Try.results23 _ _ _ _ _ _ rfl rfl rfl (HZr.out.fin z3).1) rfl (by rw [HA.out, HA2.out]; exact ⟨rfl, (HZr.out.fin z3).2⟩)
        case pos =>
          obtain ⟨b, off, rfl, hbl, q0, q1, q2⟩ := (HRn.out wr hz.be).at' hlt
          have ix1 : (0 : Int) ≤ (k : Int) := Int.natCast_nonneg k
          have ix2 : (k : Int) < (l.length : Int) := Int.ofNat_lt.2 hlt
          have hok := (HS.out.ok l[k] (List.getElem_mem hlt)).lt
          have hpg := (HS.out.ok l[k] (List.getElem_mem hlt)).pg
          have HYes : Hid (has l[k] x → fo l x = (l[k], true)) := fun hh => by
            have e1 : l = l.take k ++ (l[k] :: l.drop (k + 1)) := by rw [← List.drop_eq_getElem_cons hlt, List.take_append_drop]
            have : fnd l x = some l[k] := by
              unfold fnd
              conv => lhs; rw [e1]
              rw [List.find?_append, List.find?_eq_none.2 (fun r hr => by simpa using HT.out r hr), List.find?_cons]
              simp [hh]
            unfold fo; rw [this]
          have HNo : Hid (¬ has l[k] x → ∀ r ∈ l.take (k + 1), ¬ has r x) := fun hh r hr => by
            rw [List.take_add_one, List.getElem?_eq_getElem hlt] at hr
            rcases List.mem_append.1 hr with q | q
            · exact HT.out r q
            · have : r = l[k] := by simpa using q
              rw [this]; exact hh
          have hhas : has l[k] x ↔ l[k].p ≤ x ∧ x < l[k].p + l[k].n := Iff.rfl
          unfold pgs at hpg
          clear hok hz
          generalize l[k] = r at *
          obtain ⟨p, n, m⟩ := r
          simp only at q0 q1 q2 hpg hhas
          obtain ⟨o1, o2, o3, o4⟩ := hpg
          have hwr : IntKind.i64.wrap (p + n) = p + n := by rw [IntKind.wrap_i64]; omega
          by_cases h1 : p ≤ x
          case' neg =>
            have HN : Hid (∀ r ∈ l.take (k + 1), ¬ has r x) := HNo.out (fun q => h1 (hhas.1 q).1)
            have d1 : decide (p ≤ x) = false := decide_eq_false h1
            clear hhas
            go_wp2_with fail
            go_quiet (fail)
            have HZq : Hid (Bz w (wr.drewN nq)) := HZr.out.next (bdn (Below.refl _ _) _)
            go_wp2
            go_roundw
            case rel => exact ⟨k + 1, by omega, by go_num, HN.out, HZq.out⟩
            case measure => simp [iv]; omega
          case' pos =>
            have d1 : decide (p ≤ x) = true := decide_eq_true h1
            by_cases h2 : x < p + n
            case' neg =>
              have HN : Hid (∀ r ∈ l.take (k + 1), ¬ has r x) := HNo.out (fun q => h2 (hhas.1 q).2)
              have d2 : decide (x < p + n) = false := decide_eq_false h2
              clear hhas
              go_wp2_with fail
              go_quiet (fail)
              have HZq : Hid (Bz w (wr.drewN nq)) := HZr.out.next (bdn (Below.refl _ _) _)
              go_wp2
              go_roundw
              case rel => exact ⟨k + 1, by omega, by go_num, HN.out, HZq.out⟩
              case measure => simp [iv]; omega
            case' pos =>
              have d2 : decide (x < p + n) = true := decide_eq_true h2
              have HA2 : Hid (fo l x = (⟨p, n, m⟩, true)) := HYes.out (hhas.2 ⟨h1, h2⟩)
              clear hhas
              go_wp2_with fail
              go_quiet (fail)
              have HZq : Hid (Bz w (wr.drewN nq)) := HZr.out.next (bdn (Below.refl _ _) _)
              go_wp2_with (refine HZq.out.sto rfl (.tmp 4) (.tmp 50) rfl ⟨p, n, m⟩ rfl rfl ?_)
              exact bodyPost_ret (res3 Try.results23 _ _ _ _ _ _ rfl rfl rfl (HZq.out.fin ⟨p, n, m⟩).1) rfl (by rw [HA.out, HA2.out]; exact ⟨rfl, (HZq.out.fin ⟨p, n, m⟩).2⟩)
end Go.Proofs.Ytmhfgfgiiinpjaa.V
