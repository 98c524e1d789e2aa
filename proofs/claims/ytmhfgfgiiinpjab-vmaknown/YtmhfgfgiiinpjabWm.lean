/- The statements' same, two, works; no condition but those named. -/
import Derived.Test.YtmhfgfgiiinpjabWj
import Derived.Test.YtmhfgfgiiinpjabWl
namespace Go.Proofs.Ytmhfgfgiiinpjab.V
open Go.ChangeShapes Go.WideShapes Go.ChangeAt Go.RowKit
set_option linter.unusedVariables false
set_option maxRecDepth 8192

theorem eq_run (a b : Rg) (W : World) : (binOp .eql 26 (rv a) (rv b)).run Try.prog W = .ok (.bool (decide (a = b))) W := by
  obtain ⟨p, n, m⟩ := a
  obtain ⟨p', n', m'⟩ := b
  unfold rv
  simp only [run_eql_struct]
  rw [run_equalIn_agg W 9999 26 _ _ (by kernel_rfl) Try.stoodInHeld26]
  simp [go_sem, Program.fieldsOf, Try.underlying26]
  by_cases h1 : p = p'
  · by_cases h2 : n = n'
    · by_cases h3 : m = m'
      · simp [h1, h2, h3]
      · simp [h1, h2, h3]
    · simp [h1, h2]
  · simp [h1]
theorem ne_run (a b : Rg) (W : World) : (binOp .neq 26 (rv a) (rv b)).run Try.prog W = .ok (.bool (!decide (a = b))) W := by
  have h := eq_run a b W
  unfold rv at h ⊢
  simp only [run_eql_struct] at h
  simp only [run_neq_struct]
  cases hr : (Op.equalIn 10000 26 (.agg #[.int .i64 a.p, .int .i64 a.n, .int .u8 a.m]) (.agg #[.int .i64 b.p, .int .i64 b.n, .int .u8 b.m])).run Try.prog W with
  | ok b w2 =>
    rw [hr] at h
    simp [Result.andThen] at h ⊢
    exact ⟨by rw [h.1], h.2⟩
  | halt x w2 =>
    rw [hr] at h
    simp [Result.andThen] at h
theorem bdn {w w1 : World} {B : Nat} (h : Below B w w1) (n : Nat) : Below B w (w1.drewN n) := ⟨h.os, h.tape, h.output, h.size, h.block⟩
set_option maxHeartbeats 1000000 in
theorem same_ok {w : World} {aa ab : Option Addr} {ca cb : Nat} {l k : List Rg} (h : Rn w aa l) (g : Rn w ab k) (hl : l.length ≤ 100000) :
    Calls Try.prog 12 #[.slice aa l.length ca, .slice ab k.length cb] w fun e w' => e = .returned (.bool (decide (l = k))) ∧ Below w.heap.size w w' := by
  have HA : Hid (Rn w aa l) := h
  have HB : Hid (Rn w ab k) := g
  clear h g
  by_cases hlen : l.length = k.length
  case neg =>
    have HF : Hid (decide (l = k) = false) := decide_eq_false (fun q => hlen (by rw [q]))
    have hd : ((l.length : Int) == (k.length : Int)) = false := by simp; omega
    rw [HF.out]
    go_enter Try.func12, Try.ntmps12
    go_wp2
    go_ret
    exact ⟨rfl, Below.refl _ _⟩
  case pos =>
    have HL : Hid (l.length = k.length) := hlen
    rw [← hlen]
    obtain ⟨n, hn⟩ : ∃ n, l.length = n := ⟨_, rfl⟩
    rw [hn] at hl ⊢
    have HN : Hid (l.length = n ∧ k.length = n) := ⟨hn, by rw [← hlen]; exact hn⟩
    clear hn hlen HL
    go_enter Try.func12, Try.ntmps12
    go_wp2_with fail
    go_loopw [5] (fun i wr => ∃ j : Nat, j ≤ n ∧ i = .int .i64 j ∧ Hid (l.take j = k.take j) ∧ Below w.heap.size w wr) (fun i _ => n - (iv i).toNat)
    case atStart => exact ⟨0, by omega, rfl, rfl, Below.refl _ _⟩
    case round =>
      obtain ⟨j, hj, rfl, HT, hb⟩ := hrel
      have HBw : Hid (Below w.heap.size w wr) := hb
      by_cases hlt : j < n
      case' neg =>
        obtain rfl : j = n := by omega
        have HE : Hid (decide (l = k) = true) := decide_eq_true (by have := HT.out; rwa [← HN.out.1, List.take_length, HN.out.1, ← HN.out.2, List.take_length] at this)
        go_wp2
        go_ret
        exact ⟨by rw [HE.out]; rfl, HBw.out⟩
      case' pos =>
        have hlt1 : j < l.length := by rw [HN.out.1]; exact hlt
        have hlt2 : j < k.length := by rw [HN.out.2]; exact hlt
        obtain ⟨b1, o1, rfl, _, hc⟩ := HA.out.idx hlt1
        obtain ⟨b2, o2, rfl, _, hd⟩ := HB.out.idx hlt2
        have c := hc wr hb
        have d := hd wr hb
        obtain ⟨c0, c1, c2⟩ := c
        obtain ⟨d0, d1, d2⟩ := d
        have HTj : Hid (l[j] = k[j] → l.take (j + 1) = k.take (j + 1)) := fun q => by rw [List.take_add_one, List.take_add_one, HT.out, List.getElem?_eq_getElem hlt1, List.getElem?_eq_getElem hlt2, q]
        have HTn : Hid (l[j] ≠ k[j] → decide (l = k) = false) := fun q => decide_eq_false (fun z => q (by subst z; rfl))
        have ix1 : (0 : Int) ≤ (j : Int) := Int.natCast_nonneg j
        have ix2 : (j : Int) < (n : Int) := Int.ofNat_lt.2 hlt
        have hq := ne_run l[j] k[j]
        generalize l[j] = x at *
        generalize k[j] = y at *
        clear hc hd hb
        unfold rv at hq
        by_cases he : x = y
        case' pos =>
          rw [decide_eq_true he, Bool.not_true] at hq
          have HTj2 : Hid (l.take (j + 1) = k.take (j + 1)) := HTj.out he
          clear he
        case' neg =>
          rw [decide_eq_false he, Bool.not_false] at hq
          have HF : Hid (decide (l = k) = false) := HTn.out he
          clear he
        all_goals (obtain ⟨xp, xn, xm⟩ := x; obtain ⟨yp, yn, ym⟩ := y; simp only at c0 c1 c2 d0 d1 d2 hq)
        case neg =>
          go_wp2_with fail
          go_quiet (fail)
          go_wp2
          go_ret
          exact ⟨by rw [HF.out]; rfl, bdn HBw.out _⟩
        case pos =>
          go_wp2_with fail
          go_quiet (fail)
          go_wp2
          go_roundw
          case rel => exact ⟨j + 1, by omega, by go_num, HTj2.out, bdn HBw.out _⟩
          case measure => simp [iv]; omega
end Go.Proofs.Ytmhfgfgiiinpjab.V
