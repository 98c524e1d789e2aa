/- The document's Check over regions; no condition but the ranges that each theorem names. -/
import Derived.Test.YtmhfgfgiiinpjaaXa
namespace Go.Proofs.Ytmhfgfgiiinpjaa.V
open Go.ChangeShapes Go.WideShapes Go.ChangeAt Go.RowKit
set_option linter.unusedVariables false
set_option maxRecDepth 8192

theorem bdn {w w1 : World} {B : Nat} (h : Below B w w1) (n : Nat) : Below B w (w1.drewN n) := ⟨h.os, h.tape, h.output, h.size, h.block⟩
set_option maxHeartbeats 4000000 in
theorem Check_r {w : World} {ao : Option Addr} {cap : Nat} {l : List Rg} (h : Rn w ao l) (hwf : ∀ r ∈ l, wfR r) : Calls Try.prog 11 #[.slice ao l.length cap] w fun e w' => e = .returned (.int .i64 (chk l)) ∧ Below w.heap.size w w' := by
  have HW : Hid (∀ r ∈ l, wfR r) := hwf
  have HR : Hid (Rn w ao l) := h
  clear h hwf
  by_cases hlen : 1024 < l.length
  · rw [chk_many hlen]
    have hd : decide ((1024 : Int) < (l.length : Int)) = true := by simp; omega
    go_enter Try.func11, Try.ntmps11
    go_wp2
    go_ret
    exact ⟨rfl, Below.refl _ _⟩
  have hd : decide ((1024 : Int) < (l.length : Int)) = false := by simp; omega
  have CG : Hid (∀ (p n : Int) (w : World), (-9223372036854775808 ≤ p ∧ p < 9223372036854775808) → Calls Try.prog 36 #[.int .i64 p, .int .i64 n] w fun e w' => e = .returned (.bool (decide (pgs p n))) ∧ Below w.heap.size w w') := fun p n w h => (pages_r p n h w).mono (fun e w' q => ⟨q.1, by rw [q.2]; exact Below.refl _ _⟩)
  have CM : Hid (∀ (m : Int) (w : World), Calls Try.prog 37 #[.int .u8 m] w fun e w' => e = .returned (.bool (decide (prm m))) ∧ Below w.heap.size w w') := fun m w => (perm_r m w).mono (fun e w' q => ⟨q.1, by rw [q.2]; exact Below.refl _ _⟩)
  go_enter Try.func11, Try.ntmps11
  go_wp2_with fail
  go_loopw [3] (fun i wr => ∃ k : Nat, k ≤ l.length ∧ i = .int .i64 k ∧ Hid (Fm (l.take k)) ∧ Below w.heap.size w wr) (fun i _ => l.length - (iv i).toNat)
  case atStart => exact ⟨0, by omega, rfl, trivial, Below.refl _ _⟩
  case round =>
    obtain ⟨k, hk, rfl, HF, hb⟩ := hrel
    have HB : Hid (Below w.heap.size w wr) := hb
    have hl : (l.length : Int) ≤ 1024 := by omega
    clear hd
    by_cases hlt : k < l.length
    case' neg =>
      obtain rfl : k = l.length := by omega
      have hF : Fm l := by have := HF.out; rwa [List.take_length] at this
      go_wp2
      go_ret
      exact ⟨by rw [chk_ok (by omega) hF]; rfl, HB.out⟩
    case' pos =>
      obtain ⟨b, off, rfl, hbl, hc⟩ := HR.out.idx hlt
      obtain ⟨c0, c1, c2⟩ := hc wr hb
      have hw := HW.out l[k] (List.getElem_mem hlt)
      have ix1 : (0 : Int) ≤ (k : Int) := Int.natCast_nonneg k
      have ix2 : (k : Int) < (l.length : Int) := Int.ofNat_lt.2 hlt
      obtain ⟨r, hr⟩ : ∃ r, l[k] = r := ⟨_, rfl⟩
      rw [hr] at hw c0 c1 c2 hc
      have HRk : Hid (l[k] = r) := hr
      obtain ⟨p, n, m⟩ := r
      simp only at c0 c1 c2 hc
      have CGk : Hid (∀ w : World, Calls Try.prog 36 #[.int .i64 p, .int .i64 n] w fun e w' => e = .returned (.bool (decide (pgs p n))) ∧ Below w.heap.size w w') := fun w => CG.out p n w hw.1
      have g0 : ∀ N : Idx (Below w.heap.size w), N.W.cell? ⟨b, off + k * 3, none⟩ = some (.int .i64 p) := fun N => (hc N.W N.h).1
      have g1 : ∀ N : Idx (Below w.heap.size w), N.W.cell? ⟨b, off + k * 3 + 1, none⟩ = some (.int .i64 n) := fun N => (hc N.W N.h).2.1
      have g2 : ∀ N : Idx (Below w.heap.size w), N.W.cell? ⟨b, off + k * 3 + 2, none⟩ = some (.int .u8 m) := fun N => (hc N.W N.h).2.2
      have hne : Nonempty (Idx (Below w.heap.size w)) := ⟨⟨w, Below.refl _ _⟩⟩
      clear hr hw hb hc c0 c1 c2
      by_cases hpg : pgs p n
      case' neg =>
        have HE : Hid (chk l = 2) := chk_arg (by omega) (fun q => hpg (by have := (q.rs.ok _ (List.getElem_mem hlt)).pg; rw [HRk.out] at this; exact this))
        rw [decide_eq_false hpg] at CGk
        clear hpg
        go_wp2_with fail
        refine wp_region_cls (Below w.heap.size w) (by kernel_rfl) (by kernel_rfl) (HB.out.drew) ?_
        repeat (go_big_quiet_step ((go_at_call 36; exact cls (CGk.out _) (fun _ _ h k => bs h k))))
        refine wpQuiet_nil ?_
        rintro w5 ⟨⟨_, hS5⟩, rfl⟩
        have HB5 : Hid (Below w.heap.size w _) := hS5
        go_wp2
        go_ret
        exact ⟨by rw [HE.out]; rfl, HB5.out⟩
      case' pos =>
        rw [decide_eq_true hpg] at CGk
        have CMk : Hid (∀ w : World, Calls Try.prog 37 #[.int .u8 m] w fun e w' => e = .returned (.bool (decide (prm m))) ∧ Below w.heap.size w w') := fun w => CM.out m w
        by_cases hpm : prm m
        case' neg =>
          have HE : Hid (chk l = 2) := chk_arg (by omega) (fun q => hpm (by have := (q.rs.ok _ (List.getElem_mem hlt)).pm; rw [HRk.out] at this; exact this))
          rw [decide_eq_false hpm] at CMk
          clear hpg hpm
          go_wp2_with fail
          refine wp_region_cls (Below w.heap.size w) (by kernel_rfl) (by kernel_rfl) (HB.out.drew) ?_
          repeat (go_big_quiet_step (first | (go_at_call 36; exact cls (CGk.out _) (fun _ _ h k => bs h k)) | (go_at_call 37; exact cls (CMk.out _) (fun _ _ h k => bs h k))))
          refine wpQuiet_nil ?_
          rintro w5 ⟨⟨_, hS5⟩, rfl⟩
          have HB5 : Hid (Below w.heap.size w _) := hS5
          go_wp2
          go_ret
          exact ⟨by rw [HE.out]; rfl, HB5.out⟩
        case' pos =>
          rw [decide_eq_true hpm] at CMk
          have HOK : Hid ((⟨p, n, m⟩ : Rg).Ok) := ⟨hpg, hpm⟩
          clear hpg hpm
          go_wp2_with fail
          refine wp_region_cls (Below w.heap.size w) (by kernel_rfl) (by kernel_rfl) (HB.out.drew) ?_
          repeat (go_big_quiet_step (first | (go_at_call 36; exact cls (CGk.out _) (fun _ _ h k => bs h k)) | (go_at_call 37; exact cls (CMk.out _) (fun _ _ h k => bs h k))))
          refine wpQuiet_nil ?_
          rintro w5 ⟨⟨_, hS5⟩, rfl⟩
          have HB5 : Hid (Below w.heap.size w _) := hS5
          clear HB
          rename_i w5
          have HB : Hid (Below w.heap.size w w5) := HB5.out
          rcases k with _ | j
          case' zero =>
            clear g0 g1 g2 hne
            go_wp2
            go_roundw
            case rel => exact ⟨1, by omega, by go_num, (fm_succ0 hlt).2 (by rw [HRk.out]; exact HOK.out), HB.out⟩
            case measure => simp [iv]; omega
          case' succ =>
            have hj : j < l.length := by omega
            obtain ⟨b', off', e', _, hq⟩ := HR.out.idx hj
            cases e'
            have HOj : Hid ((l[j]).Ok) := ok_take HF.out hj
            have HFS : Hid (Fm (l.take (j + 1 + 1)) ↔ Fm (l.take (j + 1)) ∧ Ap l[j] l[j + 1] ∧ l[j + 1].Ok) := fm_succ hlt
            have HRj : Hid (l[j + 1] = ⟨p, n, m⟩) := HRk.out
            obtain ⟨a, ha⟩ : ∃ a, l[j] = a := ⟨_, rfl⟩
            rw [ha] at hq HOj HFS
            have hpn := HOj.out.pg
            obtain ⟨ap, an, am⟩ := a
            unfold pgs at hpn
            simp only at hpn
            obtain ⟨q1, q2, q3, q4⟩ := hpn
            have f0 : ∀ N : Idx (Below w.heap.size w), N.W.cell? ⟨b, off + j * 3, none⟩ = some (.int .i64 ap) := fun N => (hq N.W N.h).1
            have f1 : ∀ N : Idx (Below w.heap.size w), N.W.cell? ⟨b, off + j * 3 + 1, none⟩ = some (.int .i64 an) := fun N => (hq N.W N.h).2.1
            have f2 : ∀ N : Idx (Below w.heap.size w), N.W.cell? ⟨b, off + j * 3 + 2, none⟩ = some (.int .u8 am) := fun N => (hq N.W N.h).2.2
            have HAp : Hid (Ap ⟨ap, an, am⟩ ⟨p, n, m⟩ ↔ ¬ (p < ap + an ∨ (ap + an = p ∧ am = m))) := ap_iff
            clear hq ha
            have ii1 : ((j : Int) + 1 - 1) = (j : Int) := by omega
            have ii2 : (0 : Int) ≤ (j : Int) := Int.natCast_nonneg j
            have ii3 : (j : Int) < (l.length : Int) := Int.ofNat_lt.2 hj
            have ii4 : decide ((0 : Int) < (j : Int) + 1) = true := by rw [decide_eq_true_iff]; omega
            go_wp2_with fail
            refine wp_region_cls (Below w.heap.size w) (by kernel_rfl) (by kernel_rfl) (HB.out.drew) ?_
            repeat (go_big_quiet_step (fail))
            refine wpQuiet_nil ?_
            rintro w6 ⟨⟨_, hS6⟩, rfl⟩
            have HB6 : Hid (Below w.heap.size w _) := hS6
            rename_i w6
            clear HB HB5
            generalize hx : ap + an = x at *
            by_cases c1 : p < x
            case' pos =>
              have d1 : decide (p < x) = true := decide_eq_true c1
              go_wp2_with fail
              refine wp_region_cls (Below w.heap.size w) (by kernel_rfl) (by kernel_rfl) (HB6.out.drew) ?_
              repeat (go_big_quiet_step (fail))
              refine wpQuiet_nil ?_
              rintro w7 ⟨⟨_, hS7⟩, rfl⟩
              have HB7 : Hid (Below w.heap.size w _) := hS7
              clear g0 g1 g2 f0 f1 f2 hne
              go_wp2
              go_ret
              exact ⟨by rw [chk_arg (by omega) (fun q => by have := (HFS.out.1 (fm_take q _)).2.1; rw [HRj.out] at this; exact (HAp.out.1 this) (Or.inl c1))]; rfl, HB7.out⟩
            case' neg =>
              have d1 : decide (p < x) = false := decide_eq_false c1
              by_cases c2 : x = p
              case' neg =>
                have d2 : (x == p) = false := by simpa using c2
                go_wp2_with fail
                refine wp_region_cls (Below w.heap.size w) (by kernel_rfl) (by kernel_rfl) (HB6.out.drew) ?_
                repeat (go_big_quiet_step (fail))
                refine wpQuiet_nil ?_
                rintro w7 ⟨⟨_, hS7⟩, rfl⟩
                have HB7 : Hid (Below w.heap.size w _) := hS7
                clear g0 g1 g2 f0 f1 f2 hne
                go_wp2
                go_roundw
                case rel => exact ⟨j + 1 + 1, by omega, by go_num, HFS.out.2 ⟨HF.out, by rw [HRj.out]; exact HAp.out.2 (fun q => q.elim (Int.not_lt.2 c1) (fun z => c2 z.1)), by rw [HRj.out]; exact HOK.out⟩, HB7.out⟩
                case measure => simp [iv]; omega
              case' pos =>
                have d2 : (x == p) = true := by simpa using c2
                by_cases c3 : am = m
                case' neg =>
                  have d3 : (am == m) = false := by simpa using c3
                  go_wp2_with fail
                  refine wp_region_cls (Below w.heap.size w) (by kernel_rfl) (by kernel_rfl) (HB6.out.drew) ?_
                  repeat (go_big_quiet_step (fail))
                  refine wpQuiet_nil ?_
                  rintro w7 ⟨⟨_, hS7⟩, rfl⟩
                  have HB7 : Hid (Below w.heap.size w _) := hS7
                  clear g0 g1 g2 f0 f1 f2 hne
                  go_wp2
                  go_roundw
                  case rel => exact ⟨j + 1 + 1, by omega, by go_num, HFS.out.2 ⟨HF.out, by rw [HRj.out]; exact HAp.out.2 (fun q => q.elim (Int.not_lt.2 c1) (fun z => c3 z.2)), by rw [HRj.out]; exact HOK.out⟩, HB7.out⟩
                  case measure => simp [iv]; omega
                case' pos =>
                  have d3 : (am == m) = true := by simpa using c3
                  go_wp2_with fail
                  refine wp_region_cls (Below w.heap.size w) (by kernel_rfl) (by kernel_rfl) (HB6.out.drew) ?_
                  repeat (go_big_quiet_step (fail))
                  refine wpQuiet_nil ?_
                  rintro w7 ⟨⟨_, hS7⟩, rfl⟩
                  have HB7 : Hid (Below w.heap.size w _) := hS7
                  clear g0 g1 g2 f0 f1 f2 hne
                  go_wp2
                  go_ret
                  exact ⟨by rw [chk_arg (by omega) (fun q => by have := (HFS.out.1 (fm_take q _)).2.1; rw [HRj.out] at this; exact (HAp.out.1 this) (Or.inr ⟨c2, c3⟩))]; rfl, HB7.out⟩
end Go.Proofs.Ytmhfgfgiiinpjaa.V
