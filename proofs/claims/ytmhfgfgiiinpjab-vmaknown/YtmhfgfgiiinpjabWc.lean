/- Check and count of package vma: what is wrong with a list, how many pages it has; no condition but those named. -/
import Derived.Test.YtmhfgfgiiinpjabWb
namespace Go.Proofs.Ytmhfgfgiiinpjab.V
open Go.ChangeShapes Go.WideShapes Go.ChangeAt Go.RowKit
set_option linter.unusedVariables false
set_option maxRecDepth 8192

/-- The three cells of an element, as a statement of any world of a class. -/
theorem Rn.idx {w : World} {ao : Option Addr} {l : List Rg} (h : Rn w ao l) {i : Nat} (hi : i < l.length) : ∃ b off, ao = some ⟨b, off, none⟩ ∧ b < w.heap.size ∧ ∀ W, Below w.heap.size w W → W.cell? ⟨b, off + i * 3, none⟩ = some (.int .i64 l[i].p) ∧ W.cell? ⟨b, off + i * 3 + 1, none⟩ = some (.int .i64 l[i].n) ∧ W.cell? ⟨b, off + i * 3 + 2, none⟩ = some (.int .u8 l[i].m) := by
  obtain ⟨b, off, e, hb, c⟩ := h.some' (by omega)
  refine ⟨b, off, e, hb, fun W hW => ?_⟩
  have c := c i hi
  exact ⟨(hW.cell (p := ⟨b, off + i * 3, none⟩) hb).trans c.1, (hW.cell (p := ⟨b, off + i * 3 + 1, none⟩) hb).trans c.2.1, (hW.cell (p := ⟨b, off + i * 3 + 2, none⟩) hb).trans c.2.2⟩
set_option maxHeartbeats 1000000 in
theorem count_ok {w : World} {ao : Option Addr} {cap : Nat} {l : List Rg} (h : Rn w ao l) (hs : Rs l) : Calls Try.prog 22 #[.slice ao l.length cap] w fun e w' => e = .returned (.int .i64 (tot l)) ∧ Below w.heap.size w w' := by
  have hl := len_tot hs
  have hl2 := (tot_max hs).2
  have HS : Hid (Rs l) := hs
  have HR : Hid (Rn w ao l) := h
  clear h hs
  go_enter Try.func22, Try.ntmps22
  go_wp2_with fail
  go_loopw [3, 8] (fun n i wr => ∃ k : Nat, k ≤ l.length ∧ i = .int .i64 k ∧ n = .int .i64 (tot (l.take k)) ∧ Below w.heap.size w wr) (fun _ i _ => l.length - (iv i).toNat)
  case atStart => exact ⟨0, by omega, rfl, rfl, Below.refl _ _⟩
  case round =>
    obtain ⟨k, hk, rfl, rfl, hb⟩ := hrel
    have HB : Hid (Below w.heap.size w wr) := hb
    by_cases hlt : k < l.length
    case' pos =>
      obtain ⟨b, off, rfl, hbl, hc⟩ := HR.out.idx hlt
      obtain ⟨c0, c1, c2⟩ := hc wr hb
      have HT : Hid (tot (l.take (k + 1)) = tot (l.take k) + l[k].n) := tot_succ hlt
      have t1 := tot_take HS.out k
      have t2 := tot_take HS.out (k + 1)
      rw [HT.out] at t2
      generalize l[k] = r at *
      generalize tot (l.take k) = t at *
      obtain ⟨t2a, t2b⟩ := t2
      have HBo : Hid (∀ o : Obj, Below w.heap.size w (wr.alloc o)) := fun o => HB.out.alloc HB.out.size _
      clear hc hb t1
      have ix1 : (0 : Int) ≤ (k : Int) := Int.natCast_nonneg k
      have ix2 : (k : Int) < (l.length : Int) := Int.ofNat_lt.2 hlt
      go_wp2
      go_roundw
      case rel => exact ⟨k + 1, by omega, by go_num, by rw [HT.out], HBo.out _⟩
      case measure => simp [iv]; omega
    case' neg =>
      obtain rfl : k = l.length := by omega
      go_wp2
      go_ret
      exact ⟨by simp, HB.out⟩
set_option maxHeartbeats 2000000 in
theorem Check_ok {w : World} {ao : Option Addr} {cap : Nat} {l : List Rg} (h : Rn w ao l) (hwf : ∀ r ∈ l, wfR r) : Calls Try.prog 6 #[.slice ao l.length cap] w fun e w' => e = .returned (.int .i64 (chk l)) ∧ Below w.heap.size w w' := by
  have HW : Hid (∀ r ∈ l, wfR r) := hwf
  have HR : Hid (Rn w ao l) := h
  clear h hwf
  by_cases hlen : 1024 < l.length
  · rw [chk_many hlen]
    have hd : decide ((1024 : Int) < (l.length : Int)) = true := by simp; omega
    go_enter Try.func6, Try.ntmps6
    go_wp2
    go_ret
    exact ⟨rfl, Below.refl _ _⟩
  have hd : decide ((1024 : Int) < (l.length : Int)) = false := by simp; omega
  go_enter Try.func6, Try.ntmps6
  go_wp2_with fail
  go_loopw [10] (fun i wr => ∃ k : Nat, k ≤ l.length ∧ i = .int .i64 k ∧ Fm (l.take k) ∧ Below w.heap.size w wr) (fun i _ => l.length - (iv i).toNat)
  case atStart => exact ⟨0, by omega, rfl, trivial, Below.refl _ _⟩
  case round =>
    obtain ⟨k, hk, rfl, hF, hb⟩ := hrel
    have HB : Hid (Below w.heap.size w wr) := hb
    have HF : Hid (Fm (l.take k)) := hF
    have hl : (l.length : Int) ≤ 1024 := by omega
    clear hF hd
    by_cases hlt : k < l.length
    case' pos =>
      obtain ⟨b, off, rfl, hbl, hc⟩ := HR.out.idx hlt
      obtain ⟨c0, c1, c2⟩ := hc wr hb
      have hw := HW.out l[k] (List.getElem_mem hlt)
      have HBo : Hid (∀ o : Obj, Below w.heap.size w (wr.alloc o)) := fun o => HB.out.alloc HB.out.size _
      have HX : Hid (∀ W (o : Obj), Below (wr.alloc o).heap.size (wr.alloc o) W → Below w.heap.size w W) := fun W o q => (HBo.out o).trans (q.mono (by have := (HBo.out o).size; exact this))
      have ix1 : (0 : Int) ≤ (k : Int) := Int.natCast_nonneg k
      have ix2 : (k : Int) < (l.length : Int) := Int.ofNat_lt.2 hlt
      obtain ⟨r, hr⟩ : ∃ r, l[k] = r := ⟨_, rfl⟩
      rw [hr] at hw c0 c1 c2 hc
      have HRk : Hid (l[k] = r) := hr
      obtain ⟨p, n, m⟩ := r
      simp only at c0 c1 c2 hc
      have HC : Hid (∀ W, Below w.heap.size w W → W.cell? ⟨b, off + k * 3, none⟩ = some (.int .i64 p) ∧ W.cell? ⟨b, off + k * 3 + 1, none⟩ = some (.int .i64 n) ∧ W.cell? ⟨b, off + k * 3 + 2, none⟩ = some (.int .u8 m)) := hc
      have HWf : Hid (wfR ⟨p, n, m⟩) := hw
      clear hc hr hw hb
      go_wp2_with fail
      refine (regionMayBe_any p n m HWf.out _).mono ?_
      rintro e w1 ⟨rfl, b1⟩
      have B1 : Hid (Below w.heap.size w w1) := HX.out _ _ b1
      have HX1 : Hid (∀ W, Below w1.heap.size w1 W → (W.cell? ⟨wr.heap.size, 0, none⟩ = some (.int .i64 p) ∧ W.cell? ⟨wr.heap.size, 1, none⟩ = some (.int .i64 n) ∧ W.cell? ⟨wr.heap.size, 2, none⟩ = some (.int .u8 m))) := fun W q => by
        have z (i) := cell_at wr #[.int .i64 p, .int .i64 n, .int .u8 m] 26 (bs b1 q) i
        exact ⟨z 0, z 1, z 2⟩
      clear b1 c0 c1 c2 HX HBo
      by_cases hok : (⟨p, n, m⟩ : Rg).Ok
      case' pos =>
        rw [decide_eq_true hok]
        have HOK : Hid ((⟨p, n, m⟩ : Rg).Ok) := hok
        have g0 : ∀ N : Idx (Below w1.heap.size w1), N.W.cell? ⟨wr.heap.size, 0, none⟩ = some (.int .i64 p) := fun N => (HX1.out N.W N.h).1
        have g1 : ∀ N : Idx (Below w1.heap.size w1), N.W.cell? ⟨wr.heap.size, 1, none⟩ = some (.int .i64 n) := fun N => (HX1.out N.W N.h).2.1
        have g2 : ∀ N : Idx (Below w1.heap.size w1), N.W.cell? ⟨wr.heap.size, 2, none⟩ = some (.int .u8 m) := fun N => (HX1.out N.W N.h).2.2
        have hne : Nonempty (Idx (Below w1.heap.size w1)) := ⟨⟨w1, Below.refl _ _⟩⟩
        clear hok
        rcases k with _ | j
        case' zero =>
          have hd0 : decide ((0 : Int) < 0) = false := rfl
          go_wp2_with fail
          refine wp_region_cls (Below w1.heap.size w1) (by kernel_rfl) (by kernel_rfl) ((Below.refl _ _).drew) ?_
          repeat (go_big_quiet_step (fail))
          refine wpQuiet_nil ?_
          rintro w5 ⟨⟨_, hS5⟩, rfl⟩
          have B5 : Hid (Below w.heap.size w _) := B1.out.trans (hS5.mono B1.out.size)
          clear g0 g1 g2 hne
          go_wp2
          go_roundw
          case rel => exact ⟨1, by omega, by go_num, (fm_succ0 hlt).2 (by rw [HRk.out]; exact HOK.out), B5.out⟩
          case measure => simp [iv]; omega
        case' succ =>
          have hj : j < l.length := by omega
          obtain ⟨b', off', e', _, hq⟩ := HR.out.idx hj
          cases e'
          have HOj : Hid ((l[j]).Ok) := ok_take HF.out hj
          have HFS : Hid (Fm (l.take (j + 1 + 1)) ↔ Fm (l.take (j + 1)) ∧ Ap l[j] l[j + 1] ∧ l[j + 1].Ok) := fm_succ hlt
          have HRj : Hid (l[j + 1] = ⟨p, n, m⟩) := HRk.out
          obtain ⟨a, ha⟩ : ∃ a, l[j] = a := ⟨_, rfl⟩
          rw [ha] at hq HOj HFS
          have HRa : Hid (l[j] = a) := ha
          have hlt2 := HOj.out.lt
          have hsum : a.e = a.p + a.n := rfl
          have hpn := HOj.out.pg
          obtain ⟨ap, an, am⟩ := a
          have f0 : ∀ N : Idx (Below w1.heap.size w1), N.W.cell? ⟨b, off + j * 3, none⟩ = some (.int .i64 ap) := fun N => (hq N.W (B1.out.trans (N.h.mono B1.out.size))).1
          have f1 : ∀ N : Idx (Below w1.heap.size w1), N.W.cell? ⟨b, off + j * 3 + 1, none⟩ = some (.int .i64 an) := fun N => (hq N.W (B1.out.trans (N.h.mono B1.out.size))).2.1
          have f2 : ∀ N : Idx (Below w1.heap.size w1), N.W.cell? ⟨b, off + j * 3 + 2, none⟩ = some (.int .u8 am) := fun N => (hq N.W (B1.out.trans (N.h.mono B1.out.size))).2.2
          have HE : Hid (∀ W : World, Calls Try.prog 15 #[.agg #[.int .i64 ap, .int .i64 an, .int .u8 am]] W fun e w' => e = .returned (.int .i64 (ap + an)) ∧ Below W.heap.size W w') := fun W => end_any ap an am (by unfold pgs at hpn; simp only at hpn; omega) W
          have HA : Hid (∀ W : World, Calls Try.prog 16 #[.agg #[.int .i64 ap, .int .i64 an, .int .u8 am], .agg #[.int .i64 p, .int .i64 n, .int .u8 m]] W fun e w' => e = .returned (.bool (decide (ap + an = p ∧ am = m))) ∧ Below W.heap.size W w') := fun W => areOne_any ⟨ap, an, am⟩ ⟨p, n, m⟩ (by unfold pgs at hpn; simp only at hpn ⊢; omega) W
          have HAp : Hid (Ap ⟨ap, an, am⟩ ⟨p, n, m⟩ ↔ ¬ (p < ap + an ∨ (ap + an = p ∧ am = m))) := ap_iff
          clear hq ha hlt2 hsum hpn
          generalize ap + an = x at *
          have ii1 : ((j : Int) + 1 - 1) = (j : Int) := by omega
          have ii2 : (0 : Int) ≤ (j : Int) := Int.natCast_nonneg j
          have ii3 : (j : Int) < (l.length : Int) := Int.ofNat_lt.2 hj
          have ii4 : decide ((0 : Int) < (j : Int) + 1) = true := by rw [decide_eq_true_iff]; omega
          by_cases c1 : p < x
          case' pos =>
            have d1 : decide (p < x) = true := by simpa using c1
            go_wp2_with fail
            refine wp_region_cls (Below w1.heap.size w1) (by kernel_rfl) (by kernel_rfl) ((Below.refl _ _).drew) ?_
            repeat (go_big_quiet_step ((go_at_call 15; exact cls (HE.out _) (fun _ _ h k => bs h k))))
            refine wpQuiet_nil ?_
            rintro w5 ⟨⟨_, hS5⟩, rfl⟩
            have B5 : Hid (Below w.heap.size w _) := B1.out.trans (hS5.mono B1.out.size)
            clear g0 g1 g2 f0 f1 f2 hne
            go_wp2
            go_ret
            exact ⟨by rw [chk_arg (by omega) (fun q => by have := (HFS.out.1 (fm_take q _)).2.1; rw [HRj.out] at this; exact (HAp.out.1 this) (Or.inl c1))]; rfl, B5.out⟩
          case' neg =>
            have d1 : decide (p < x) = false := by simpa using c1
            obtain ⟨d, hd⟩ : ∃ d, decide (x = p ∧ am = m) = d := ⟨_, rfl⟩
            rw [hd] at HA
            have HD : Hid (decide (x = p ∧ am = m) = d) := hd
            clear hd
            go_wp2_with fail
            refine wp_region_cls (Below w1.heap.size w1) (by kernel_rfl) (by kernel_rfl) ((Below.refl _ _).drew) ?_
            repeat (go_big_quiet_step (first | (go_at_call 15; exact cls (HE.out _) (fun _ _ h k => bs h k)) | (go_at_call 16; exact cls (HA.out _) (fun _ _ h k => bs h k))))
            refine wpQuiet_nil ?_
            rintro w5 ⟨⟨_, hS5⟩, rfl⟩
            have B5 : Hid (Below w.heap.size w _) := B1.out.trans (hS5.mono B1.out.size)
            clear g0 g1 g2 f0 f1 f2 hne
            cases d with
            | true =>
              go_wp2
              go_ret
              exact ⟨by rw [chk_arg (by omega) (fun q => by have := (HFS.out.1 (fm_take q _)).2.1; rw [HRj.out] at this; exact (HAp.out.1 this) (Or.inr (of_decide_eq_true HD.out)))]; rfl, B5.out⟩
            | false =>
              go_wp2
              go_roundw
              case rel => exact ⟨j + 1 + 1, by omega, by go_num, HFS.out.2 ⟨HF.out, by rw [HRj.out]; exact HAp.out.2 (fun q => q.elim (Int.not_lt.2 c1) (of_decide_eq_false HD.out)), by rw [HRj.out]; exact HOK.out⟩, B5.out⟩
              case measure => simp [iv]; omega
      case' neg =>
        rw [decide_eq_false hok]
        go_wp2
        go_ret
        exact ⟨by rw [chk_arg (by omega) (fun q => hok (by rw [← HRk.out]; exact q.rs.ok _ (List.getElem_mem hlt)))]; rfl, B1.out⟩
    case' neg =>
      obtain rfl : k = l.length := by omega
      have hF : Fm l := by have := HF.out; rwa [List.take_length] at this
      go_wp2
      go_ret
      exact ⟨by rw [chk_ok (by omega) hF]; rfl, HB.out⟩
end Go.Proofs.Ytmhfgfgiiinpjab.V
