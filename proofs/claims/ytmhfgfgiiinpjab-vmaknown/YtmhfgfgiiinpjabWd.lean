/- sort.Search and reaching of package vma: the place of the first region that ends behind a page; no condition but those named. -/
import Derived.Test.YtmhfgfgiiinpjabWc
namespace Go.Proofs.Ytmhfgfgiiinpjab.V
open Go.ChangeShapes Go.WideShapes Go.ChangeAt Go.RowKit
set_option linter.unusedVariables false
set_option maxRecDepth 8192

set_option maxHeartbeats 1000000 in
theorem Search_ok (n : Nat) (q : Nat → Bool) (cb : Array Value) (w : World) (hn : n ≤ 1048576)
    (hf : ∀ W i, Below w.heap.size w W → i < n → Calls Try.prog 27 (#[.int .i64 (i : Nat)] ++ cb) W fun e w' => e = .returned (.bool (q i)) ∧ Below W.heap.size W w')
    (hmono : ∀ a b, a ≤ b → b < n → q a = true → q b = true) :
    Calls Try.prog 26 #[.int .i64 (n : Nat), .func (.func 27) #[] cb] w fun e w' => ∃ k : Nat, e = .returned (.int .i64 (k : Nat)) ∧ k ≤ n ∧ (∀ i, i < k → q i = false) ∧ (∀ i, k ≤ i → i < n → q i = true) ∧ Below w.heap.size w w' := by
  have HF : Hid (∀ W i, Below w.heap.size w W → i < n → Calls Try.prog 27 (#[.int .i64 (i : Nat)] ++ cb) W fun e w' => e = .returned (.bool (q i)) ∧ Below W.heap.size W w') := hf
  have HM : Hid (∀ a b, a ≤ b → b < n → q a = true → q b = true) := hmono
  clear hf hmono
  go_enter Try.func26, Try.ntmps26
  go_wp2_with fail
  go_loopw [5, 6] (fun i j wr => ∃ lo hi : Nat, i = .int .i64 lo ∧ j = .int .i64 hi ∧ lo ≤ hi ∧ hi ≤ n ∧ Hid ((∀ t, t < lo → q t = false) ∧ ∀ t, hi ≤ t → t < n → q t = true) ∧ Below w.heap.size w wr) (fun i j _ => (iv j - iv i).toNat)
  case atStart => exact ⟨0, n, rfl, rfl, by omega, by omega, ⟨fun t ht => absurd ht (Nat.not_lt_zero _), fun t h1 h2 => absurd h2 (by omega)⟩, Below.refl _ _⟩
  case round =>
    obtain ⟨lo, hi, rfl, rfl, hle, hhi, HI, hb⟩ := hrel
    have HB : Hid (Below w.heap.size w wr) := hb
    by_cases hlt : lo < hi
    case' pos =>
      have hc := HF.out wr ((lo + hi) / 2) hb (by omega)
      obtain ⟨m, hm⟩ : ∃ m : Nat, (lo + hi) / 2 = m := ⟨_, rfl⟩
      have hm2 : ((lo : Int) + (hi : Int)) / 2 = (m : Int) := by omega
      have hml : lo ≤ m := by omega
      have hmh : m < hi := by omega
      rw [hm] at hc
      have HC : Hid (Calls Try.prog 27 (#[.int .i64 (m : Nat)] ++ cb) wr fun e w' => e = .returned (.bool (q m)) ∧ Below wr.heap.size wr w') := hc
      clear hc hm hb
      cases hq : q m with
      | false =>
        rw [hq] at HC
        have HQ : Hid (q m = false) := hq
        clear hq
        go_wp2_with (go_at_call 27; refine HC.out.mono ?_; rintro e w1 ⟨rfl, b1⟩; have B1 : Hid (Below w.heap.size w w1) := HB.out.trans (b1.mono HB.out.size); clear b1)
        go_roundw
        case rel =>
          refine ⟨m + 1, hi, by go_num, rfl, by omega, hhi, ⟨fun t ht => ?_, HI.out.2⟩, B1.out⟩
          cases h : q t with
          | false => rfl
          | true => have := HM.out t m (by omega) (by omega) h; rw [HQ.out] at this; exact absurd this nofun
        case measure => simp [iv]; omega
      | true =>
        rw [hq] at HC
        have HQ : Hid (q m = true) := hq
        clear hq
        go_wp2_with (go_at_call 27; refine HC.out.mono ?_; rintro e w1 ⟨rfl, b1⟩; have B1 : Hid (Below w.heap.size w w1) := HB.out.trans (b1.mono HB.out.size); clear b1)
        go_roundw
        case rel => exact ⟨lo, m, rfl, rfl, hml, by omega, ⟨HI.out.1, fun t h1 h2 => HM.out m t h1 h2 HQ.out⟩, B1.out⟩
        case measure => simp [iv]; omega
    case' neg =>
      obtain rfl : lo = hi := by omega
      go_wp2
      go_ret
      exact ⟨lo, rfl, hhi, HI.out.1, HI.out.2, HB.out⟩
theorem closure_ok {W : World} {ao : Option Addr} {cap bl bp : Nat} {l : List Rg} {x : Int} (h : Rn W ao l) (hl : W.cell? ⟨bl, 0, none⟩ = some (.slice ao l.length cap)) (hp : W.cell? ⟨bp, 0, none⟩ = some (.int .i64 x)) {i : Nat} (hi : i < l.length) (hs : -9223372036854775808 ≤ l[i].p + l[i].n ∧ l[i].p + l[i].n < 9223372036854775808) :
    Calls Try.prog 27 (#[.int .i64 (i : Nat)] ++ #[.pointer (some ⟨bl, 0, none⟩), .pointer (some ⟨bp, 0, none⟩)]) W fun e w' => e = .returned (.bool (decide (x < l[i].e))) ∧ Below W.heap.size W w' := by
  obtain ⟨b, off, rfl, hb, hc⟩ := h.idx hi
  have e : l[i].e = l[i].p + l[i].n := rfl
  rw [e]
  generalize l[i] = r at *
  obtain ⟨p, n, m⟩ := r
  simp only at hc hs ⊢
  have HE : Hid (∀ W : World, Calls Try.prog 15 #[.agg #[.int .i64 p, .int .i64 n, .int .u8 m]] W fun e w' => e = .returned (.int .i64 (p + n)) ∧ Below W.heap.size W w') := fun W => end_any p n m hs W
  have f0 : ∀ N : Idx (Below W.heap.size W), N.W.cell? ⟨b, off + i * 3, none⟩ = some (.int .i64 p) := fun N => (hc N.W N.h).1
  have f1 : ∀ N : Idx (Below W.heap.size W), N.W.cell? ⟨b, off + i * 3 + 1, none⟩ = some (.int .i64 n) := fun N => (hc N.W N.h).2.1
  have f2 : ∀ N : Idx (Below W.heap.size W), N.W.cell? ⟨b, off + i * 3 + 2, none⟩ = some (.int .u8 m) := fun N => (hc N.W N.h).2.2
  have f3 : ∀ N : Idx (Below W.heap.size W), N.W.cell? ⟨bl, 0, none⟩ = some (.slice (some ⟨b, off, none⟩) l.length cap) := fun N => (N.h.cell (p := ⟨bl, 0, none⟩) (World.block_lt_of_cell? W _ hl)).trans hl
  have f4 : ∀ N : Idx (Below W.heap.size W), N.W.cell? ⟨bp, 0, none⟩ = some (.int .i64 x) := fun N => (N.h.cell (p := ⟨bp, 0, none⟩) (World.block_lt_of_cell? W _ hp)).trans hp
  have hne : Nonempty (Idx (Below W.heap.size W)) := ⟨⟨W, Below.refl _ _⟩⟩
  have ix1 : (0 : Int) ≤ (i : Int) := Int.natCast_nonneg i
  have ix2 : (i : Int) < (l.length : Int) := Int.ofNat_lt.2 hi
  clear hc hs h hl hp e
  generalize p + n = s at *
  generalize l.length = ll at *
  show Calls _ _ #[.int .i64 (i : Nat), .pointer (some ⟨bl, 0, none⟩), .pointer (some ⟨bp, 0, none⟩)] _ _
  go_enter Try.func27, Try.ntmps27
  go_wp2_with fail
  refine wp_region_cls (Below W.heap.size W) (by kernel_rfl) (by kernel_rfl) ((Below.refl _ _).drew) ?_
  repeat (go_big_quiet_step ((go_at_call 15; exact cls (HE.out _) (fun _ _ h k => bs h k))))
  refine wpQuiet_nil ?_
  rintro w5 ⟨⟨_, hS5⟩, rfl⟩
  clear f0 f1 f2 f3 f4 hne
  go_wp2
  go_ret
  exact ⟨rfl, hS5⟩
set_option maxHeartbeats 1000000 in
theorem reaching_ok {w : World} {ao : Option Addr} {cap : Nat} {l : List Rg} (h : Rn w ao l) (hs : Rs l) (x : Int) : Calls Try.prog 25 #[.slice ao l.length cap, .int .i64 x] w fun e w' => ∃ k : Nat, e = .returned (.int .i64 (k : Nat)) ∧ Rch l x k ∧ Below w.heap.size w w' := by
  have hl := len_tot hs
  have hl2 := (tot_max hs).2
  obtain ⟨W0, hW0⟩ : ∃ W0, W0 = (w.alloc (.cells #[.slice ao l.length cap] 23)).alloc (.cells #[.int .i64 x] 3) := ⟨_, rfl⟩
  have b0 : Below w.heap.size w W0 := by rw [hW0]; exact below2 w _ _
  have ca : ∀ W, Below W0.heap.size W0 W → W.cell? ⟨w.heap.size, 0, none⟩ = some (.slice ao l.length cap) := fun W hW => by
    subst hW0
    exact cell_at w #[.slice ao l.length cap] 23 (bs (below1 _ _) hW) 0
  have cx : ∀ W, Below W0.heap.size W0 W → W.cell? ⟨w.heap.size + 1, 0, none⟩ = some (.int .i64 x) := fun W hW => by
    subst hW0
    have := cell_at (w.alloc (.cells #[.slice ao l.length cap] 23)) #[.int .i64 x] 3 hW 0
    rw [World.size_alloc] at this
    exact this
  have mono : ∀ a b (ha : a < l.length) (hb : b < l.length), a ≤ b → l[a].e ≤ l[b].e := fun a b ha hb hab => by
    rcases Nat.lt_or_ge a b with q | q
    · have := List.pairwise_iff_getElem.1 (rs_iff.1 hs).2 a b ha hb q
      have := (hs.ok l[b] (List.getElem_mem hb)).lt
      omega
    · obtain rfl : a = b := by omega
      exact Int.le_refl _
  have HS := Search_ok l.length (fun i => decide (∃ hi : i < l.length, x < l[i].e)) #[.pointer (some ⟨w.heap.size, 0, none⟩), .pointer (some ⟨w.heap.size + 1, 0, none⟩)] W0 (by omega)
    (fun W i hW hi => by
      have := closure_ok (cap := cap) (bl := w.heap.size) (bp := w.heap.size + 1) (x := x) ((h.below b0).below hW) (ca W hW) (cx W hW) hi (by have := (hs.ok l[i] (List.getElem_mem hi)).lt; unfold Rg.e at this; omega)
      have e : decide (∃ hi : i < l.length, x < l[i].e) = decide (x < l[i].e) := by rw [decide_eq_decide]; exact ⟨fun ⟨_, q⟩ => q, fun q => ⟨hi, q⟩⟩
      rw [e]
      exact this)
    (fun a b hab hb hq => by
      rw [decide_eq_true_iff] at hq ⊢
      obtain ⟨ha, hq⟩ := hq
      have := mono a b ha hb hab
      exact ⟨hb, by omega⟩)
  have HF : Hid (∀ k : Nat, k ≤ l.length → (∀ i, i < k → decide (∃ hi : i < l.length, x < l[i].e) = false) → (∀ i, k ≤ i → i < l.length → decide (∃ hi : i < l.length, x < l[i].e) = true) → Rch l x k) := fun k hk h1 h2 => by
    refine ⟨hk, fun r hr => ?_, fun r hr => ?_⟩
    · obtain ⟨i, hi, e⟩ := List.getElem_of_mem hr
      rw [List.length_take] at hi
      rw [List.getElem_take] at e
      have := of_decide_eq_false (h1 i (by omega))
      rw [← e]
      apply Classical.byContradiction
      intro q
      exact this ⟨by omega, by omega⟩
    · obtain ⟨i, hi, e⟩ := List.getElem_of_mem hr
      rw [List.length_drop] at hi
      rw [List.getElem_drop] at e
      obtain ⟨_, q⟩ := of_decide_eq_true (h2 (k + i) (by omega) (by omega))
      rw [← e]
      exact q
  have HSx : Hid (Calls _ _ _ _ _) := HS
  have HB0 : Hid (Below w.heap.size w W0) := b0
  clear HS mono ca cx h hs b0
  generalize (fun i => decide (∃ hi : i < l.length, x < l[i].e)) = q at *
  go_enter Try.func25, Try.ntmps25
  go_wp2_with (go_at_call 26; rw [← hW0]; refine HSx.out.mono ?_; rintro e w' ⟨k, rfl, h1, h2, h3, h4⟩; have HR : Hid (Rch l x k) := HF.out k h1 h2 h3; have HB4 : Hid (Below w.heap.size w w') := bs HB0.out h4; clear h2 h3 h4)
  go_ret
  exact ⟨k, rfl, HR.out, HB4.out⟩
end Go.Proofs.Ytmhfgfgiiinpjab.V
