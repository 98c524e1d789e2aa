/- What addr.Tables gives back over a row of up to 1024 spans where one may not be: ErrArg; nothing that was there turns. -/
import Derived.Test.YthmcempfiimkkabTall
namespace Go.Proofs.Ythmcempfiimkkab
open Go.ChangeShapes Go.WideShapes Go.ChangeAt Go.RowKit
set_option linter.unusedVariables false

theorem may_snoc {xs : List (Int × Int)} {k : Nat} (h : k < xs.length) (hp : ∀ s ∈ xs.take k, mayS s = true) (hm : mayS (xs[k].1, xs[k].2) = true) : ∀ s ∈ xs.take (k + 1), mayS s = true := by
  rw [List.take_succ_eq_append_getElem h]
  intro s hs
  rw [List.mem_append] at hs
  rcases hs with hs | hs
  · exact hp s hs
  · rw [List.mem_singleton] at hs; rw [hs]; exact hm

set_option maxHeartbeats 2000000 in
theorem Tables_bad (b off cap : Nat) (xs : List (Int × Int)) (hx : ∀ s ∈ xs, fits s) (hn : xs.length ≤ 1024) (ao : Option Addr) (w : World) (hr : xs = [] ∨ ao = some ⟨b, off, none⟩ ∧ Row w b off xs) (hv : ∃ s ∈ xs, mayS s = false) :
    Calls Try.prog 6 #[.slice ao xs.length cap] w fun e w' => e = .returned (.tuple #[.int .i64 0, .int .i64 2]) ∧ Below w.heap.size w w' := by
  obtain ⟨i0, hi, hz0, hz1, hz2⟩ := info_parts Try.infoS
  have Hx : Hid _ := hx
  have Hr : Hid _ := hr
  have Hv : Hid _ := hv
  clear hx hr hv
  go_enter Try.func6, Try.ntmps6
  go_wp2_with (at_make; refine wpList_make_own _ rfl _ _ 22 rfl w.heap.size 24 i0 (.agg #[.int .i64 0, .int .i64 0]) 2 Try.underlying22 hi hz0 hz1 _ _ _ xs.length rfl rfl (by omega) ?b2 ?b3 (Nat.le_refl _) ?_)
  case b2 => rw [hz2]; omega
  case b3 => unfold maxLen; omega
  intro w0 hown0 hgrow0
  go_wp2
  go_loopw [4, 17] (fun v i wr => ∃ k : Nat, k ≤ xs.length ∧ i = .int .i64 k ∧ v = .slice (some ⟨w.heap.size, 0, none⟩) (kept (xs.take k)).length xs.length ∧ wr.ownsRow w.heap.size 24 2 (.slice (some ⟨w.heap.size, 0, none⟩) (kept (xs.take k)).length xs.length) (kept (xs.take k)).length (flat (kept (xs.take k))) ∧ Below w.heap.size w wr ∧ Hid (∀ s ∈ xs.take k, mayS s = true)) (fun _ i _ => xs.length - (intOf i).toNat)
  case atStart => exact ⟨0, Nat.zero_le _, rfl, rfl, hown0, (Below.refl _ _).grown hgrow0 (Nat.le_refl _) (fun k h => by cases h), fun s hs => by simp at hs⟩
  case round =>
    obtain ⟨k, hk, rfl, rfl, hown, hb, HM⟩ := hrel
    have hkl := kept_le xs k
    by_cases hlt : k < xs.length
    · obtain ⟨rfl, hbk, hc⟩ := (Hr.out).resolve_left (fun h => by rw [h] at hlt; simp at hlt)
      obtain ⟨c1, c2⟩ := hc k hlt
      obtain ⟨hc1, hc2⟩ := bcell hb
      have c1' := (hc1 _ _ hbk).trans c1
      have c2' := (hc1 _ _ hbk).trans c2
      obtain ⟨f1, f2⟩ := Hx.out xs[k] (List.getElem_mem _)
      have HS : Hid (mayS (xs[k].1, xs[k].2) = true → ∀ s ∈ xs.take (k + 1), mayS s = true) := fun hm => may_snoc hlt HM.out hm
      clear HM
      have HK : Hid _ := kept_snoc xs k hlt
      clear hc1 hc2 c1 c2 hc
      generalize hgp : xs[k].1 = p at *
      generalize hgn : xs[k].2 = n at *
      have HP : Hid _ := hgp
      have HN : Hid _ := hgn
      clear hgp hgn
      cases hm : mayS (p, n) with
      | true =>
        by_cases hpos : 0 < n
        · go_wp2_with (first
            | (go_at_call 15; refine (spanMayBe_any _ _ f1 f2 _).mono ?_; rintro e w' ⟨rfl, rfl⟩)
            | (at_builtin; refine wpList_append_fits _ rfl (.tmp 27) (.tmp 29) 22 rfl w.heap.size 24 i0 2 Try.underlying22 hi hz1 w.heap.size _ xs.length _ rfl (((hown.alloc _).alloc _).alloc _) ⟨wr.heap.size + 1 + 1, 0, none⟩ 1 1 [.int .i64 p, .int .i64 n] rfl rfl (two_at wr _ _ _ _) (by intro u hu; simp at hu; rcases hu with rfl | rfl <;> rfl) (by omega) ?_; intro w1 hown1 hgrow1))
          have hE : kept (xs.take (k + 1)) = kept (xs.take k) ++ [(p, n)] := by rw [HK.out, if_pos hpos, ← HP.out, ← HN.out]
          go_roundw
          case rel => exact ⟨k + 1, by omega, by go_num, by rw [hE]; simp, by rw [hE]; simpa [flat] using hown1, (((hb.alloc hb.size _).alloc (by simp; have := hb.size; omega) _).alloc (by simp; have := hb.size; omega) _).grown hgrow1 (by simp; have := hb.size; omega) (fun k hk => by cases hk; exact Nat.le_refl _), HS.out hm⟩
          case measure => simp [intOf]; omega
        · go_wp2_with (go_at_call 15; refine (spanMayBe_any _ _ f1 f2 _).mono ?_; rintro e w' ⟨rfl, rfl⟩)
          have hE : kept (xs.take (k + 1)) = kept (xs.take k) := by rw [HK.out, if_neg (by omega)]
          go_roundw
          case rel => exact ⟨k + 1, by omega, by go_num, by rw [hE], by rw [hE]; exact (hown.alloc _).alloc _, (hb.alloc hb.size _).alloc (by simp; have := hb.size; omega) _, HS.out hm⟩
          case measure => simp [intOf]; omega
      | false =>
        go_wp2_with (go_at_call 15; refine (spanMayBe_any _ _ f1 f2 _).mono ?_; rintro e w' ⟨rfl, rfl⟩)
        go_ret2
        exact ⟨rfl, (hb.alloc hb.size _).alloc (by simp; have := hb.size; omega) _⟩
    · obtain rfl : k = xs.length := by omega
      obtain ⟨s, hs, hf⟩ := Hv.out
      have := HM.out s (by rw [List.take_length]; exact hs)
      rw [hf] at this
      cases this
end Go.Proofs.Ythmcempfiimkkab
