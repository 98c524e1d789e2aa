/- The statements' own small functions: a number's remainder, two lists held against one another, and their trial 'works'. -/
import Derived.Test.YtkgmdalekakgpaaTg
import Derived.Test.YtkgmdalekakgpaaTa
namespace Go.Proofs.Ytkgmdalekakgpaa
open Go.ChangeShapes Go.WideShapes Go.ChangeAt Go.RowKit
set_option linter.unusedVariables false

theorem kind_any (k n : Int) (h0 : 0 < n) (h1 : n < 1048577) (hk0 : -9223372036854775808 ≤ k) (hk1 : k < 9223372036854775808) (w : World) :
    Calls Try.prog 15 #[.int .i64 k, .int .i64 n] w fun e w' => e = .returned (.int .i64 (k % n)) ∧ w' = w := by
  have h2 : -n < k.tmod n := Int.lt_tmod_of_pos k h0
  have h3 : k.tmod n < n := Int.tmod_lt_of_pos k h0
  have e : k % n = (k.tmod n) % n := by
    rw [Int.tmod_eq_emod]
    split
    · simp
    · rw [Int.natAbs_of_nonneg (by omega), Int.sub_emod_right, Int.emod_emod]
  have HE : Hid (k % n = (k.tmod n + n) % n) := by
    unfold Hid
    rw [e, Int.add_emod_right]
  rw [HE.out]
  clear HE e
  go_enter Try.func15, Try.ntmps15
  go_wp2
  go_ret
  exact ⟨rfl, rfl⟩
theorem trans_any (g : Int) (h0 : 0 ≤ g) (h1 : g < 1000) (w : World) :
    Calls Try.prog 25 #[.int .i64 g] w fun e w' => e = .returned (.agg #[.int .i64 0, .int .i64 g, .int .i64 (10 + g), .bool true, .bool false, .bool false]) ∧ Below w.heap.size w w' := by
  go_enter Try.func25, Try.ntmps25
  go_wp2
  exact bodyPost_ret (v := .agg #[.int .i64 0, .int .i64 g, .int .i64 (10 + g), .bool true, .bool false, .bool false]) (by simp [results, Try.results25, go_sem]) rfl ⟨rfl, below_new _ _⟩
set_option maxHeartbeats 1000000 in
theorem same_any {B C : Nat} {w : World} {va vb : Value} {l : List Tr} (ha : Own B w va l) (hb : Own C w vb l) (hl : l.length ≤ 4096) :
    Calls Try.prog 12 #[va, vb] w fun e w' => e = .returned (.bool true) ∧ Below w.heap.size w w' := by
  obtain ⟨aa, ca, hva⟩ := ha.len
  obtain ⟨ab, cb, hvb⟩ := hb.len
  subst hva hvb
  have HA : Hid (Own B w (.slice aa l.length ca) l) := ha
  have HB : Hid (Own C w (.slice ab l.length cb) l) := hb
  clear ha hb
  go_enter Try.func12, Try.ntmps12
  go_wp2_with fail
  go_loopw [5] (fun i wr => ∃ j : Nat, j ≤ l.length ∧ i = .int .i64 j ∧ Below w.heap.size w wr) (fun i _ => l.length - (intOf i).toNat)
  case atStart => exact ⟨0, by omega, rfl, Below.refl _ _⟩
  case round =>
    obtain ⟨j, hj, rfl, hbr⟩ := hrel
    have HW : Hid (Below w.heap.size w wr) := hbr
    by_cases hjl : j < l.length
    · have hg : l[j]? = some l[j] := List.getElem?_eq_getElem hjl
      obtain ⟨ga, ca', e1, h6, _, _, p1, p2⟩ := (HA.out.below hbr).cell hg
      obtain ⟨gb, cb', e2, k6, _, _, p3, p4⟩ := (HB.out.below hbr).cell hg
      cases e1
      cases e2
      clear hg hbr
      generalize l[j] = y at *
      obtain ⟨d0, d1, d2, d3, d4, d5⟩ := h6
      obtain ⟨c0, c1, c2, c3, c4, c5⟩ := k6
      have hq := ne_run y.a y.p y.f y.a y.p y.f y.r y.w y.d y.r y.w y.d
      rw [eqT_self, Bool.not_true] at hq
      unfold maxLen at p2 p4
      have i0 : (0 : Int) ≤ (j : Int) := by omega
      have i1 : (j : Int) < (l.length : Int) := by omega
      go_wp2_with fail
      go_quiet (fail)
      clear d0 d1 d2 d3 d4 d5 c0 c1 c2 c3 c4 c5 hq
      have HW2 : Hid (Below w.heap.size w (wr.drewN nq)) := HW.out.trans (below_drewN _ _ _)
      generalize wr.drewN nq = w2 at *
      go_wp2_with fail
      go_roundw
      case rel => exact ⟨j + 1, by omega, by go_num, HW2.out⟩
      case measure => simp [intOf]; omega
    · clear hbr
      go_wp2
      go_ret
      exact ⟨rfl, HW.out⟩
end Go.Proofs.Ytkgmdalekakgpaa
