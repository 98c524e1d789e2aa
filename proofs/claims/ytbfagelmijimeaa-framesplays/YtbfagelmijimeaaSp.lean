/- The statement's own copy of bytes with marked room behind it, and its look whether they are as they were. -/
import Derived.Test.YtbfagelmijimeaaLw
import Derived.Laws.AppendOwnNone
import Derived.Deep.AppendLies
namespace Go.Proofs.Ytbfagelmijimeaa
open Go.ChangeShapes Go.WideShapes Go.ChangeAt Go.RowKit
set_option linter.unusedVariables false

/-- The bytes, and from l on the marks. -/
def mrk (f : Nat → Int) (l i : Nat) : Int := if i < l then f i else 200 + (i : Int) - l
theorem mrk_in (f : Nat → Int) (l i : Nat) (h : i < l) : mrk f l i = f i := by unfold mrk; rw [if_pos h]
theorem mrk_out (f : Nat → Int) (l i : Nat) : mrk f l (l + i) = 200 + i := by unfold mrk; rw [if_neg (by omega)]; omega
theorem vals_snoc (m : Nat) (h : Nat → Int) : vals (m + 1) h = vals m h ++ [.int .u8 (h m)] := by simp [vals, List.range_succ]
theorem by_of_owns {w : World} {base g cap m : Nat} {h : Nat → Int} (o : w.ownsRow base 5 1 (.slice (some ⟨g, 0, none⟩) m cap) m (vals m h)) : By w g m h := by
  rcases o.2 with ⟨hnil, _⟩ | ⟨g', cap', cur, hv, hbase, hb, h1, h2, h3, h4⟩
  · cases hnil
  · cases hv
    refine ⟨(Array.getElem?_eq_some_iff.1 hb).1, fun k hk => ?_⟩
    have hcur : cur[k]? = some (.int .u8 (h k)) := by
      rw [← Array.getElem?_toList, ← List.getElem?_take_of_lt (show k < m * 1 by omega), h4]
      exact vals_get m h k hk
    simp [World.cell?, World.frozen?, hb, hcur]
theorem owns_base {w : World} {base g cap m : Nat} {xs : List Value} (o : w.ownsRow base 5 1 (.slice (some ⟨g, 0, none⟩) m cap) m xs) : base ≤ g ∧ m ≤ cap ∧ cap ≤ maxLen := by
  rcases o.2 with ⟨hnil, _⟩ | ⟨g', cap', cur, hv, hbase, hb, h1, h2, h3, h4⟩
  · cases hnil
  · cases hv
    exact ⟨hbase, h1, h2⟩
set_option maxHeartbeats 1000000 in
theorem spare_any (l cap : Nat) (f : Nat → Int) (hreach : l ≤ 140737488351232) (ao : Option Addr) (hcap0 : ao = none → cap = 0) (w : World) (hr : Arg w ao l f) :
    Calls Try.prog 40 #[.slice ao l cap] w fun e w' => ∃ g c, e = .returned (.slice (some ⟨g, 0, none⟩) l c) ∧ l + 20 ≤ c ∧ c ≤ maxLen ∧ Below w.heap.size w w' ∧ w.heap.size ≤ g ∧ By w' g (l + 20) (mrk f l) := by
  obtain ⟨i0, hi, hz0, hz1, hz2⟩ := info_parts Try.infoU
  cases ao with
  | none =>
    obtain rfl : cap = 0 := hcap0 rfl
    have hl : l = 0 := by
      rcases hr with h | ⟨_, _, h, _⟩
      · exact h
      · cases h
    subst hl
    clear hr hcap0
    have o1 : w.ownsRow w.heap.size 5 1 (.slice none 0 0) 0 [] := World.ownsRow_nil _ _ _ _
    show Calls Try.prog 40 #[.slice none 0 0] w _
    go_enter Try.func40, Try.ntmps40
    go_wp2_with (at_builtin; refine wpList_append_own_none rfl (.tmp 5) (.tmp 6) 33 rfl w.heap.size 5 i0 1 Try.underlying33 hi (.slice none 0 0) 0 [] rfl o1 rfl ?_)
    go_loopw [3, 4] (fun v i wr => ∃ k : Nat, k ≤ 20 ∧ i = .int .i64 k ∧ wr.ownsRow w.heap.size 5 1 v k (vals k (mrk f 0)) ∧ Below w.heap.size w wr) (fun _ i _ => 20 - (intOf i).toNat)
    case atStart => exact ⟨0, by omega, rfl, o1, Below.refl _ _⟩
    case round =>
      rename_i v _ _
      clear o1
      obtain ⟨k, hk, rfl, o, hb⟩ := hrel
      have hsz := hb.size
      by_cases hlt : k < 20
      · go_wp2_with (at_builtin; refine wpList_append_own _ rfl (.tmp 12) (.tmp 16) 33 rfl w.heap.size 5 i0 _ 1 1 Try.underlying33 hi hz0 hz1 hz2 rfl (by decide) _ k _ rfl (o.alloc _) ⟨wr.heap.size, 0, none⟩ 1 1 [.int .u8 (200 + k)] rfl rfl (cell_one_new _ _ _) (by intro u hu; simp at hu; subst hu; rfl) (by unfold maxLen; omega) (by omega) (by simp; omega) ?_; intro v2 w2 o2 gr2 nil2)
        go_roundw
        case rel =>
          refine ⟨k + 1, by omega, by go_num, ?_, (hb.alloc hsz _).grown gr2 (by simp; omega) (fun k hk => (o.lt k hk).1)⟩
          rw [vals_snoc, show mrk f 0 k = 200 + k by simpa using mrk_out f 0 k]
          exact o2
        case measure => simp [intOf]; omega
      · obtain rfl : k = 20 := by omega
        obtain ⟨g, c, rfl, hbg, hgl⟩ := o.form (by omega)
        obtain ⟨q1, q2, q3⟩ := owns_base o
        have HO : Hid (By _ g 20 _) := by_of_owns o
        clear o
        have q4 := q3
        unfold maxLen at q4
        go_wp2
        go_ret
        exact ⟨g, c, rfl, by simpa using q2, q3, hb, q1, by simpa using HO.out⟩
  | some ad =>
    have hcells : ∀ j u, (vals l f)[j]? = some u → w.cell? (ad.add j) = some u := by
      intro j u hj
      have hjl : j < l := by have := (List.getElem?_eq_some_iff.1 hj).1; rwa [vals_len] at this
      rw [vals_get _ _ _ hjl] at hj
      obtain ⟨b, off, e, _, hc⟩ := hr.lt (by omega)
      cases e
      rw [Go.WideShapes.add_plain, ← hj]
      exact hc j hjl
    have hcong : vals l f = vals l (mrk f l) := vals_congr l f _ (fun i hi => (mrk_in f l i hi).symm)
    rw [hcong] at hcells
    clear hr hcap0 hcong
    go_enter Try.func40, Try.ntmps40
    go_wp2_with (at_builtin; refine wpList_append_own _ rfl (.tmp 5) (.tmp 6) 33 rfl w.heap.size 5 i0 _ 1 1 Try.underlying33 hi hz0 hz1 hz2 rfl (by decide) (.slice none 0 0) 0 [] rfl (World.ownsRow_nil _ _ _ _) ad l cap (vals l (mrk f l)) rfl (by rw [vals_len, Nat.mul_one]) hcells (vals_one _ _) (by unfold maxLen; omega) (by omega) (Nat.le_refl _) ?_; intro v1 w1 o1 gr1 nil1)
    have hb1 : Below w.heap.size w w1 := (Below.refl _ _).grown gr1 (Nat.le_refl _) (fun k h => by cases h)
    rw [Nat.zero_add] at o1
    clear gr1 nil1 hcells
    go_wp2
    go_loopw [3, 4] (fun v i wr => ∃ k : Nat, k ≤ 20 ∧ i = .int .i64 k ∧ wr.ownsRow w.heap.size 5 1 v (l + k) (vals (l + k) (mrk f l)) ∧ Below w.heap.size w wr) (fun _ i _ => 20 - (intOf i).toNat)
    case atStart => exact ⟨0, by omega, rfl, by simpa using o1, hb1⟩
    case round =>
      rename_i v _ _
      clear o1 hb1
      obtain ⟨k, hk, rfl, o, hb⟩ := hrel
      have hsz := hb.size
      by_cases hlt : k < 20
      · go_wp2_with (at_builtin; refine wpList_append_own _ rfl (.tmp 12) (.tmp 16) 33 rfl w.heap.size 5 i0 _ 1 1 Try.underlying33 hi hz0 hz1 hz2 rfl (by decide) _ (l + k) _ rfl (o.alloc _) ⟨wr.heap.size, 0, none⟩ 1 1 [.int .u8 (200 + k)] rfl rfl (cell_one_new _ _ _) (by intro u hu; simp at hu; subst hu; rfl) (by unfold maxLen; omega) (by omega) (by simp; omega) ?_; intro v2 w2 o2 gr2 nil2)
        go_roundw
        case rel =>
          refine ⟨k + 1, by omega, by go_num, ?_, (hb.alloc hsz _).grown gr2 (by simp; omega) (fun k hk => (o.lt k hk).1)⟩
          rw [← Nat.add_assoc, vals_snoc, mrk_out]
          exact o2
        case measure => simp [intOf]; omega
      · obtain rfl : k = 20 := by omega
        obtain ⟨g, c, rfl, hbg, hgl⟩ := o.form (by omega)
        obtain ⟨q1, q2, q3⟩ := owns_base o
        have HO : Hid (By _ g (l + 20) _) := by_of_owns o
        clear o
        have q4 := q3
        unfold maxLen at q4
        go_wp2
        go_ret
        exact ⟨g, c, rfl, q2, q3, hb, q1, HO.out⟩
set_option maxHeartbeats 1000000 in
theorem kept_any (l cap g c : Nat) (f : Nat → Int) (hreach : l ≤ 140737488351232) (ao : Option Addr) (w : World) (hr : Arg w ao l f) (hc : l + 20 ≤ c) (hcm : c ≤ maxLen) (hg : By w g (l + 20) (mrk f l)) :
    Calls Try.prog 41 #[.slice (some ⟨g, 0, none⟩) l c, .slice ao l cap] w fun e w' => e = .returned (.bool true) ∧ w.grownBy w' none := by
  have Hr : Hid (Arg w ao l f) := hr
  have Hg : Hid (By w g (l + 20) (mrk f l)) := hg
  clear hr hg
  unfold maxLen at hcm
  go_enter Try.func41, Try.ntmps41
  go_wp2
  go_loopw [6] (fun i wr => ∃ k : Nat, k ≤ l + 20 ∧ i = .int .i64 k ∧ w.grownBy wr none) (fun i _ => l + 20 - (intOf i).toNat)
  case atStart => exact ⟨0, by omega, rfl, World.grownBy.refl _ _⟩
  case round =>
    obtain ⟨k, hk, rfl, hb⟩ := hrel
    by_cases hlt : k < l + 20
    · have d1 := ((Hg.out.kept hb (by simp)).2 k hlt).1
      by_cases hin : k < l
      · obtain ⟨b, off, rfl, hbk, hcc⟩ := Hr.out.lt (by omega)
        have e1 := (hb.cell_far ⟨b, off + k, none⟩ hbk (by simp)).trans (hcc k hin)
        rw [mrk_in f l k hin] at d1
        clear hcc
        generalize f k = p at *
        have hin' : (k : Int) < (l : Int) := by omega
        have hge : decide (l ≤ k) = false := by simp; omega
        have hlt' : (k : Int) < ((l + 20 : Nat) : Int) := by omega
        go_wp2
        go_quiet (fail)
        go_wp2
        go_roundw
        case rel => exact ⟨k + 1, by omega, by go_num, ⟨hb.os, hb.tape, hb.output, hb.size, hb.block⟩⟩
        case measure => simp [intOf]; omega
      · rw [show mrk f l k = 200 + (k : Int) - l by unfold mrk; rw [if_neg hin]] at d1
        have hge : l ≤ k := by omega
        have hge' : (l : Int) ≤ (k : Int) := by omega
        have hin' : decide (k < l) = false := by simp; omega
        have hlt' : (k : Int) < ((l + 20 : Nat) : Int) := by omega
        have hw1 : IntKind.i64.wrap (200 + (k : Int)) = 200 + k := by rw [IntKind.wrap_i64]; omega
        have hw2 : IntKind.i64.wrap (200 + (k : Int) - l) = 200 + k - l := by rw [IntKind.wrap_i64]; omega
        have hw3 : IntKind.u8.wrap (200 + (k : Int) - l) = 200 + k - l := by rw [IntKind.wrap_u8']; omega
        go_wp2
        go_quiet (fail)
        go_wp2
        go_roundw
        case rel => exact ⟨k + 1, by omega, by go_num, ⟨hb.os, hb.tape, hb.output, hb.size, hb.block⟩⟩
        case measure => simp [intOf]; omega
    · obtain rfl : k = l + 20 := by omega
      go_wp2
      go_ret
      exact ⟨rfl, hb⟩
end Go.Proofs.Ytbfagelmijimeaa
