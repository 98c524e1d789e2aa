/- What Empty and All of package tlb give back and write. -/
import Derived.Test.YtkgmdalekakgpaaTd
import Derived.Laws.AppendOwnNone
namespace Go.Proofs.Ytkgmdalekakgpaa
open Go.ChangeShapes Go.WideShapes Go.ChangeAt Go.RowKit
set_option linter.unusedVariables false

theorem Empty_nil {w : World} {q : Option Addr} (hN : NoT w q) :
    Calls Try.prog 26 #[.pointer q] w fun e w' => e = .returned (.tuple #[.int .i64 0, .int .i64 1]) ∧ w' = w := by
  have CM : Hid (Calls _ _ _ _ _) := made_nil hN
  clear hN
  go_enter Try.func26, Try.ntmps26
  go_wp2_with fail
  refine CM.out.mono ?_
  rintro e w' ⟨rfl, rfl⟩
  go_wp2
  go_ret2
  exact ⟨rfl, rfl⟩
theorem All_nil {w : World} {q : Option Addr} (hN : NoT w q) :
    Calls Try.prog 11 #[.pointer q] w fun e w' => e = .returned (.slice none 0 0) ∧ w' = w := by
  have CM : Hid (Calls _ _ _ _ _) := made_nil hN
  clear hN
  go_enter Try.func11, Try.ntmps11
  go_wp2_with fail
  refine CM.out.mono ?_
  rintro e w' ⟨rfl, rfl⟩
  go_wp2
  go_ret
  exact ⟨rfl, rfl⟩
/-- The row emptied. -/
theorem Pt.emptied {w : World} {F : Nat → Prop} {p n : Nat} {v : Value} {l : List Tr} (T : Pt w F p n v l) : Lv w F p n [] (w.setCell ⟨p, 1, none⟩ (.slice none 0 0)) := by
  have G := grown_setCell' w p 1 (.slice none 0 0)
  obtain ⟨F', P', K'⟩ := T.turn_new (w' := w.setCell ⟨p, 1, none⟩ (.slice none 0 0)) (.slice none 0 0) [] G.os G.tape G.output G.size (fun i hi hip _ => G.block i hi (some_ne hip)) (by
      rw [World.cell?_setCell_other _ _ _ _ (by intro h; cases h)]
      exact T.c.c0) (World.cell?_setCell_same _ _ _ T.c.c1) (by
      rw [World.frozen?_setCell]
      exact T.c.z1) (Own.nil _ _) (fun g hg => by cases hg) (by simp) List.Pairwise.nil
  exact ⟨F', ⟨_, P'⟩, K'⟩
theorem Empty_ok {w : World} {F : Nat → Prop} {p n : Nat} {l : List Tr} (h : Ca w F p n l) :
    Calls Try.prog 26 #[.pointer (some ⟨p, 0, none⟩)] w fun e w' => e = .returned (.tuple #[.int .i64 l.length, .int .i64 0]) ∧ Lv w F p n [] w' := by
  obtain ⟨v, hP⟩ := h
  have CM : Hid (Calls _ _ _ _ _) := made_any hP.c
  have HL : Hid (Lv w F p n [] (w.setCell ⟨p, 1, none⟩ (.slice none 0 0))) := hP.emptied
  obtain ⟨ao, cap, hv⟩ := hP.c.own.len
  have q1 := hP.c.c1
  have z1 := hP.c.z1
  rw [hv] at q1
  have hl := hP.c.len
  have hn := hP.c.n64
  clear hP hv
  go_enter Try.func26, Try.ntmps26
  go_wp2_with fail
  refine CM.out.mono ?_
  rintro e w' ⟨rfl, rfl⟩
  go_wp2
  go_ret2
  exact ⟨rfl, HL.out⟩
set_option maxHeartbeats 1000000 in
theorem All_ok {w : World} {F : Nat → Prop} {p n : Nat} {l : List Tr} (h : Ca w F p n l) :
    Calls Try.prog 11 #[.pointer (some ⟨p, 0, none⟩)] w fun e w' => ∃ v, e = .returned v ∧ Own w.heap.size w' v l ∧ Below w.heap.size w w' := by
  obtain ⟨i0, hi0, hz0, hz1, hz2⟩ := info_parts Try.infoT
  obtain ⟨v, hP⟩ := h
  have CM : Hid (Calls _ _ _ _ _) := made_any hP.c
  have q1 := hP.c.c1
  have hl := hP.c.len
  have hn := hP.c.n64
  rcases hP.c.own.shape with ⟨rfl, rfl⟩ | ⟨g, cap, L, rfl, _, hB, hc1, hm, hL, hT⟩
  · clear hP
    go_enter Try.func11, Try.ntmps11
    go_wp2_with fail
    refine CM.out.mono ?_
    rintro e w' ⟨rfl, rfl⟩
    go_wp2
    go_ret
    exact ⟨_, rfl, Own.nil _ _, Below.refl _ _⟩
  · clear hP
    have HN : Hid (∀ j u, (tv l)[j]? = some u → w.cell? ((⟨g, 0, none⟩ : Addr).add j) = some u) := fun j u hu => by
      have hj := (List.getElem?_eq_some_iff.1 hu).1
      rw [tv_len] at hj
      rw [Go.WideShapes.add_plain, Nat.zero_add, hB.cell, ← List.getElem?_take_of_lt (j := l.length * 6) hj, hT]
      exact hu
    have HO : Hid (∀ u ∈ tv l, u.oneCell' = true) := tv_one l
    have HL : Hid ((tv l).length = l.length * 6) := tv_len l
    clear hB hT hL
    unfold maxLen at hm
    go_enter Try.func11, Try.ntmps11
    go_wp2_with fail
    refine CM.out.mono ?_
    rintro e w' ⟨rfl, rfl⟩
    go_wp2_with (at_builtin; refine wpList_append_own _ rfl (.const (.slice none 0 0)) (.tmp 9) 35 rfl w'.heap.size 32 i0 _ 6 32 Try.underlying35 hi0 hz0 hz1 hz2 rfl (by decide) _ 0 [] rfl (World.ownsRow_nil _ _ _ _) ⟨g, 0, none⟩ l.length cap (tv l) rfl HL.out HN.out HO.out (by unfold maxLen; omega) (by omega) (Nat.le_refl _) ?_; intro v2 w2 o2 gr2 nil2)
    go_ret
    refine ⟨_, rfl, ?_, below_of gr2 _ (Nat.le_refl _) (fun k hk => by cases hk)⟩
    rw [Nat.zero_add] at o2
    exact o2
end Go.Proofs.Ytkgmdalekakgpaa
