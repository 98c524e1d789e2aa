/- Turn of the program and of the document's answer, and the statements' copy and comparison of lists; no condition but the ranges. -/
import Derived.Test.YtbaonclncfjneaaOp
import Derived.Laws.AppendOwnNone
namespace Go.Proofs.Ytbaonclncfjneaa
open Go.ChangeShapes Go.WideShapes Go.ChangeAt Go.RowKit Go.Deep
set_option linter.unusedVariables false

/-- A list of turns of which one is no partition. -/
def bad (l : Nat) (f : Nat → Int) : Prop := ∃ i, i < l ∧ (f i < 0 ∨ 8 ≤ f i)
/-- Both lists of turns answer (v, er) alike, in whichever world the list lies. -/
def Tn (fid : FuncId) (k : Int) (l : Nat) (f : Nat → Int) (v er : Int) : Prop := ∀ (w : World) (a : Option Addr) (c : Nat), Arg .i64 w a l f →
  Calls Try.prog fid #[.int .u64 k, .slice a l c] w fun e w' => e = .returned (.tuple #[.int .i64 v, .int .i64 er]) ∧ w' = w
theorem Turn_halt (k : Int) (l : Nat) (f : Nat → Int) (hk : 1099511627776 ≤ k) : Tn 23 k l f 0 51 := by
  intro w a c hA
  clear hA
  go_enter Try.func23, Try.ntmps23
  go_wp2
  go_ret2
  exact ⟨rfl, rfl⟩
theorem rTurn_halt (k : Int) (l : Nat) (f : Nat → Int) (hk : 1099511627776 ≤ k) : Tn 24 k l f 0 51 := by
  intro w a c hA
  clear hA
  go_enter Try.func24, Try.ntmps24
  go_wp2
  go_ret2
  exact ⟨rfl, rfl⟩
theorem Turn_many (k : Int) (l : Nat) (f : Nat → Int) (hk : ¬ 1099511627776 ≤ k) (hl : 64 < l) (hm : l ≤ maxLen) : Tn 23 k l f 0 3 := by
  intro w a c hA
  unfold maxLen at hm
  clear hA
  go_enter Try.func23, Try.ntmps23
  go_wp2
  go_ret2
  exact ⟨rfl, rfl⟩
theorem rTurn_many (k : Int) (l : Nat) (f : Nat → Int) (hk : ¬ 1099511627776 ≤ k) (hl : 64 < l) (hm : l ≤ maxLen) : Tn 24 k l f 0 3 := by
  intro w a c hA
  unfold maxLen at hm
  clear hA
  go_enter Try.func24, Try.ntmps24
  go_wp2
  go_ret2
  exact ⟨rfl, rfl⟩
theorem Turn_none (k : Int) (f : Nat → Int) (hk : ¬ 1099511627776 ≤ k) : Tn 23 k 0 f 0 2 := by
  intro w a c hA
  clear hA
  go_enter Try.func23, Try.ntmps23
  go_wp2
  go_ret2
  exact ⟨rfl, rfl⟩
theorem rTurn_none (k : Int) (f : Nat → Int) (hk : ¬ 1099511627776 ≤ k) : Tn 24 k 0 f 0 2 := by
  intro w a c hA
  clear hA
  go_enter Try.func24, Try.ntmps24
  go_wp2
  go_ret2
  exact ⟨rfl, rfl⟩
theorem Turn_bad (k : Int) (l : Nat) (f : Nat → Int) (hk : ¬ 1099511627776 ≤ k) (hl : l ≤ 64) (h0 : 0 < l) (hb : bad l f) : Tn 23 k l f 0 2 := by
  intro w a c hA
  have HA : Hid (Arg .i64 w a l f) := hA
  have HB : Hid (bad l f) := hb
  clear hA hb
  go_enter Try.func23, Try.ntmps23
  go_wp2_with fail
  go_loop [7, 18] (fun p i => ∃ (j : Nat) (vv : Value), vv = p ∧ j ≤ l ∧ i = .int .i64 j ∧ ∀ m, m < j → ¬ (f m < 0 ∨ 8 ≤ f m)) (fun _ i => l - (intOf i).toNat)
  case atStart => exact ⟨0, _, rfl, by omega, rfl, fun j hj => by omega⟩
  case round =>
    obtain ⟨j, vv, hvv, hj, rfl, hg⟩ := hrel
    subst hvv
    have HG : Hid (∀ m, m < j → ¬ (f m < 0 ∨ 8 ≤ f m)) := hg
    clear hg
    by_cases hlt : j < l
    · obtain ⟨b, off, rfl, hc⟩ := HA.out.at' (Below.refl _ _) hlt
      have HF : Hid (∀ x, f j = x → ¬ (x < 0 ∨ 8 ≤ x) → ∀ m, m < j + 1 → ¬ (f m < 0 ∨ 8 ≤ f m)) := by
        intro x hx hn m hm
        by_cases q : m < j
        · exact HG.out m q
        · obtain rfl : m = j := by omega
          rw [hx]; exact hn
      generalize f j = x at *
      by_cases e1 : x < 0
      · go_wp2
        go_ret2
        exact ⟨rfl, rfl⟩
      · by_cases e2 : 8 ≤ x
        · go_wp2
          go_ret2
          exact ⟨rfl, rfl⟩
        · go_wp2
          go_round
          case rel => exact ⟨j + 1, _, rfl, by omega, by go_num, HF.out x rfl (by omega)⟩
          case measure => simp [intOf]; omega
    · exfalso
      obtain ⟨m, hm, hx⟩ := HB.out
      exact HG.out m (by omega) hx
theorem Turn_ok (k : Int) (l : Nat) (f : Nat → Int) (k0 : 0 ≤ k) (hk : ¬ 1099511627776 ≤ k) (hl : l ≤ 64) (h0 : 0 < l) (hb : ¬ bad l f) : Tn 23 k l f (f (k.toNat % l)) 0 := by
  intro w a c hA
  have HA : Hid (Arg .i64 w a l f) := hA
  have HB : Hid (∀ m, m < l → ¬ (f m < 0 ∨ 8 ≤ f m)) := fun m hm h => hb ⟨m, hm, h⟩
  have hr : k.toNat % l < l := Nat.mod_lt _ h0
  have hR : k.tmod l = ((k.toNat % l : Nat) : Int) := by
    rw [Int.tmod_eq_emod_of_nonneg k0]
    conv => lhs; rw [← Int.toNat_of_nonneg k0]
    rfl
  clear hA hb
  generalize k.toNat % l = r at *
  obtain ⟨b, off, rfl, hc⟩ := HA.out.at' (Below.refl _ _) hr
  have HF : Hid (∃ y, y = f r) := ⟨_, rfl⟩
  generalize hy : f r = y at *
  have HY : Hid (f r = y) := hy
  clear hy
  go_enter Try.func23, Try.ntmps23
  go_wp2_with fail
  go_loop [7, 18] (fun p i => ∃ (j : Nat) (vv : Value), vv = p ∧ j ≤ l ∧ i = .int .i64 j) (fun _ i => l - (intOf i).toNat)
  case atStart => exact ⟨0, _, rfl, by omega, rfl⟩
  case round =>
    obtain ⟨j, vv, hvv, hj, rfl⟩ := hrel
    subst hvv
    by_cases hlt : j < l
    · obtain ⟨b', off', e', hc'⟩ := HA.out.at' (Below.refl _ _) hlt
      cases e'
      have hx := HB.out j hlt
      generalize f j = x at *
      have x1 : ¬ x < 0 := by omega
      have x2 : ¬ 8 ≤ x := by omega
      clear hx
      go_wp2
      go_round
      case rel => exact ⟨j + 1, _, rfl, by omega, by go_num⟩
      case measure => simp [intOf]; omega
    · go_wp2
      go_ret2
      exact ⟨rfl, rfl⟩
theorem rTurn_bad (k : Int) (l : Nat) (f : Nat → Int) (hk : ¬ 1099511627776 ≤ k) (hl : l ≤ 64) (h0 : 0 < l) (hb : bad l f) : Tn 24 k l f 0 2 := by
  intro w a c hA
  have HA : Hid (Arg .i64 w a l f) := hA
  have HB : Hid (bad l f) := hb
  clear hA hb
  go_enter Try.func24, Try.ntmps24
  go_wp2_with fail
  go_loop [6] (fun i => ∃ (j : Nat), j ≤ l ∧ i = .int .i64 j ∧ ∀ m, m < j → ¬ (f m < 0 ∨ 8 ≤ f m)) (fun i => l - (intOf i).toNat)
  case atStart => exact ⟨0, by omega, rfl, fun j hj => by omega⟩
  case round =>
    obtain ⟨j, hj, rfl, hg⟩ := hrel
    have HG : Hid (∀ m, m < j → ¬ (f m < 0 ∨ 8 ≤ f m)) := hg
    clear hg
    by_cases hlt : j < l
    · obtain ⟨b, off, rfl, hc⟩ := HA.out.at' (Below.refl _ _) hlt
      have HF : Hid (∀ x, f j = x → ¬ (x < 0 ∨ 8 ≤ x) → ∀ m, m < j + 1 → ¬ (f m < 0 ∨ 8 ≤ f m)) := by
        intro x hx hn m hm
        by_cases q : m < j
        · exact HG.out m q
        · obtain rfl : m = j := by omega
          rw [hx]; exact hn
      generalize f j = x at *
      by_cases e1 : x < 0
      · go_wp2
        go_ret2
        exact ⟨rfl, rfl⟩
      · by_cases e2 : 8 ≤ x
        · go_wp2
          go_ret2
          exact ⟨rfl, rfl⟩
        · go_wp2
          go_round
          case rel => exact ⟨j + 1, by omega, by go_num, HF.out x rfl (by omega)⟩
          case measure => simp [intOf]; omega
    · exfalso
      obtain ⟨m, hm, hx⟩ := HB.out
      exact HG.out m (by omega) hx
theorem rTurn_ok (k : Int) (l : Nat) (f : Nat → Int) (k0 : 0 ≤ k) (hk : ¬ 1099511627776 ≤ k) (hl : l ≤ 64) (h0 : 0 < l) (hb : ¬ bad l f) : Tn 24 k l f (f (k.toNat % l)) 0 := by
  intro w a c hA
  have HA : Hid (Arg .i64 w a l f) := hA
  have HB : Hid (∀ m, m < l → ¬ (f m < 0 ∨ 8 ≤ f m)) := fun m hm h => hb ⟨m, hm, h⟩
  have hr : k.toNat % l < l := Nat.mod_lt _ h0
  have hR : k.tmod l = ((k.toNat % l : Nat) : Int) := by
    rw [Int.tmod_eq_emod_of_nonneg k0]
    conv => lhs; rw [← Int.toNat_of_nonneg k0]
    rfl
  clear hA hb
  generalize k.toNat % l = r at *
  obtain ⟨b, off, rfl, hc⟩ := HA.out.at' (Below.refl _ _) hr
  have HF : Hid (∃ y, y = f r) := ⟨_, rfl⟩
  generalize hy : f r = y at *
  have HY : Hid (f r = y) := hy
  clear hy
  go_enter Try.func24, Try.ntmps24
  go_wp2_with fail
  go_loop [6] (fun i => ∃ (j : Nat), j ≤ l ∧ i = .int .i64 j) (fun i => l - (intOf i).toNat)
  case atStart => exact ⟨0, by omega, rfl⟩
  case round =>
    obtain ⟨j, hj, rfl⟩ := hrel
    by_cases hlt : j < l
    · obtain ⟨b', off', e', hc'⟩ := HA.out.at' (Below.refl _ _) hlt
      cases e'
      have hx := HB.out j hlt
      generalize f j = x at *
      have x1 : ¬ x < 0 := by omega
      have x2 : ¬ 8 ≤ x := by omega
      clear hx
      go_wp2
      go_round
      case rel => exact ⟨j + 1, by omega, by go_num⟩
      case measure => simp [intOf]; omega
    · go_wp2
      go_ret2
      exact ⟨rfl, rfl⟩
/-- What both answer. -/
theorem Turns (k : Int) (l : Nat) (f : Nat → Int) (k0 : 0 ≤ k) (hm : l ≤ maxLen) : ∃ v er, Tn 23 k l f v er ∧ Tn 24 k l f v er := by
  by_cases hk : 1099511627776 ≤ k
  · exact ⟨_, _, Turn_halt k l f hk, rTurn_halt k l f hk⟩
  by_cases hl : 64 < l
  · exact ⟨_, _, Turn_many k l f hk hl hm, rTurn_many k l f hk hl hm⟩
  by_cases h0 : l = 0
  · subst h0
    exact ⟨_, _, Turn_none k f hk, rTurn_none k f hk⟩
  by_cases hb : bad l f
  · exact ⟨_, _, Turn_bad k l f hk (by omega) (by omega) hb, rTurn_bad k l f hk (by omega) (by omega) hb⟩
  · exact ⟨_, _, Turn_ok k l f k0 hk (by omega) (by omega) hb, rTurn_ok k l f k0 hk (by omega) (by omega) hb⟩
theorem EqInts_any {w : World} {a1 a2 : Option Addr} {l c1 c2 : Nat} {f : Nat → Int} (hl : l ≤ maxLen) (h1 : Arg .i64 w a1 l f) (h2 : Arg .i64 w a2 l f) :
    Calls Try.prog 25 #[.slice a1 l c1, .slice a2 l c2] w fun e w' => e = .returned (.bool true) ∧ ∃ m, w' = w.drewN m := by
  have H1 : Hid (Arg .i64 w a1 l f) := h1
  have H2 : Hid (Arg .i64 w a2 l f) := h2
  clear h1 h2
  unfold maxLen at hl
  go_enter Try.func25, Try.ntmps25
  go_wp2
  go_loopw [5] (fun i wr => ∃ k : Nat, k ≤ l ∧ i = .int .i64 k ∧ ∃ m, wr = w.drewN m) (fun i _ => l - (intOf i).toNat)
  case atStart => exact ⟨0, by omega, rfl, 0, rfl⟩
  case round =>
    obtain ⟨k, hk, rfl, m, rfl⟩ := hrel
    by_cases hlt : k < l
    · obtain ⟨b, o, rfl, d1⟩ := H1.out.at' (Below.refl _ _) hlt
      obtain ⟨b', o', rfl, d2⟩ := H2.out.at' (Below.refl _ _) hlt
      have d1 : (w.drewN m).cell? ⟨b, o + k, none⟩ = some (.int .i64 (f k)) := d1
      have d2 : (w.drewN m).cell? ⟨b', o' + k, none⟩ = some (.int .i64 (f k)) := d2
      generalize f k = v at *
      go_wp2
      go_quiet (fail)
      go_wp2
      go_roundw
      case rel => exact ⟨k + 1, by omega, by go_num, m + nq, by first | rfl | simp [World.drewN_drewN]⟩
      case measure => simp [intOf]; omega
    · obtain rfl : k = l := by omega
      go_wp2
      go_ret
      exact ⟨rfl, m, rfl⟩
theorem Try.infoI : (Try.prog.info? 3).map (fun i => (i.zero, i.size, i.bytes)) = some (some (.int .i64 0), 1, 8) := by kernel_rfl
/-- Numbers as values. -/
def vals (l : Nat) (f : Nat → Int) : List Value := (List.range l).map fun i => .int .i64 (f i)
theorem vals_len (l : Nat) (f : Nat → Int) : (vals l f).length = l := by simp [vals]
theorem vals_get {l : Nat} {f : Nat → Int} {i : Nat} (hi : i < l) : (vals l f)[i]? = some (.int .i64 (f i)) := by simp [vals, hi]
theorem vals_one (l : Nat) (f : Nat → Int) : ∀ v ∈ vals l f, v.oneCell' = true := by
  intro v hv
  simp only [vals, List.mem_map] at hv
  obtain ⟨i, _, rfl⟩ := hv
  rfl
/-- What CopyInts gives: the same numbers, in memory of its own. -/
def Cpy (w : World) (l : Nat) (f : Nat → Int) (e : Ending) (w' : World) : Prop := ∃ a c, e = .returned (.slice a l c) ∧ Arg .i64 w' a l f ∧ w.grownBy w' none
theorem cpy_of {w w' : World} {l : Nat} {f : Nat → Int} {v : Value} (o : w'.ownsRow w.heap.size 3 1 v (0 + l) ([] ++ vals l f)) (g : w.grownBy w' (Value.slice none 0 0).ownBlock) : Cpy w l f (.returned v) w' := by
  rw [Nat.zero_add, List.nil_append] at o
  obtain ⟨_, ⟨rfl, rfl⟩ | ⟨g', cap, cur, rfl, hb, hw, hc, hm, hs, ht⟩⟩ := o
  · exact ⟨none, 0, rfl, Or.inl rfl, g⟩
  · refine ⟨_, _, rfl, Or.inr ⟨g', 0, rfl, (Array.getElem?_eq_some_iff.1 hw).1, fun i hi => ?_⟩, g⟩
    rw [cell_of_row w' g' (0 + i) _ 3 (0, 0) hw, Nat.zero_add, ← Array.getElem?_toList, ← vals_get hi, ← ht, Nat.mul_one, List.getElem?_take_of_lt hi]
theorem CopyInts_any {w : World} {a : Option Addr} {l c : Nat} {f : Nat → Int} (hl : l * 8 ≤ 140737488351232) (h : Arg .i64 w a l f) (hn : a = none → l = 0 ∧ c = 0) :
    Calls Try.prog 22 #[.slice a l c] w (Cpy w l f) := by
  obtain ⟨i0, hi0, hz0, hz1, hz2⟩ := info_parts Try.infoI
  have o1 : w.ownsRow w.heap.size 3 1 (.slice none 0 0) 0 [] := World.ownsRow_nil _ _ _ _
  have HQ : Hid (∀ v w', w'.ownsRow w.heap.size 3 1 v (0 + l) ([] ++ vals l f) → w.grownBy w' (Value.slice none 0 0).ownBlock → Cpy w l f (.returned v) w') := fun v w' => cpy_of
  cases a with
  | none =>
    obtain ⟨rfl, rfl⟩ := hn rfl
    go_enter Try.func22, Try.ntmps22
    go_wp2_with (at_builtin; refine wpList_append_own_none rfl (.tmp 4) (.tmp 5) 43 rfl w.heap.size 3 i0 1 Try.underlying43 hi0 (.slice none 0 0) 0 [] rfl o1 rfl ?_)
    go_ret
    exact HQ.out _ _ o1 (World.grownBy.refl _ _)
  | some ad =>
    have HC : Hid (∀ j u, (vals l f)[j]? = some u → w.cell? (ad.add j) = some u) := by
      intro j u hu
      have hj : j < l := by have := (List.getElem?_eq_some_iff.1 hu).1; rwa [vals_len] at this
      obtain ⟨b, off, e, hc⟩ := h.at' (Below.refl _ _) hj
      cases e
      rw [vals_get hj] at hu
      rw [Go.WideShapes.add_plain, hc]
      exact hu
    have HL : Hid ((vals l f).length = l * 1) := by unfold Hid; rw [vals_len]; omega
    have HV : Hid (∀ u ∈ vals l f, u.oneCell' = true) := vals_one l f
    clear h hn
    generalize vals l f = xs at *
    go_enter Try.func22, Try.ntmps22
    go_wp2_with (at_builtin; refine wpList_append_own _ rfl (.tmp 4) (.tmp 5) 43 rfl w.heap.size 3 i0 _ 1 8 Try.underlying43 hi0 hz0 hz1 hz2 rfl (by decide) (.slice none 0 0) 0 [] rfl o1 ad l c xs rfl HL.out HC.out HV.out (by unfold maxLen; omega) (by omega) (Nat.le_refl _) ?_; intro v1 w1 o1' gr1 nil1)
    go_ret
    exact HQ.out _ _ o1' gr1
end Go.Proofs.Ytbaonclncfjneaa
