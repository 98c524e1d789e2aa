/- What plan's functions of a partition's colours give back: whether they may be, whether an earlier one has one of them, how many frames have them; no condition but those named. -/
import Derived.Test.YtcmgjinjfaialaaGreatP2
import Derived.Test.YtcmgjinjfaialaaGreatLy
namespace Go.Proofs.YtcmgjinjfaialaaGreat
open Go.ChangeShapes Go.WideShapes Go.ChangeAt Go.RowKit
set_option linter.unusedVariables false

theorem coloursMayBe_any {w : World} {q : Option Addr} {l m : Nat} {f : Nat → Int} (C : Int) (hl : l * 8 ≤ 140737488351232) (hA : Arg w q l f) :
    Calls Tryz.prog 64 #[.slice q l m, .int .i64 C] w fun e w' => e = .returned (.bool (rise C f l && decide (0 < l))) ∧ w' = w := by
  have HA : Hid (Arg w q l f) := hA
  clear hA
  go_enter Tryz.func64, Tryz.ntmps64
  go_wp2
  go_loopw [5, 7, 10] (fun la' n' i wr => ∃ (k : Nat) (vv : Value), vv = n' ∧ k ≤ l ∧ i = .int .i64 k ∧ la' = .int .i64 (la f k) ∧ rise C f k = true ∧ wr = w) (fun _ _ i _ => l - (intOf i).toNat)
  case atStart => exact ⟨0, _, rfl, by omega, rfl, rfl, rfl, rfl⟩
  case round =>
    obtain ⟨k, vv, hvv, hk, rfl, rfl, hr, rfl⟩ := hrel
    subst hvv
    by_cases hlt : k < l
    · obtain ⟨b, o, rfl, d1⟩ := HA.out.at' (Below.refl _ _) hlt
      have hs : Hid (rise C f (k + 1) = (rise C f k && (decide (la f k < f k) && decide (f k < C)))) := rfl
      have hz : Hid (la f (k + 1) = f k) := la_succ f k
      have HR : Hid (rise C f k = true) := hr
      have HN : Hid (rise C f (k + 1) = false → rise C f l = false) := fun h => by
        cases h2 : rise C f l
        · rfl
        · rw [rise_less h2 (show k + 1 ≤ l by omega)] at h; cases h
      clear hr
      generalize la f k = p at *
      generalize f k = v at *
      by_cases h1 : p < v
      · by_cases h2 : v < C
        · go_wp2
          go_roundw
          case rel => exact ⟨k + 1, _, rfl, by omega, by go_num, by rw [hz.out], by rw [hs.out, HR.out]; simp [h1, h2], by first | rfl | trivial⟩
          case measure => simp [intOf]; omega
        · have hf : rise C f l = false := HN.out (by rw [hs.out]; simp [h2])
          have HF : Hid (rise C f l = false) := hf
          clear hf HN hs hz HR
          go_wp2
          go_ret
          exact ⟨ret_bool (by rw [HF.out]; rfl), rfl⟩
      · have hf : rise C f l = false := HN.out (by rw [hs.out]; simp [h1])
        have HF : Hid (rise C f l = false) := hf
        clear hf HN hs hz HR
        go_wp2
        go_ret
        exact ⟨ret_bool (by rw [HF.out]; rfl), rfl⟩
    · obtain rfl : k = l := by omega
      have HR : Hid (rise C f k = true) := hr
      clear hr
      go_wp2
      go_ret
      exact ⟨ret_bool (by rw [HR.out]; simp), rfl⟩
theorem has_contains (l : Nat) (f : Nat → Int) (x : Int) : ((List.range l).map f).contains x = has l f x := by
  rw [Bool.eq_iff_iff, has_iff]
  simp
theorem Search_ok {w : World} {q : Option Addr} {l m : Nat} {f : Nat → Int} {C : Int} (hl : l * 8 ≤ 140737488351232) (h0 : 0 < l) (hA : Arg w q l f) (hr : rise C f l = true) (x : Int) :
    Calls Tryz.prog 92 #[.slice q l m, .int .i64 x] w fun e w' => ∃ k, e = .returned (.tuple #[.int .i64 k, .bool (has l f x)]) ∧ Below w.heap.size w w' := by
  rcases hA with h | ⟨b, off, rfl, hb, hc⟩
  · omega
  · have C := Any.slices_BinarySearch_int binA b off l m ((List.range l).map f) x w (by simp) (by omega) (fun j hj => by
      have hj' : j < l := by simpa using hj
      rw [hc j hj']
      simp [List.getD_eq_getElem?_getD, hj']) (by
        rw [List.take_of_length_le (by simp), List.pairwise_iff_getElem]
        intro i j hi hj hij
        simp at hi hj ⊢
        exact Int.le_of_lt (rise_mono hr hij hj))
    rw [show binA_ren.f 25 = 92 from rfl, List.take_of_length_le (by simp), has_contains] at C
    refine C.mono ?_
    rintro e w' ⟨rfl, k, rfl⟩
    exact ⟨_, rfl, below_drewN (Below.refl _ _) k⟩
/-- What sharesColour says: whether one of the first k partitions has one of the colours. -/
def shp' (x : Pa) (pf : Nat → Pa) (k : Nat) : Bool := (List.range k).any fun i => sh1 x (pf i) (pf i).n
theorem shp'_succ (x : Pa) (pf : Nat → Pa) (k : Nat) : shp' x pf (k + 1) = (shp' x pf k || sh1 x (pf k) (pf k).n) := by simp [shp', List.range_succ]
theorem shp'_less {x : Pa} {pf : Nat → Pa} {k n : Nat} (h : shp' x pf k = true) (hk : k ≤ n) : shp' x pf n = true := by
  simp only [shp', List.any_eq_true, List.mem_range] at h ⊢
  obtain ⟨i, hi, h⟩ := h
  exact ⟨i, by omega, h⟩
theorem sh1_less {x y : Pa} {k n : Nat} (h : sh1 x y k = true) (hk : k ≤ n) : sh1 x y n = true := by
  simp only [sh1, List.any_eq_true, List.mem_range] at h ⊢
  obtain ⟨i, hi, h⟩ := h
  exact ⟨i, by omega, h⟩
set_option maxHeartbeats 1000000 in
theorem sharesColour_any {w : World} {q : Option Addr} {m : Nat} {x : Pa} {pa : Option Addr} {n pc : Nat} {ca : Nat → Option Addr} {cc : Nat → Nat} {pf : Nat → Pa} {C : Int}
    (hl : x.n * 8 ≤ 140737488351232) (h0 : 0 < x.n) (hA : Arg w q x.n x.f) (hr : rise C x.f x.n = true) (hn : n ≤ 8) (hP : Prs w pa n ca cc pf) (hcl : ∀ i, i < n → (pf i).n * 8 ≤ 140737488351232) :
    Calls Tryz.prog 65 #[.slice q x.n m, .slice pa n pc] w (One (.bool (shp' x pf n)) w) := by
  have HA : Hid (Arg w q x.n x.f) := hA
  have HP : Hid (Prs w pa n ca cc pf) := hP
  have SC : Hid (∀ w', Arg w' q x.n x.f → ∀ v, Calls Tryz.prog 92 #[.slice q x.n m, .int .i64 v] w' fun e w2 => ∃ k, e = .returned (.tuple #[.int .i64 k, .bool (has x.n x.f v)]) ∧ Below w'.heap.size w' w2) := fun w' h v => Search_ok hl h0 h hr v
  clear hA hP hr
  go_enter Tryz.func65, Tryz.ntmps65
  go_wp2
  go_loopw [13] (fun i wr => ∃ k : Nat, k ≤ n ∧ i = .int .i64 k ∧ shp' x pf k = false ∧ Below w.heap.size w wr) (fun i _ => n - (intOf i).toNat)
  case atStart => exact ⟨0, by omega, rfl, rfl, Below.refl _ _⟩
  case round =>
    obtain ⟨k, hk, rfl, hs, hb⟩ := hrel
    have HS : Hid (shp' x pf k = false) := hs
    have HB : Hid (Below w.heap.size w wr) := hb
    clear hs hb
    by_cases hlt : k < n
    · obtain ⟨b, off, rfl, ⟨_, c0, c1, c2, c3, c4, c5, c6, c7⟩⟩ := (HP.out.below HB.out).at' hlt
      have hcol : Hid (Arg wr (ca k) (pf k).n (pf k).f) := (HP.out.below HB.out).col hlt
      have hlen := hcl k hlt
      have HS1 : Hid (shp' x pf (k + 1) = (shp' x pf k || sh1 x (pf k) (pf k).n)) := shp'_succ x pf k
      have HX : Hid (∀ j, j ≤ (pf k).n → sh1 x (pf k) j = true → shp' x pf n = true) := fun j hj h => shp'_less (by rw [shp'_succ, sh1_less h hj]; simp : shp' x pf (k + 1) = true) (by omega)
      generalize pf k = y at *
      generalize ca k = qa at *
      generalize cc k = qm at *
      go_wp2
      obtain ⟨W, hW, HC, HQ, HW⟩ : ∃ W, wr.alloc (.cells #[.slice qa y.n qm, .int .i64 y.o, .int .i64 y.u, .int .i64 y.t, .int .i64 y.s, .int .i64 y.r, .int .i64 y.d, .int .i64 y.z] 40) = W ∧ Hid (Arg W qa y.n y.f) ∧ Hid (Arg W q x.n x.f) ∧ Hid (Below w.heap.size w W) :=
        ⟨_, rfl, hcol.out.below (below_new _ _), (HA.out.below HB.out).below (below_new _ _), HB.out.trans ((below_new _ _).mono HB.out.size)⟩
      rw [hW]
      clear hW c0 c1 c2 c3 c4 c5 c6 c7 hcol HB
      go_loopw [20] (fun i wr => ∃ j : Nat, j ≤ y.n ∧ i = .int .i64 j ∧ sh1 x y j = false ∧ Below W.heap.size W wr) (fun i _ => y.n - (intOf i).toNat)
      case atStart => exact ⟨0, by omega, rfl, rfl, Below.refl _ _⟩
      case round =>
        obtain ⟨j, hj, rfl, hs, hb⟩ := hrel
        have HT : Hid (sh1 x y j = false) := hs
        have HB : Hid (Below W.heap.size W wr) := hb
        clear hs hb
        by_cases hlt : j < y.n
        · obtain ⟨b, o, rfl, d1⟩ := HC.out.at' HB.out hlt
          have HT1 : Hid (sh1 x y (j + 1) = (sh1 x y j || has x.n x.f (y.f j))) := sh1_succ x y j
          have HXj : Hid (sh1 x y (j + 1) = true → shp' x pf n = true) := HX.out (j + 1) (by omega)
          have S1 : Hid (Calls Tryz.prog 92 #[.slice q x.n m, .int .i64 (y.f j)] wr fun e w2 => ∃ k, e = .returned (.tuple #[.int .i64 k, .bool (has x.n x.f (y.f j))]) ∧ Below wr.heap.size wr w2) := SC.out wr (HQ.out.below HB.out) (y.f j)
          clear HX SC
          generalize y.f j = v at *
          generalize hh : has x.n x.f v = bb at *
          clear hh
          go_wp2_with fail
          refine S1.out.mono ?_
          rintro e w2 ⟨kk, rfl, k2⟩
          have HB2 : Hid (Below W.heap.size W w2) := HB.out.trans (k2.mono HB.out.size)
          clear S1 k2 HB d1
          cases bb
          · go_wp2
            go_roundw
            case rel => exact ⟨j + 1, by omega, by go_num, by rw [HT1.out, HT.out]; rfl, HB2.out⟩
            case measure => simp [intOf]; omega
          · go_wp2
            go_ret
            exact ⟨ret_bool (HXj.out (by rw [HT1.out]; simp)).symm, HW.out.trans (HB2.out.mono HW.out.size)⟩
        · obtain rfl : j = y.n := by omega
          go_wp2
          go_roundw
          case rel => exact ⟨k + 1, by omega, by go_num, by rw [HS1.out, HS.out, HT.out]; rfl, HW.out.trans (HB.out.mono HW.out.size)⟩
          case measure => simp [intOf]; omega
    · obtain rfl : k = n := by omega
      go_wp2
      go_ret
      exact ⟨ret_bool HS.out.symm, HB.out⟩
end Go.Proofs.YtcmgjinjfaialaaGreat
