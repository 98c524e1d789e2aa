/- The library's contracts of slices.BinarySearch laid at this program: a table of numbers and a theorem, each field a fact of the program's own; no condition. -/
import Derived.Test.YtkbpnkjjmipjfaaGreatRows
import Derived.Test.YtkbpnkjjmipjfaaGreatVPa
import Derived.WalkKit
import Derived.Shelf.Slices.SearchI
import Derived.Deep.RegionHeld3
import Derived.Deep.RegionWith
namespace Go.Proofs.YtkbpnkjjmipjfaaGreat
open Go.Shelf
def binA_ren : Go.Shelf.Ren := ⟨fun | 25 => 217 | 31 => 155 | 32 => 240 | 37 => 197 | n => n, fun | 22 => 25 | 3 => 3 | 4 => 4 | 40 => 221 | 0 => 0 | n => n, fun | n => n⟩
theorem binA : Go.Proofs.Lays2.n25 Tryz.prog binA_ren := {
  mixed := by kernel_rfl
  f25 := Tryz.func217.trans (congrArg some (by kernel_rfl))
  f31 := Tryz.func155.trans (congrArg some (by kernel_rfl))
  f32 := Tryz.func240.trans (congrArg some (by kernel_rfl))
  f37 := Tryz.func197.trans (congrArg some (by kernel_rfl))
  t0 := Tryz.underlying0
  a0 := Tryz.isAgg0
  z0 := Tryz.sizeOf0
  v0 := Tryz.zeroValue0
  t3 := Tryz.underlying3
  a3 := Tryz.isAgg3
  z3 := Tryz.sizeOf3
  v3 := Tryz.zeroValue3
  t4 := Tryz.underlying4
  a4 := Tryz.isAgg4
  z4 := Tryz.sizeOf4
  v4 := Tryz.zeroValue4
  t22 := Tryz.underlying25
  a22 := Tryz.isAgg25
  z22 := Tryz.sizeOf25
  v22 := Tryz.zeroValue25
  t40 := Tryz.underlying221
  a40 := Tryz.isAgg221
  z40 := Tryz.sizeOf221
  v40 := Tryz.zeroValue221 }
end Go.Proofs.YtkbpnkjjmipjfaaGreat
namespace Go.Proofs.YtkbpnkjjmipjfaaGreat
open Go.ChangeShapes Go.WideShapes Go.ChangeAt Go.RowKit
set_option linter.unusedVariables false

theorem coloursMayBe_any {w : World} {q : Option Addr} {l m : Nat} {f : Nat → Int} (C : Int) (hl : l * 8 ≤ 140737488351232) (hA : Arg w q l f) :
    Calls Tryz.prog 233 #[.slice q l m, .int .i64 C] w fun e w' => e = .returned (.bool (rise C f l && decide (0 < l))) ∧ w' = w := by
  have HA : Hid (Arg w q l f) := hA
  clear hA
  go_enter Tryz.func233, Tryz.ntmps233
  go_wp2
  go_loopw [5, 7, 10] (fun la' n' i wr => ∃ (k : Nat) (vv : Value), vv = n' ∧ k ≤ l ∧ i = .int .i64 k ∧ la' = .int .i64 (la f k) ∧ rise C f k = true ∧ wr = w) (fun _ _ i _ => l - (intOf i).toNat)
  case atStart => exact ⟨0, _, rfl, by omega, rfl, rfl, rfl, rfl⟩
  case round =>
    obtain ⟨k, vv, hvv, hk, rfl, rfl, hr, rfl⟩ := hrel
    subst hvv
    by_cases hlt : k < l
    · obtain ⟨b, o, rfl, d1⟩ := HA.out.at' (Below.refl _ _) hlt
      have hs : Hid (rise C f (k + 1) = (rise C f k && (decide (la f k < f k) && decide (f k < C)))) := rfl
      have hz : Hid (la f (k + 1) = f k) := la_succ f k
      have HR : Hid (rise C f k = true) := hr
      have HN : Hid (rise C f (k + 1) = false → rise C f l = false) := fun h => by
        cases h2 : rise C f l
        · rfl
        · rw [rise_less h2 (show k + 1 ≤ l by omega)] at h; cases h
      clear hr
      generalize la f k = p at *
      generalize f k = v at *
      by_cases h1 : p < v
      · by_cases h2 : v < C
        · go_wp2
          go_roundw
          case rel => exact ⟨k + 1, _, rfl, by omega, by go_num, by rw [hz.out], by rw [hs.out, HR.out]; simp [h1, h2], by first | rfl | trivial⟩
          case measure => simp [intOf]; omega
        · have hf : rise C f l = false := HN.out (by rw [hs.out]; simp [h2])
          have HF : Hid (rise C f l = false) := hf
          clear hf HN hs hz HR
          go_wp2
          go_ret
          exact ⟨ret_bool (by rw [HF.out]; rfl), rfl⟩
      · have hf : rise C f l = false := HN.out (by rw [hs.out]; simp [h1])
        have HF : Hid (rise C f l = false) := hf
        clear hf HN hs hz HR
        go_wp2
        go_ret
        exact ⟨ret_bool (by rw [HF.out]; rfl), rfl⟩
    · obtain rfl : k = l := by omega
      have HR : Hid (rise C f k = true) := hr
      clear hr
      go_wp2
      go_ret
      exact ⟨ret_bool (by rw [HR.out]; simp), rfl⟩
theorem has_contains (l : Nat) (f : Nat → Int) (x : Int) : ((List.range l).map f).contains x = has l f x := by
  rw [Bool.eq_iff_iff, has_iff]
  simp
theorem Search_ok {w : World} {q : Option Addr} {l m : Nat} {f : Nat → Int} {C : Int} (hl : l * 8 ≤ 140737488351232) (h0 : 0 < l) (hA : Arg w q l f) (hr : rise C f l = true) (x : Int) :
    Calls Tryz.prog 217 #[.slice q l m, .int .i64 x] w fun e w' => ∃ k, e = .returned (.tuple #[.int .i64 k, .bool (has l f x)]) ∧ Below w.heap.size w w' := by
  rcases hA with h | ⟨b, off, rfl, hb, hc⟩
  · omega
  · have C := Any.slices_BinarySearch_int binA b off l m ((List.range l).map f) x w (by simp) (by omega) (fun j hj => by
      have hj' : j < l := by simpa using hj
      rw [hc j hj']
      simp [List.getD_eq_getElem?_getD, hj']) (by
        rw [List.take_of_length_le (by simp), List.pairwise_iff_getElem]
        intro i j hi hj hij
        simp at hi hj ⊢
        exact Int.le_of_lt (rise_mono hr hij hj))
    rw [show binA_ren.f 25 = 217 from rfl, List.take_of_length_le (by simp), has_contains] at C
    refine C.mono ?_
    rintro e w' ⟨rfl, k, rfl⟩
    exact ⟨_, rfl, below_drewN (Below.refl _ _) k⟩
def shp' (x : Pa) (pf : Nat → Pa) (k : Nat) : Bool := (List.range k).any fun i => sh1 x (pf i) (pf i).n
theorem shp'_succ (x : Pa) (pf : Nat → Pa) (k : Nat) : shp' x pf (k + 1) = (shp' x pf k || sh1 x (pf k) (pf k).n) := by simp [shp', List.range_succ]
theorem shp'_less {x : Pa} {pf : Nat → Pa} {k n : Nat} (h : shp' x pf k = true) (hk : k ≤ n) : shp' x pf n = true := by
  simp only [shp', List.any_eq_true, List.mem_range] at h ⊢
  obtain ⟨i, hi, h⟩ := h
  exact ⟨i, by omega, h⟩
theorem sh1_less {x y : Pa} {k n : Nat} (h : sh1 x y k = true) (hk : k ≤ n) : sh1 x y n = true := by
  simp only [sh1, List.any_eq_true, List.mem_range] at h ⊢
  obtain ⟨i, hi, h⟩ := h
  exact ⟨i, by omega, h⟩
set_option maxHeartbeats 1000000 in
theorem sharesColour_any {w : World} {q : Option Addr} {m : Nat} {x : Pa} {pa : Option Addr} {n pc : Nat} {ca : Nat → Option Addr} {cc : Nat → Nat} {pf : Nat → Pa} {C : Int}
    (hl : x.n * 8 ≤ 140737488351232) (h0 : 0 < x.n) (hA : Arg w q x.n x.f) (hr : rise C x.f x.n = true) (hn : n ≤ 8) (hP : Prs w pa n ca cc pf) (hcl : ∀ i, i < n → (pf i).n * 8 ≤ 140737488351232) :
    Calls Tryz.prog 234 #[.slice q x.n m, .slice pa n pc] w (One (.bool (shp' x pf n)) w) := by
  have HA : Hid (Arg w q x.n x.f) := hA
  have HP : Hid (Prs w pa n ca cc pf) := hP
  have SC : Hid (∀ w', Arg w' q x.n x.f → ∀ v, Calls Tryz.prog 217 #[.slice q x.n m, .int .i64 v] w' fun e w2 => ∃ k, e = .returned (.tuple #[.int .i64 k, .bool (has x.n x.f v)]) ∧ Below w'.heap.size w' w2) := fun w' h v => Search_ok hl h0 h hr v
  clear hA hP hr
  go_enter Tryz.func234, Tryz.ntmps234
  go_wp2
  go_loopw [13] (fun i wr => ∃ k : Nat, k ≤ n ∧ i = .int .i64 k ∧ shp' x pf k = false ∧ Below w.heap.size w wr) (fun i _ => n - (intOf i).toNat)
  case atStart => exact ⟨0, by omega, rfl, rfl, Below.refl _ _⟩
  case round =>
    obtain ⟨k, hk, rfl, hs, hb⟩ := hrel
    have HS : Hid (shp' x pf k = false) := hs
    have HB : Hid (Below w.heap.size w wr) := hb
    clear hs hb
    by_cases hlt : k < n
    · obtain ⟨b, off, rfl, ⟨_, c0, c1, c2, c3, c4, c5, c6, c7⟩⟩ := (HP.out.below HB.out).at' hlt
      have hcol : Hid (Arg wr (ca k) (pf k).n (pf k).f) := (HP.out.below HB.out).col hlt
      have hlen := hcl k hlt
      have HS1 : Hid (shp' x pf (k + 1) = (shp' x pf k || sh1 x (pf k) (pf k).n)) := shp'_succ x pf k
      have HX : Hid (∀ j, j ≤ (pf k).n → sh1 x (pf k) j = true → shp' x pf n = true) := fun j hj h => shp'_less (by rw [shp'_succ, sh1_less h hj]; simp : shp' x pf (k + 1) = true) (by omega)
      generalize pf k = y at *
      generalize ca k = qa at *
      generalize cc k = qm at *
      go_wp2
      obtain ⟨W, hW, HC, HQ, HW⟩ : ∃ W, wr.alloc (.cells #[.slice qa y.n qm, .int .i64 y.o, .int .i64 y.u, .int .i64 y.t, .int .i64 y.s, .int .i64 y.r, .int .i64 y.d, .int .i64 y.z] 109) = W ∧ Hid (Arg W qa y.n y.f) ∧ Hid (Arg W q x.n x.f) ∧ Hid (Below w.heap.size w W) :=
        ⟨_, rfl, hcol.out.below (below_new _ _), (HA.out.below HB.out).below (below_new _ _), HB.out.trans ((below_new _ _).mono HB.out.size)⟩
      rw [hW]
      clear hW c0 c1 c2 c3 c4 c5 c6 c7 hcol HB
      go_loopw [20] (fun i wr => ∃ j : Nat, j ≤ y.n ∧ i = .int .i64 j ∧ sh1 x y j = false ∧ Below W.heap.size W wr) (fun i _ => y.n - (intOf i).toNat)
      case atStart => exact ⟨0, by omega, rfl, rfl, Below.refl _ _⟩
      case round =>
        obtain ⟨j, hj, rfl, hs, hb⟩ := hrel
        have HT : Hid (sh1 x y j = false) := hs
        have HB : Hid (Below W.heap.size W wr) := hb
        clear hs hb
        by_cases hlt : j < y.n
        · obtain ⟨b, o, rfl, d1⟩ := HC.out.at' HB.out hlt
          have HT1 : Hid (sh1 x y (j + 1) = (sh1 x y j || has x.n x.f (y.f j))) := sh1_succ x y j
          have HXj : Hid (sh1 x y (j + 1) = true → shp' x pf n = true) := HX.out (j + 1) (by omega)
          have S1 : Hid (Calls Tryz.prog 217 #[.slice q x.n m, .int .i64 (y.f j)] wr fun e w2 => ∃ k, e = .returned (.tuple #[.int .i64 k, .bool (has x.n x.f (y.f j))]) ∧ Below wr.heap.size wr w2) := SC.out wr (HQ.out.below HB.out) (y.f j)
          clear HX SC
          generalize y.f j = v at *
          generalize hh : has x.n x.f v = bb at *
          clear hh
          go_wp2_with fail
          refine S1.out.mono ?_
          rintro e w2 ⟨kk, rfl, k2⟩
          have HB2 : Hid (Below W.heap.size W w2) := HB.out.trans (k2.mono HB.out.size)
          clear S1 k2 HB d1
          cases bb
          · go_wp2
            go_roundw
            case rel => exact ⟨j + 1, by omega, by go_num, by rw [HT1.out, HT.out]; rfl, HB2.out⟩
            case measure => simp [intOf]; omega
          · go_wp2
            go_ret
            exact ⟨ret_bool (HXj.out (by rw [HT1.out]; simp)).symm, HW.out.trans (HB2.out.mono HW.out.size)⟩
        · obtain rfl : j = y.n := by omega
          go_wp2
          go_roundw
          case rel => exact ⟨k + 1, by omega, by go_num, by rw [HS1.out, HS.out, HT.out]; rfl, HW.out.trans (HB.out.mono HW.out.size)⟩
          case measure => simp [intOf]; omega
    · obtain rfl : k = n := by omega
      go_wp2
      go_ret
      exact ⟨ret_bool HS.out.symm, HB.out⟩
end Go.Proofs.YtkbpnkjjmipjfaaGreat
namespace Go.Proofs.YtkbpnkjjmipjfaaGreat
open Go.ChangeShapes Go.WideShapes Go.ChangeAt Go.RowKit
set_option linter.unusedVariables false

theorem cframesMayBe_any (a : Int) (w : World) : Calls Tryz.prog 96 #[.int .i64 a] w fun e w' => e = .returned (.bool (inB a 1 4096)) ∧ w' = w := by
  go_enter Tryz.func96, Tryz.ntmps96
  go_wp2
  all_goals (go_ret; exact ⟨ret_bool (by rw [Bool.eq_iff_iff]; simp [inB]; omega), rfl⟩)
theorem ccoloursMayBe_any (a : Int) (w : World) : Calls Tryz.prog 130 #[.int .i64 a] w fun e w' => e = .returned (.bool (inB a 1 16)) ∧ w' = w := by
  go_enter Tryz.func130, Tryz.ntmps130
  go_wp2
  all_goals (go_ret; exact ⟨ret_bool (by rw [Bool.eq_iff_iff]; simp [inB]; omega), rfl⟩)
theorem ccolourMayBe_ok (c n : Int) (h : inB n 1 16 = true) (w : World) : Calls Tryz.prog 97 #[.int .i64 c, .int .i64 n] w fun e w' => e = .returned (.bool (inB c 0 (n - 1))) ∧ w' = w := by
  go_enter Tryz.func97, Tryz.ntmps97
  go_wp2_with (go_at_call 130; refine (ccoloursMayBe_any _ _).mono ?_; rintro e w' ⟨rfl, rfl⟩)
  all_goals (go_ret; exact ⟨ret_bool (by rw [Bool.eq_iff_iff]; simp [inB]; omega), rfl⟩)
theorem ct_quo {F n c : Int} (hn : n = 1 ∨ n = 2 ∨ n = 4 ∨ n = 8 ∨ n = 16) (hF : F % n = 0) (h0 : 0 ≤ c) (h1 : c < n) : (F - c + n - 1) / n = F / n := by
  rcases hn with rfl | rfl | rfl | rfl | rfl <;> omega
theorem quo_range {F n : Int} (hn : n = 1 ∨ n = 2 ∨ n = 4 ∨ n = 8 ∨ n = 16) (hF : 1 ≤ F) (hF1 : F ≤ 4096) : 0 ≤ F / n ∧ F / n ≤ 4096 := by
  rcases hn with rfl | rfl | rfl | rfl | rfl <;> omega
theorem Count_quo {F n c : Int} (hF : 1 ≤ F) (hF1 : F ≤ 4096) (hn : n = 1 ∨ n = 2 ∨ n = 4 ∨ n = 8 ∨ n = 16) (hm : F % n = 0) (h0 : 0 ≤ c) (h1 : c < n) (w : World) :
    Calls Tryz.prog 46 #[.int .i64 F, .int .i64 n, .int .i64 c] w fun e w' => e = .returned (.tuple #[.int .i64 (F / n), .int .i64 0]) ∧ w' = w := by
  have ha := inB_t hF hF1
  have hb := inB_t h0 (show c ≤ n - 1 by omega)
  have hc : inB n 1 16 = true := inB_t (by omega) (by omega)
  have hq : (F - c + n - 1).tdiv n = F / n := (Int.tdiv_eq_ediv_of_nonneg (by omega)).trans (ct_quo hn hm h0 h1)
  have hn0 : ¬ n = 0 := by omega
  have hn1 : n ≤ 16 := by omega
  obtain ⟨g0, g1⟩ := quo_range hn hF hF1
  have C1 : Hid (∀ w, Calls Tryz.prog 97 #[.int .i64 c, .int .i64 n] w fun e w' => e = .returned (.bool (inB c 0 (n - 1))) ∧ w' = w) := fun w => ccolourMayBe_ok c n hc w
  rw [hb] at C1
  generalize F / n = q at *
  clear hn hm
  go_enter Tryz.func46, Tryz.ntmps46
  go_wp2_with (first | (go_at_call 96; refine (cframesMayBe_any _ _).mono ?_; rintro e w' ⟨rfl, rfl⟩) | (go_at_call 97; refine (C1.out _).mono ?_; rintro e w' ⟨rfl, rfl⟩))
  go_ret2
  exact ⟨rfl, rfl⟩
structure Cp (w0 w : World) (g b : Nat) (a : Ad) (c : Cf) (q : Option Addr) (m : Nat) (x : Pa) : Prop where
  be : Below w0.heap.size w0 w
  bx : Sev w g a c
  px : Ebx w b q m x
  ci : Cin w a c
  ag : Arg w q x.n x.f
theorem Cp.below {w0 w w' : World} {g b : Nat} {a : Ad} {c : Cf} {q : Option Addr} {m : Nat} {x : Pa} (h : Cp w0 w g b a c q m x) (k : Below w.heap.size w w') : Cp w0 w' g b a c q m x :=
  ⟨h.be.trans (k.mono h.be.size), h.bx.below k, h.px.below k, h.ci.below k, h.ag.below k⟩
theorem cp_new {w : World} {a : Ad} {c : Cf} {q : Option Addr} {m : Nat} {x : Pa} (h : Cin w a c) (hA : Arg w q x.n x.f) :
    Cp w ((w.alloc (.cells #[.int .i64 c.F, .int .i64 c.C, .int .i64 c.W, .int .i64 c.S, .int .i64 c.V, .int .i64 c.T, .int .u64 c.k.l1, .int .u64 c.k.llc, .int .u64 c.k.mi, .int .u64 c.k.fa, .int .u64 c.k.st, .int .u64 c.k.di, .int .u64 c.sl, .int .u64 c.pd, .int .u64 c.ft, .slice a.ta c.tn a.tc, .slice a.pa c.pn a.pc] 28)).alloc (.cells #[.slice q x.n m, .int .i64 x.o, .int .i64 x.u, .int .i64 x.t, .int .i64 x.s, .int .i64 x.r, .int .i64 x.d, .int .i64 x.z] 109)) w.heap.size (w.heap.size + 1) a c q m x :=
  ⟨below_two _ _ _, (sev_new w a c).below (below_new _ _), by simpa using ebx_new (w.alloc (.cells #[.int .i64 c.F, .int .i64 c.C, .int .i64 c.W, .int .i64 c.S, .int .i64 c.V, .int .i64 c.T, .int .u64 c.k.l1, .int .u64 c.k.llc, .int .u64 c.k.mi, .int .u64 c.k.fa, .int .u64 c.k.st, .int .u64 c.k.di, .int .u64 c.sl, .int .u64 c.pd, .int .u64 c.ft, .slice a.ta c.tn a.tc, .slice a.pa c.pn a.pc] 28)) q m x, (h.below (below_new _ _)).below (below_new _ _), (hA.below (below_new _ _)).below (below_new _ _)⟩
theorem total_ok {w : World} {a : Ad} {c : Cf} {q : Option Addr} {m : Nat} {x : Pa} (hc : Cin w a c) (hM : c.MOk) (hA : Arg w q x.n x.f) (hr : rise c.C x.f x.n = true) :
    Calls Tryz.prog 95 #[.agg #[.int .i64 c.F, .int .i64 c.C, .int .i64 c.W, .int .i64 c.S, .int .i64 c.V, .int .i64 c.T, .int .u64 c.k.l1, .int .u64 c.k.llc, .int .u64 c.k.mi, .int .u64 c.k.fa, .int .u64 c.k.st, .int .u64 c.k.di, .int .u64 c.sl, .int .u64 c.pd, .int .u64 c.ft, .slice a.ta c.tn a.tc, .slice a.pa c.pn a.pc], .agg #[.slice q x.n m, .int .i64 x.o, .int .i64 x.u, .int .i64 x.t, .int .i64 x.s, .int .i64 x.r, .int .i64 x.d, .int .i64 x.z]] w (One (.int .i64 (x.n * (c.F / c.C))) w) := by
  have HB0 := cp_new (m := m) hc hA
  obtain ⟨q0, q1⟩ := quo_range hM.C hM.F1 hM.F2
  have CC : Hid (∀ v w, 0 ≤ v → v < c.C → Calls Tryz.prog 46 #[.int .i64 c.F, .int .i64 c.C, .int .i64 v] w fun e w' => e = .returned (.tuple #[.int .i64 (c.F / c.C), .int .i64 0]) ∧ w' = w) := fun v w h0 h1 => Count_quo hM.F1 hM.F2 hM.C hM.FC h0 h1 w
  have hn : x.n ≤ 16 := by
    by_cases h : 0 < x.n
    · have := rise_len hr h
      have := hM.C
      omega
    · omega
  have HR : Hid (∀ j, j < x.n → 0 ≤ x.f j ∧ x.f j < c.C) := fun j hj => ⟨(rise_at hr hj).1, (rise_at hr hj).2.1⟩
  clear hc hM hA hr
  generalize c.F / c.C = Q at *
  go_enter Tryz.func95, Tryz.ntmps95
  go_wp2
  obtain ⟨W, hW, HB⟩ : ∃ W, ((w.alloc (.cells #[.int .i64 c.F, .int .i64 c.C, .int .i64 c.W, .int .i64 c.S, .int .i64 c.V, .int .i64 c.T, .int .u64 c.k.l1, .int .u64 c.k.llc, .int .u64 c.k.mi, .int .u64 c.k.fa, .int .u64 c.k.st, .int .u64 c.k.di, .int .u64 c.sl, .int .u64 c.pd, .int .u64 c.ft, .slice a.ta c.tn a.tc, .slice a.pa c.pn a.pc] 28)).alloc (.cells #[.slice q x.n m, .int .i64 x.o, .int .i64 x.u, .int .i64 x.t, .int .i64 x.s, .int .i64 x.r, .int .i64 x.d, .int .i64 x.z] 109)) = W ∧ Hid (Cp w W w.heap.size (w.heap.size + 1) a c q m x) := ⟨_, rfl, HB0⟩
  rw [hW]
  clear hW HB0
  go_loopw [5, 13] (fun s i wr => ∃ j : Nat, j ≤ x.n ∧ i = .int .i64 j ∧ s = .int .i64 ((j : Int) * Q) ∧ wr = W) (fun _ i _ => x.n - (intOf i).toNat)
  case atStart => exact ⟨0, by omega, rfl, by simp, rfl⟩
  case round =>
    obtain ⟨j, hj, rfl, rfl, rfl⟩ := hrel
    have p1 := prod_le (j : Int) Q 16 4096 (by omega) (by omega) q0 q1
    have hm : Hid (((j + 1 : Nat) : Int) * Q = (j : Int) * Q + Q) := by unfold Hid; rw [Int.natCast_add, Int.add_mul]; simp
    have he : Hid (j = x.n → (j : Int) * Q = x.n * Q) := fun h => by rw [h]
    generalize (j : Int) * Q = s at *
    by_cases hlt : j < x.n
    · obtain ⟨b, o, hq, d1⟩ := HB.out.ag.at' (Below.refl _ _) hlt
      obtain ⟨v0, v1⟩ := HR.out j hlt
      obtain ⟨_, c0, c1, c2, c3, c4, c5, c6, c7, c8, c9, c10, c11, c12, c13, c14, c15, c16⟩ := HB.out.bx
      clear c2 c3 c4 c5 c6 c7 c8 c9 c10 c11 c12 c13 c14 c15 c16
      generalize x.f j = v at *
      subst hq
      go_wp2_with (go_at_call 46; refine (CC.out _ _ v0 v1).mono ?_; rintro e w' ⟨rfl, rfl⟩)
      go_roundw
      case rel => exact ⟨j + 1, by omega, by go_num, by rw [hm.out], by first | rfl | trivial⟩
      case measure => simp [intOf]; omega
    · go_wp2
      go_ret
      exact ⟨ret_int (he.out (by omega)), HB.out.be⟩
theorem framesSuffice_ok {w : World} {a : Ad} {c : Cf} {q : Option Addr} {m : Nat} {x : Pa} (hc : Cin w a c) (hM : c.MOk) (hA : Arg w q x.n x.f) (hr : rise c.C x.f x.n = true) (hq : qOk x = true) :
    Calls Tryz.prog 236 #[.agg #[.int .i64 c.F, .int .i64 c.C, .int .i64 c.W, .int .i64 c.S, .int .i64 c.V, .int .i64 c.T, .int .u64 c.k.l1, .int .u64 c.k.llc, .int .u64 c.k.mi, .int .u64 c.k.fa, .int .u64 c.k.st, .int .u64 c.k.di, .int .u64 c.sl, .int .u64 c.pd, .int .u64 c.ft, .slice a.ta c.tn a.tc, .slice a.pa c.pn a.pc], .agg #[.slice q x.n m, .int .i64 x.o, .int .i64 x.u, .int .i64 x.t, .int .i64 x.s, .int .i64 x.r, .int .i64 x.d, .int .i64 x.z]] w (One (.bool (fit c x)) w) := by
  have HB0 := cp_new (m := m) hc hA
  have TC : Hid (∀ w', Cp w w' w.heap.size (w.heap.size + 1) a c q m x → Calls Tryz.prog 95 #[.agg #[.int .i64 c.F, .int .i64 c.C, .int .i64 c.W, .int .i64 c.S, .int .i64 c.V, .int .i64 c.T, .int .u64 c.k.l1, .int .u64 c.k.llc, .int .u64 c.k.mi, .int .u64 c.k.fa, .int .u64 c.k.st, .int .u64 c.k.di, .int .u64 c.sl, .int .u64 c.pd, .int .u64 c.ft, .slice a.ta c.tn a.tc, .slice a.pa c.pn a.pc], .agg #[.slice q x.n m, .int .i64 x.o, .int .i64 x.u, .int .i64 x.t, .int .i64 x.s, .int .i64 x.r, .int .i64 x.d, .int .i64 x.z]] w' (One (.int .i64 (x.n * (c.F / c.C))) w')) := fun w' h => total_ok h.ci hM h.ag hr
  obtain ⟨q0, q1⟩ := quo_range hM.C hM.F1 hM.F2
  have hC0 : ¬ c.C = 0 := by have := hM.C; omega
  have hq' : c.F.tdiv c.C = c.F / c.C := Int.tdiv_eq_ediv_of_nonneg (by have := hM.F1; omega)
  simp only [qOk, Bool.and_eq_true, inB_iff] at hq
  obtain ⟨⟨o0, o1⟩, ⟨u0, u1⟩, ⟨t0, t1⟩, ⟨s0, s1⟩, ⟨r0, r1⟩, d0, d1⟩ := hq
  have IC : Hid (∀ w, Calls Tryz.prog 249 #[.agg #[.slice q x.n m, .int .i64 x.o, .int .i64 x.u, .int .i64 x.t, .int .i64 x.s, .int .i64 x.r, .int .i64 x.d, .int .i64 x.z]] w (One (.int .i64 (im x)) w)) := fun w => imageFrames_ok o0 o1
  have hi : 1 ≤ im x ∧ im x ≤ 8 := by have := im_ways o0 o1; omega
  obtain ⟨i0, i1⟩ := hi
  have HF : Hid (fit c x = (decide (im x ≤ c.F / c.C) && decide (im x + x.u + x.t + x.s + x.r + x.d ≤ x.n * (c.F / c.C)))) := rfl
  clear hc hM hA hr
  generalize (x.n : Int) * (c.F / c.C) = TT at *
  generalize c.F / c.C = Q at *
  generalize im x = I at *
  generalize fit c x = res at *
  go_enter Tryz.func236, Tryz.ntmps236
  go_wp2_with fail
  obtain ⟨W, hW, HB⟩ : ∃ W, ((w.alloc (.cells #[.int .i64 c.F, .int .i64 c.C, .int .i64 c.W, .int .i64 c.S, .int .i64 c.V, .int .i64 c.T, .int .u64 c.k.l1, .int .u64 c.k.llc, .int .u64 c.k.mi, .int .u64 c.k.fa, .int .u64 c.k.st, .int .u64 c.k.di, .int .u64 c.sl, .int .u64 c.pd, .int .u64 c.ft, .slice a.ta c.tn a.tc, .slice a.pa c.pn a.pc] 28)).alloc (.cells #[.slice q x.n m, .int .i64 x.o, .int .i64 x.u, .int .i64 x.t, .int .i64 x.s, .int .i64 x.r, .int .i64 x.d, .int .i64 x.z] 109)) = W ∧ Hid (Cp w W w.heap.size (w.heap.size + 1) a c q m x) := ⟨_, rfl, HB0⟩
  rw [hW]
  clear hW HB0
  refine (IC.out _).mono ?_
  rintro e w1 ⟨rfl, k1⟩
  have HB1 : Hid (Cp w w1 w.heap.size (w.heap.size + 1) a c q m x) := HB.out.below k1
  clear HB k1 IC
  obtain ⟨_, c0, c1, c2, c3, c4, c5, c6, c7, c8, c9, c10, c11, c12, c13, c14, c15, c16⟩ := HB1.out.bx
  obtain ⟨_, e0, e1, e2, e3, e4, e5, e6, e7⟩ := HB1.out.px
  by_cases hI : I ≤ Q
  · go_wp2_with fail
    refine (TC.out _ HB1.out).mono ?_
    rintro e w2 ⟨rfl, k2⟩
    have FIN : Hid (Below w.heap.size w w2) := HB1.out.be.trans (k2.mono HB1.out.be.size)
    clear k2 HB1 c0 c1 c2 c3 c4 c5 c6 c7 c8 c9 c10 c11 c12 c13 c14 c15 c16 e0 e1 e2 e3 e4 e5 e6 e7 TC
    go_wp2
    all_goals (go_ret; exact ⟨ret_bool (by rw [HF.out, Bool.eq_iff_iff]; simp; try omega), FIN.out⟩)
  · go_wp2_with fail
    go_ret
    exact ⟨ret_bool (by rw [HF.out, Bool.eq_iff_iff]; simp; omega), HB1.out.be⟩
end Go.Proofs.YtkbpnkjjmipjfaaGreat
