/- What the document's answer says of a configuration's sizes, turns, and of a partition's colours; no condition but those named. -/
import Derived.Test.YtokaohlgncmoaaaGreatWPa
import Derived.Test.YtokaohlgncmoaaaGreatWRa
import Derived.Test.YtokaohlgncmoaaaGreatWPq
import Derived.Test.YtokaohlgncmoaaaGreatWCa
import Derived.Deep.RegionHeld3
import Derived.Deep.RegionWith
namespace Go.Proofs.YtokaohlgncmoaaaGreat
open Go.ChangeShapes Go.WideShapes Go.ChangeAt Go.RowKit
set_option linter.unusedVariables false

theorem pwr_C {n h : Int} (hh : h ≤ 4096) : pwH n h = true ↔ pwr n = true ∧ n ≤ h := by rw [← pwr_pow hh]; simp
set_option maxHeartbeats 1000000 in
theorem machine_any {w : World} {a : Ad} {c : Cf} (hc : Cin w a c) : Calls Tryz.prog 114 #[.agg #[.int .i64 c.F, .int .i64 c.C, .int .i64 c.W, .int .i64 c.S, .int .i64 c.V, .int .i64 c.T, .int .u64 c.k.l1, .int .u64 c.k.llc, .int .u64 c.k.mi, .int .u64 c.k.fa, .int .u64 c.k.st, .int .u64 c.k.di, .int .u64 c.sl, .int .u64 c.pd, .int .u64 c.ft, .slice a.ta c.tn a.tc, .slice a.pa c.pn a.pc]] w (One (.bool (!mOk c)) w) := by
  have hb := below_new w (.cells #[.int .i64 c.F, .int .i64 c.C, .int .i64 c.W, .int .i64 c.S, .int .i64 c.V, .int .i64 c.T, .int .u64 c.k.l1, .int .u64 c.k.llc, .int .u64 c.k.mi, .int .u64 c.k.fa, .int .u64 c.k.st, .int .u64 c.k.di, .int .u64 c.sl, .int .u64 c.pd, .int .u64 c.ft, .slice a.ta c.tn a.tc, .slice a.pa c.pn a.pc] 28)
  have D1 : Hid (∀ w, Calls Tryz.prog 79 #[.int .i64 c.C] w fun e w' => e = .returned (.bool (pwr c.C)) ∧ w' = w) := fun w => Power_any c.C hc.C0 hc.C1 w
  have D2 : Hid (∀ w, Calls Tryz.prog 79 #[.int .i64 c.S] w fun e w' => e = .returned (.bool (pwr c.S)) ∧ w' = w) := fun w => Power_any c.S hc.S0 hc.S1 w
  have HM : Hid (mOk c = true ↔ (pwr c.C = true ∧ c.C ≤ 16) ∧ (1 ≤ c.F ∧ c.F ≤ 4096) ∧ c.F % c.C = 0 ∧ (pwr c.S = true ∧ c.S ≤ 4096) ∧ (1 ≤ c.W ∧ c.W ≤ 16) ∧ (1 ≤ c.V ∧ c.V ≤ 16) ∧ (1 ≤ c.T ∧ c.T ≤ 64) ∧ 1 ≤ (c.pn : Int) ∧ (c.pn : Int) ≤ 8) := by
    unfold Hid mOk
    simp only [Bool.and_eq_true, decide_eq_true_eq, inB_iff, pwr_C (show (16 : Int) ≤ 4096 by decide), pwr_C (show (4096 : Int) ≤ 4096 by decide)]
  have HC : Hid (pwr c.C = true → 0 < c.C) := fun h => by unfold pwr at h; simp at h; exact h.1
  clear hc
  have fin : ∀ {r : Bool} {w1 : World}, Below w.heap.size w w1 → (r = true ↔ ¬ mOk c = true) → One (.bool (!mOk c)) w (.returned (.bool r)) w1 := fun {r} {w1} hb h => ⟨ret_bool (by rw [Bool.eq_iff_iff, h]; simp), hb⟩
  have FIN : Hid (∀ {r : Bool} {w1 : World}, Below w.heap.size w w1 → (r = true ↔ ¬ mOk c = true) → One (.bool (!mOk c)) w (.returned (.bool r)) w1) := fin
  clear fin
  cases p1 : pwr c.C
  · have q1 : Hid (pwr c.C = false) := p1
    rw [p1] at D1
    clear p1
    go_enter Tryz.func114, Tryz.ntmps114
    go_wp2_with fail
    refine (D1.out _).mono ?_
    rintro e w1 ⟨rfl, rfl⟩
    go_wp2_with fail
    refine (D2.out _).mono ?_
    rintro e w2 ⟨rfl, rfl⟩
    cases p2 : pwr c.S
    · go_wp2
      go_ret
      exact FIN.out hb (by rw [HM.out, q1.out]; simp)
    · go_wp2
      all_goals (go_ret; exact FIN.out hb (by rw [HM.out, q1.out]; simp))
  · have hC := HC.out p1
    have q1 : Hid (pwr c.C = true) := p1
    have hC0 : ¬ c.C = 0 := by omega
    rw [p1] at D1
    clear p1
    by_cases hF : (c.C ≤ 16 ∧ 1 ≤ c.F ∧ c.F ≤ 4096)
    · obtain ⟨k1, k2, k3⟩ := hF
      have hm : c.F.tmod c.C = c.F % c.C := Int.tmod_eq_emod_of_nonneg (by omega)
      generalize c.F % c.C = r at *
      go_enter Tryz.func114, Tryz.ntmps114
      go_wp2_with fail
      refine (D1.out _).mono ?_
      rintro e w1 ⟨rfl, rfl⟩
      go_wp2_with fail
      refine (D2.out _).mono ?_
      rintro e w2 ⟨rfl, rfl⟩
      cases p2 : pwr c.S
      · go_wp2
        all_goals (go_ret; exact FIN.out hb (by rw [HM.out, p2]; simp))
      · have q2 : Hid (pwr c.S = true) := p2
        clear p2
        go_wp2
        all_goals (go_ret; exact FIN.out hb (by rw [HM.out, q1.out, q2.out]; simp; try omega))
    · have hF' : ¬ c.C ≤ 16 ∨ (c.C ≤ 16 ∧ ¬ 1 ≤ c.F) ∨ (c.C ≤ 16 ∧ 1 ≤ c.F ∧ ¬ c.F ≤ 4096) := by omega
      have HF : Hid (¬ (c.C ≤ 16 ∧ 1 ≤ c.F ∧ c.F ≤ 4096)) := hF
      clear hF
      rcases hF' with k | ⟨k1, k⟩ | ⟨k1, k2, k⟩
      all_goals
        go_enter Tryz.func114, Tryz.ntmps114
        go_wp2_with fail
        refine (D1.out _).mono ?_
        rintro e w1 ⟨rfl, rfl⟩
        go_wp2_with fail
        refine (D2.out _).mono ?_
        rintro e w2 ⟨rfl, rfl⟩
      all_goals
        cases p2 : pwr c.S
      all_goals
        go_wp2
      all_goals (go_ret; exact FIN.out hb (by have := HF.out; rw [HM.out]; simp; omega))
theorem rhas_any {w : World} {q : Option Addr} {l m : Nat} {f : Nat → Int} (hl : l * 8 ≤ 140737488351232) (hA : Arg w q l f) (v : Int) :
    Calls Tryz.prog 157 #[.slice q l m, .int .i64 v] w fun e w' => e = .returned (.bool (has l f v)) ∧ w' = w := by
  have HA : Hid (Arg w q l f) := hA
  clear hA
  go_enter Tryz.func157, Tryz.ntmps157
  go_wp2
  go_loopw [5] (fun i wr => ∃ k : Nat, k ≤ l ∧ i = .int .i64 k ∧ has k f v = false ∧ wr = w) (fun i _ => l - (intOf i).toNat)
  case atStart => exact ⟨0, by omega, rfl, has_zero f v, rfl⟩
  case round =>
    obtain ⟨k, hk, rfl, hs, rfl⟩ := hrel
    have HS : Hid (has k f v = false) := hs
    clear hs
    by_cases hlt : k < l
    · obtain ⟨b, o, rfl, d1⟩ := HA.out.at' (Below.refl _ _) hlt
      have HT : Hid (has (k + 1) f v = (has k f v || f k == v)) := has_succ k f v
      have HY : Hid (f k = v → has l f v = true) := fun h => has_iff.2 ⟨k, hlt, h⟩
      generalize f k = y at *
      by_cases hy : y = v
      · go_wp2
        go_ret
        exact ⟨ret_bool (HY.out hy).symm, rfl⟩
      · go_wp2
        go_roundw
        case rel => exact ⟨k + 1, by omega, by go_num, by rw [HT.out, HS.out]; simp [hy], by first | rfl | trivial⟩
        case measure => simp [intOf]; omega
    · obtain rfl : k = l := by omega
      go_wp2
      go_ret
      exact ⟨ret_bool HS.out.symm, rfl⟩
end Go.Proofs.YtokaohlgncmoaaaGreat
namespace Go.Proofs.YtokaohlgncmoaaaGreat
open Go.ChangeShapes Go.WideShapes Go.ChangeAt Go.RowKit
set_option linter.unusedVariables false

set_option maxHeartbeats 1000000 in
theorem turns_any {w : World} {a : Ad} {c : Cf} (hc : Cin w a c) : Calls Tryz.prog 117 #[.agg #[.int .i64 c.F, .int .i64 c.C, .int .i64 c.W, .int .i64 c.S, .int .i64 c.V, .int .i64 c.T, .int .u64 c.k.l1, .int .u64 c.k.llc, .int .u64 c.k.mi, .int .u64 c.k.fa, .int .u64 c.k.st, .int .u64 c.k.di, .int .u64 c.sl, .int .u64 c.pd, .int .u64 c.ft, .slice a.ta c.tn a.tc, .slice a.pa c.pn a.pc]] w (One (.bool (!tOk c)) w) := by
  have HB0 := cb_new hc
  have hpl := hc.pl
  have htl := hc.tl
  have HT : Hid (tOk c = (inB c.tn 1 64 && allT c c.tn)) := rfl
  clear hc
  by_cases h1 : (c.tn : Int) < 1
  · have h0 : Hid (tOk c = false) := by unfold Hid; rw [HT.out, inB_f (by omega)]; rfl
    go_enter Tryz.func117, Tryz.ntmps117
    go_wp2
    go_ret
    exact ⟨ret_bool (by rw [h0.out]; rfl), HB0.be⟩
  by_cases h2 : (64 : Int) < (c.tn : Int)
  · have h0 : Hid (tOk c = false) := by unfold Hid; rw [HT.out, inB_f (by omega)]; rfl
    go_enter Tryz.func117, Tryz.ntmps117
    go_wp2
    go_ret
    exact ⟨ret_bool (by rw [h0.out]; rfl), HB0.be⟩
  have HT2 : Hid (tOk c = allT c c.tn) := by unfold Hid; rw [HT.out, inB_t (by omega) (by omega)]; rfl
  clear HT
  go_enter Tryz.func117, Tryz.ntmps117
  go_wp2
  obtain ⟨W, hW, HB⟩ : ∃ W, (w.alloc (.cells #[.int .i64 c.F, .int .i64 c.C, .int .i64 c.W, .int .i64 c.S, .int .i64 c.V, .int .i64 c.T, .int .u64 c.k.l1, .int .u64 c.k.llc, .int .u64 c.k.mi, .int .u64 c.k.fa, .int .u64 c.k.st, .int .u64 c.k.di, .int .u64 c.sl, .int .u64 c.pd, .int .u64 c.ft, .slice a.ta c.tn a.tc, .slice a.pa c.pn a.pc] 28)) = W ∧ Hid (Cb w W w.heap.size a c) := ⟨_, rfl, HB0⟩
  rw [hW]
  clear hW HB0
  go_loopw [3] (fun i wr => ∃ k : Nat, k ≤ c.tn ∧ i = .int .i64 k ∧ allT c k = true ∧ Cb w wr w.heap.size a c) (fun i _ => c.tn - (intOf i).toNat)
  case atStart => exact ⟨0, by omega, rfl, rfl, HB.out⟩
  case round =>
    clear HB
    obtain ⟨k, hk, rfl, hs, hB⟩ := hrel
    have HS : Hid (allT c k = true) := hs
    have HB : Hid (Cb w wr w.heap.size a c) := hB
    clear hs hB
    obtain ⟨_, c0, c1, c2, c3, c4, c5, c6, c7, c8, c9, c10, c11, c12, c13, c14, c15, c16⟩ := HB.out.bx
    clear c0 c1 c2 c3 c4 c5 c6 c7 c8 c9 c10 c11 c12 c13 c14
    by_cases hlt : k < c.tn
    · obtain ⟨b, o, hq, d1⟩ := HB.out.ci.t.at' (Below.refl _ _) hlt
      have HN : Hid (¬ (0 ≤ c.tf k ∧ c.tf k < (c.pn : Int)) → tOk c = false) := fun h => by
        rw [HT2.out]
        cases h2 : allT c c.tn
        · rfl
        · exact absurd (allT_iff.1 h2 k hlt) h
      have HY : Hid (0 ≤ c.tf k ∧ c.tf k < (c.pn : Int) → allT c (k + 1) = true) := fun h => by
        simp only [allT, HS.out, h.1, h.2, decide_true, Bool.and_self]
      have hk1 : (k : Int) < (c.tn : Int) := by omega
      rw [hq] at c15
      clear hq
      generalize c.tf k = v at *
      by_cases n1 : v < 0
      · have e1 : decide (v < 0) = true := by simp [n1]
        go_wp2_with fail
        go_quiet (fail)
        go_wp2
        go_ret
        exact ⟨ret_bool (by rw [HN.out (by omega)]; rfl), below_drewN HB.out.be _⟩
      · have e1 : decide (v < 0) = false := by simp; omega
        go_wp2_with fail
        go_quiet (fail)
        by_cases n2 : v < (c.pn : Int)
        · go_wp2
          go_roundw
          case rel => exact ⟨k + 1, by omega, by go_num, HY.out ⟨by omega, n2⟩, HB.out.below (below_drewN (Below.refl _ _) _)⟩
          case measure => simp [intOf]; omega
        · go_wp2
          go_ret
          exact ⟨ret_bool (by rw [HN.out (by omega)]; rfl), below_drewN HB.out.be _⟩
    · obtain rfl : k = c.tn := by omega
      go_wp2
      go_ret
      exact ⟨ret_bool (by rw [HT2.out, HS.out]; rfl), HB.out.be⟩
theorem sh_sym {c : Cf} {x : Pa} {p : Nat} : sh c x p = true ↔ ∃ i, i < x.n ∧ ∃ k, k < p ∧ has (c.pf k).n (c.pf k).f (x.f i) = true := by
  rw [sh_iff]
  constructor
  · rintro ⟨k, hk, j, hj, h⟩
    obtain ⟨i, hi, e⟩ := has_iff.1 h
    exact ⟨i, hi, k, hk, has_iff.2 ⟨j, hj, e.symm⟩⟩
  · rintro ⟨i, hi, k, hk, h⟩
    obtain ⟨j, hj, e⟩ := has_iff.1 h
    exact ⟨k, hk, j, hj, has_iff.2 ⟨i, hi, e.symm⟩⟩
structure Gd (c : Cf) (x : Pa) (p i : Nat) : Prop where
  ri : rise c.C x.f i = true
  no : ∀ j, j < i → ∀ k, k < p → has (c.pf k).n (c.pf k).f (x.f j) = false
theorem Gd.zero (c : Cf) (x : Pa) (p : Nat) : Gd c x p 0 := ⟨rfl, fun j hj => by omega⟩
theorem Gd.bad {c : Cf} {p i : Nat} (hi : i < (c.pf p).n) (h : Gd c (c.pf p) p i) (hb : (c.pf p).f i < 0 ∨ c.C ≤ (c.pf p).f i ∨ (0 < i ∧ (c.pf p).f i ≤ (c.pf p).f (i - 1))) : okCol c p = false := by
  cases e : okCol c p
  · rfl
  · unfold okCol at e
    simp only [Bool.and_eq_true] at e
    have h1 := rise_at e.1 hi
    rcases hb with hb | hb | ⟨h0, hb⟩
    · omega
    · omega
    · have := rise_mono e.1 (show i - 1 < i by omega) hi
      omega
theorem Gd.met {c : Cf} {p i k : Nat} (hi : i < (c.pf p).n) (hk : k < p) (hb : has (c.pf k).n (c.pf k).f ((c.pf p).f i) = true) : okCol c p = false := by
  have : sh c (c.pf p) p = true := sh_sym.2 ⟨i, hi, k, hk, hb⟩
  unfold okCol
  rw [this]
  simp
theorem Gd.next {c : Cf} {p i : Nat} (h : Gd c (c.pf p) p i) (h1 : 0 ≤ (c.pf p).f i) (h2 : (c.pf p).f i < c.C) (h3 : 0 < i → (c.pf p).f (i - 1) < (c.pf p).f i) (hn : ∀ k, k < p → has (c.pf k).n (c.pf k).f ((c.pf p).f i) = false) : Gd c (c.pf p) p (i + 1) := by
  refine ⟨rise_succ.2 ⟨h.ri, ?_, h2⟩, fun j hj k hk => ?_⟩
  · cases i with
    | zero => rw [la_zero]; omega
    | succ i => rw [la_succ]; exact h3 (by omega)
  · by_cases e : j = i
    · rw [e]; exact hn k hk
    · exact h.no j (by omega) k hk
theorem Gd.all {c : Cf} {p : Nat} (h : Gd c (c.pf p) p (c.pf p).n) (h0 : 0 < (c.pf p).n) : okCol c p = true := by
  unfold okCol
  have : sh c (c.pf p) p = false := by
    cases e : sh c (c.pf p) p
    · rfl
    · obtain ⟨i, hi, k, hk, h1⟩ := sh_sym.1 e
      rw [h.no i hi k hk] at h1
      cases h1
  rw [h.ri, this]
  simp [h0]
set_option maxHeartbeats 2000000 in
theorem colours_any {w : World} {a : Ad} {c : Cf} (hc : Cin w a c) (p : Nat) (hp : p < c.pn) : Calls Tryz.prog 142 #[.agg #[.int .i64 c.F, .int .i64 c.C, .int .i64 c.W, .int .i64 c.S, .int .i64 c.V, .int .i64 c.T, .int .u64 c.k.l1, .int .u64 c.k.llc, .int .u64 c.k.mi, .int .u64 c.k.fa, .int .u64 c.k.st, .int .u64 c.k.di, .int .u64 c.sl, .int .u64 c.pd, .int .u64 c.ft, .slice a.ta c.tn a.tc, .slice a.pa c.pn a.pc], .int .i64 p] w (One (.bool (!okCol c p)) w) := by
  have HB0 := cb_new hc
  have hl := hc.cl p hp
  have hpl := hc.pl
  have hp1 : (p : Int) < (c.pn : Int) := by omega
  have HAll : Hid (0 < (c.pf p).n → Gd c (c.pf p) p (c.pf p).n → okCol c p = true) := fun h0 h => h.all h0
  have HBad : Hid (∀ i, i < (c.pf p).n → Gd c (c.pf p) p i → ((c.pf p).f i < 0 ∨ c.C ≤ (c.pf p).f i ∨ (0 < i ∧ (c.pf p).f i ≤ (c.pf p).f (i - 1))) → okCol c p = false) := fun i hi h hb => h.bad hi hb
  have HMet : Hid (∀ i k, i < (c.pf p).n → k < p → has (c.pf k).n (c.pf k).f ((c.pf p).f i) = true → okCol c p = false) := fun i k hi hk hb => Gd.met hi hk hb
  have HNext : Hid (∀ i, Gd c (c.pf p) p i → 0 ≤ (c.pf p).f i → (c.pf p).f i < c.C → (0 < i → (c.pf p).f (i - 1) < (c.pf p).f i) → (∀ k, k < p → has (c.pf k).n (c.pf k).f ((c.pf p).f i) = false) → Gd c (c.pf p) p (i + 1)) := fun i h h1 h2 h3 h4 => h.next h1 h2 h3 h4
  have HZ : Hid ((c.pf p).n = 0 → okCol c p = false) := fun h0 => by unfold okCol; rw [h0]; simp
  have HCL : Hid (∀ k, k < p → (c.pf k).n * 8 ≤ 140737488351232) := fun k hk => hc.cl k (by omega)
  clear hc
  go_enter Tryz.func142, Tryz.ntmps142
  go_upto_region 1 with fail
  obtain ⟨W, hW, HB⟩ : ∃ W, (w.alloc (.cells #[.int .i64 c.F, .int .i64 c.C, .int .i64 c.W, .int .i64 c.S, .int .i64 c.V, .int .i64 c.T, .int .u64 c.k.l1, .int .u64 c.k.llc, .int .u64 c.k.mi, .int .u64 c.k.fa, .int .u64 c.k.st, .int .u64 c.k.di, .int .u64 c.sl, .int .u64 c.pd, .int .u64 c.ft, .slice a.ta c.tn a.tc, .slice a.pa c.pn a.pc] 28)) = W ∧ Hid (Cb w W w.heap.size a c) := ⟨_, rfl, HB0⟩
  rw [hW]
  clear hW HB0
  obtain ⟨b, off, hq, ⟨_, e0, e1, e2, e3, e4, e5, e6, e7⟩⟩ := HB.out.ci.p.at' hp
  obtain ⟨_, c0, c1, c2, c3, c4, c5, c6, c7, c8, c9, c10, c11, c12, c13, c14, c15, c16⟩ := HB.out.bx
  clear c0 c1 c2 c3 c4 c5 c6 c7 c8 c9 c10 c11 c12 c13 c14 c15 e1 e2 e3 e4 e5 e6 e7
  rw [hq] at c16
  have HQ : Hid (a.pa = some ⟨b, off, none⟩) := hq
  have HA : Hid (Arg W (a.ca p) (c.pf p).n (c.pf p).f) := HB.out.ci.p.col hp
  clear hq
  obtain ⟨x, hx⟩ : ∃ x, c.pf p = x := ⟨_, rfl⟩
  rw [hx] at e0 hl HA HAll HBad HMet HNext HZ
  have HX : Hid (c.pf p = x) := hx
  clear hx
  generalize okCol c p = res at *
  generalize a.ca p = ca at *
  generalize a.cc p = cm at *
  by_cases h0 : x.n = 0
  · have h00 : (x.n : Int) = 0 := by omega
    go_wp2
    go_ret
    exact ⟨ret_bool (by rw [HZ.out h0]; rfl), HB.out.be⟩
  · have h00 : ¬ (x.n : Int) = 0 := by omega
    have h01 : ((x.n : Int) == 0) = false := by simp; omega
    go_wp2
    go_loopw [6, 7] (fun i k' wr => ∃ (j : Nat) (vv : Value), vv = k' ∧ j ≤ x.n ∧ i = .int .i64 j ∧ Gd c x p j ∧ Below W.heap.size W wr) (fun i _ _ => x.n - (intOf i).toNat)
    case atStart => exact ⟨0, _, rfl, by omega, rfl, Gd.zero c x p, Below.refl _ _⟩
    case round =>
      obtain ⟨j, vv, hvv, hj, rfl, hG, hb⟩ := hrel
      subst hvv
      have HG : Hid (Gd c x p j) := hG
      have HW : Hid (Below W.heap.size W wr) := hb
      clear hG hb e0 c16
      by_cases hlt : j < x.n
      · obtain ⟨bb, o, hca, d1⟩ := HA.out.at' HW.out hlt
        have HA2 : Hid (Arg wr ca x.n x.f) := HA.out.below HW.out
        have HB2 : Hid (Cb w wr w.heap.size a c) := HB.out.below HW.out
        obtain ⟨_, c0, c1, c2, c3, c4, c5, c6, c7, c8, c9, c10, c11, c12, c13, c14, c15, c16⟩ := HB2.out.bx
        clear c0 c2 c3 c4 c5 c6 c7 c8 c9 c10 c11 c12 c13 c14 c15
        rw [HQ.out] at c16
        have hj1 : (j : Int) < (x.n : Int) := by omega
        have hj0 : (0 : Int) ≤ (j : Int) := by omega
        have HBad1 := HBad.out j hlt HG.out
        have HNext1 := HNext.out j HG.out
        have HMet1 : Hid (∀ k, k < p → has (c.pf k).n (c.pf k).f (x.f j) = true → res = false) := fun k hk h => HMet.out j k hlt hk h
        have HBad2 : Hid ((x.f j < 0 ∨ c.C ≤ x.f j ∨ (0 < j ∧ x.f j ≤ x.f (j - 1))) → res = false) := HBad1
        have HNext2 : Hid (0 ≤ x.f j → x.f j < c.C → (0 < j → x.f (j - 1) < x.f j) → (∀ k, k < p → has (c.pf k).n (c.pf k).f (x.f j) = false) → Gd c x p (j + 1)) := HNext1
        clear HBad1 HNext1 HBad HNext HMet HAll HZ
        subst hca
        obtain ⟨v, hv⟩ : ∃ v, x.f j = v := ⟨_, rfl⟩
        rw [hv] at d1 HMet1 HBad2 HNext2
        by_cases n1 : v < 0
        · have e1 : decide (v < 0) = true := by simp [n1]
          clear hv HB
          go_wp2_with fail
          go_quiet (fail)
          go_wp2
          go_ret
          exact ⟨ret_bool (by rw [HBad2.out (Or.inl n1)]; rfl), below_drewN HB2.out.be _⟩
        have e1 : decide (v < 0) = false := by simp; omega
        by_cases n2 : c.C ≤ v
        · have e2 : decide (c.C ≤ v) = true := by simp [n2]
          clear hv HB
          go_wp2_with fail
          go_quiet (fail)
          go_wp2
          go_ret
          exact ⟨ret_bool (by rw [HBad2.out (Or.inr (Or.inl n2))]; rfl), below_drewN HB2.out.be _⟩
        have e2 : decide (c.C ≤ v) = false := by simp; omega
        -- both ways come to one place: the region behind which the earlier partitions are asked
        have HTail : Hid ((0 < j → x.f (j - 1) < v) → True) := fun _ => trivial
        rcases Nat.eq_zero_or_pos j with hj0' | hjp
        case' inl =>
          have HLast : Hid (0 < j → x.f (j - 1) < v) := fun h => by omega
          have e4 : decide ((0 : Int) < (j : Int)) = false := by simp; omega
          have e5 : decide (0 < j) = false := by simp; omega
          have e6 : ¬ 0 < j := by omega
          clear hj0'
          go_wp2_with fail
          go_quiet (fail)
        case' inr =>
          obtain ⟨i, hij⟩ : ∃ i, j = i + 1 := ⟨j - 1, by omega⟩
          obtain ⟨bb2, o2, hca2, d2⟩ := HA2.out.at' (Below.refl _ _) (show i < x.n by omega)
          cases hca2
          have hi1 : (i : Int) < (x.n : Int) := by omega
          have hi0 : (0 : Int) ≤ (i : Int) := by omega
          have hji : (j : Int) - 1 = (i : Int) := by omega
          have hjp1 : (0 : Int) < (j : Int) := by omega
          obtain ⟨u, hu⟩ : ∃ u, x.f i = u := ⟨_, rfl⟩
          rw [hu] at d2
          have hu2 : x.f (j - 1) = u := by rw [hij]; exact hu
          by_cases n3 : v ≤ u
          · have e3 : decide (v ≤ u) = true := by simp [n3]
            rw [hu2] at HBad2
            clear hij hu2 hu
            go_wp2_with fail
            go_quiet (fail)
            go_wp2
            go_ret
            exact ⟨ret_bool (by rw [HBad2.out (Or.inr (Or.inr ⟨by omega, n3⟩))]; rfl), below_drewN HB2.out.be _⟩
          have e3 : decide (v ≤ u) = false := by simp; omega
          have HLast : Hid (0 < j → x.f (j - 1) < v) := fun h => by rw [hu2]; omega
          clear hij hu2 hu
          go_wp2_with fail
          go_quiet (fail)
        all_goals
          go_wp2
          obtain ⟨R, hR, HBR, HAR, HWR⟩ : ∃ R, wr.drewN nq = R ∧ Hid (Cb w R w.heap.size a c) ∧ Hid (Arg R (some ⟨bb, o, none⟩) x.n x.f) ∧ Hid (Below W.heap.size W R) :=
            ⟨_, rfl, HB2.out.below (below_drewN (Below.refl _ _) _), HA2.out.below (below_drewN (Below.refl _ _) _), below_drewN HW.out _⟩
          rw [hR]
          clear hR HB2 HA2 HW d1 c16
          go_loopw [7] (fun k wr => ∃ i : Nat, i ≤ p ∧ k = .int .i64 i ∧ (∀ k', k' < i → has (c.pf k').n (c.pf k').f v = false) ∧ Below R.heap.size R wr) (fun k _ => p - (intOf k).toNat)
          case atStart => exact ⟨0, by omega, rfl, fun k' hk => by omega, Below.refl _ _⟩
          case round =>
            obtain ⟨i, hi, rfl, hN, hb⟩ := hrel
            have HN : Hid (∀ k', k' < i → has (c.pf k').n (c.pf k').f v = false) := hN
            have HR : Hid (Below R.heap.size R wr) := hb
            clear hN hb
            by_cases hlt : i < p
            · have HB3 : Hid (Cb w wr w.heap.size a c) := HBR.out.below HR.out
              obtain ⟨bb3, o3, hca3, d1⟩ := (HAR.out.below HR.out).at' (Below.refl _ _) (show j < x.n by omega)
              cases hca3
              rw [hv] at d1
              obtain ⟨b4, off4, hq4, ⟨_, e0, _, _, _, _, _, _, _⟩⟩ := HB3.out.ci.p.at' (show i < c.pn by omega)
              obtain ⟨_, c0, c1, c2, c3, c4, c5, c6, c7, c8, c9, c10, c11, c12, c13, c14, c15, c16⟩ := HB3.out.bx
              clear c0 c1 c2 c3 c4 c5 c6 c7 c8 c9 c10 c11 c12 c13 c14 c15
              rw [hq4] at c16
              clear hq4
              have hip : (i : Int) < (c.pn : Int) := by omega
              have HC : Hid (∀ n : Nat, Calls Tryz.prog 157 #[.slice (a.ca i) (c.pf i).n (a.cc i), .int .i64 v] (wr.drewN n) fun e w' => e = .returned (.bool (has (c.pf i).n (c.pf i).f v)) ∧ w' = wr.drewN n) := fun n => rhas_any (HCL.out i hlt) ((HB3.out.ci.p.col (show i < c.pn by omega)).below (below_drewN (Below.refl _ _) n)) v
              have HM2 : Hid (has (c.pf i).n (c.pf i).f v = true → res = false) := HMet1.out i hlt
              have HN2 : Hid (has (c.pf i).n (c.pf i).f v = false → ∀ k', k' < i + 1 → has (c.pf k').n (c.pf k').f v = false) := fun h k' hk' => by
                by_cases e : k' = i
                · rw [e]; exact h
                · exact HN.out k' (by omega)
              generalize has (c.pf i).n (c.pf i).f v = bo at *
              generalize (c.pf i) = y at *
              generalize a.ca i = ya at *
              generalize a.cc i = ym at *
              clear HMet1 HBad2 HNext2 HN
              go_wp2_with fail
              go_quiet ((go_at_call 157; exact Calls.quiet_of_same (HC.out _)))
              cases bo
              · go_wp2
                go_roundw
                case rel => exact ⟨i + 1, by omega, by go_num, HN2.out (by first | rfl | trivial), below_drewN HR.out _⟩
                case measure => simp [intOf]; omega
              · go_wp2
                go_ret
                exact ⟨ret_bool (by rw [HM2.out (by first | rfl | trivial)]; rfl), below_drewN HB3.out.be _⟩
            · obtain rfl : i = p := by omega
              have HG2 : Hid (Gd c x i (j + 1)) := HNext2.out (by omega) (by omega) HLast.out HN.out
              clear HNext2 HBad2 HMet1 HN HLast
              go_wp2
              go_roundw
              case rel => exact ⟨j + 1, _, rfl, by omega, by go_num, HG2.out, HWR.out.trans (HR.out.mono HWR.out.size)⟩
              case measure => simp [intOf]; omega
      · obtain rfl : j = x.n := by omega
        go_wp2
        go_ret
        exact ⟨ret_bool (by rw [HAll.out (by omega) HG.out]; rfl), HB.out.be.trans (HW.out.mono HB.out.be.size)⟩
end Go.Proofs.YtokaohlgncmoaaaGreat
namespace Go.Proofs.YtokaohlgncmoaaaGreat
open Go.ChangeShapes Go.WideShapes Go.ChangeAt Go.RowKit
set_option linter.unusedVariables false

structure Cq (w0 w : World) (g b : Nat) (a : Ad) (c : Cf) (q : Option Addr) (m : Nat) (x : Pa) : Prop where
  be : Below w0.heap.size w0 w
  bx : Sev w g a c
  px : Ebx w b q m x
  ci : Cin w a c
theorem Cq.below {w0 w w' : World} {g b : Nat} {a : Ad} {c : Cf} {q : Option Addr} {m : Nat} {x : Pa} (h : Cq w0 w g b a c q m x) (k : Below w.heap.size w w') : Cq w0 w' g b a c q m x :=
  ⟨h.be.trans (k.mono h.be.size), h.bx.below k, h.px.below k, h.ci.below k⟩
theorem Cb.cq {w0 w : World} {g : Nat} {a : Ad} {c : Cf} (h : Cb w0 w g a c) (q : Option Addr) (m : Nat) (x : Pa) : Cq w0 (w.alloc (.cells #[.slice q x.n m, .int .i64 x.o, .int .i64 x.u, .int .i64 x.t, .int .i64 x.s, .int .i64 x.r, .int .i64 x.d, .int .i64 x.z] 82)) g w.heap.size a c q m x :=
  ⟨h.be.alloc h.be.size _, h.bx.below (below_new _ _), ebx_new _ _ _ _, h.ci.below (below_new _ _)⟩
theorem ways7 : ∀ a b c d e f g : Bool, ((a && (b && (c && (d && (e && (f && g)))))) = false ∧ (a = false ∨ (a = true ∧ b = false) ∨ (a = true ∧ b = true ∧ c = false) ∨ (a = true ∧ b = true ∧ c = true ∧ d = false)
    ∨ (a = true ∧ b = true ∧ c = true ∧ d = true ∧ e = false) ∨ (a = true ∧ b = true ∧ c = true ∧ d = true ∧ e = true ∧ f = false) ∨ (a = true ∧ b = true ∧ c = true ∧ d = true ∧ e = true ∧ f = true ∧ g = false)))
    ∨ ((a && (b && (c && (d && (e && (f && g)))))) = true ∧ a = true ∧ b = true ∧ c = true ∧ d = true ∧ e = true ∧ f = true ∧ g = true) := by
  intro a b c d e f g
  cases a <;> cases b <;> cases c <;> cases d <;> cases e <;> cases f <;> cases g <;> simp
theorem qz_and (x : Pa) : (qOk x && zOk x) = (inB x.o 0 3 && (inB x.u 2 4096 && (inB x.t 4 4096 && (inB x.s 1 4096 && (inB x.r 1 4096 && (inB x.d 1 4096 && inB x.z 1 1024)))))) := by
  simp only [qOk, zOk, Bool.and_assoc]
end Go.Proofs.YtokaohlgncmoaaaGreat
namespace Go.Proofs.YtokaohlgncmoaaaGreat
open Go.ChangeShapes Go.WideShapes Go.ChangeAt Go.RowKit
set_option linter.unusedVariables false

set_option maxRecDepth 100000 in
set_option maxHeartbeats 4000000 in
theorem quotas_bad {w : World} {a : Ad} {c : Cf} (hc : Cin w a c) (p : Nat) (hp : p < c.pn) (hp8 : p < 8) (hcol : okCol c p = true) (hh : (qOk (c.pf p) && zOk (c.pf p)) = false) : Calls Tryz.prog 143 #[.agg #[.int .i64 c.F, .int .i64 c.C, .int .i64 c.W, .int .i64 c.S, .int .i64 c.V, .int .i64 c.T, .int .u64 c.k.l1, .int .u64 c.k.llc, .int .u64 c.k.mi, .int .u64 c.k.fa, .int .u64 c.k.st, .int .u64 c.k.di, .int .u64 c.sl, .int .u64 c.pd, .int .u64 c.ft, .slice a.ta c.tn a.tc, .slice a.pa c.pn a.pc], .int .i64 p] w (One (.bool (!okQ c p)) w) := by
  have HB0 := cb_new hc
  obtain ⟨b, off, hq, _⟩ := hc.p.at' hp
  have HQ : Hid (a.pa = some ⟨b, off, none⟩) := hq
  have hpl := hc.pl
  have hp1 : (p : Int) < (c.pn : Int) := by omega
  have MC : Hid (∀ w', Cin w' a c → Calls Tryz.prog 114 #[.agg #[.int .i64 c.F, .int .i64 c.C, .int .i64 c.W, .int .i64 c.S, .int .i64 c.V, .int .i64 c.T, .int .u64 c.k.l1, .int .u64 c.k.llc, .int .u64 c.k.mi, .int .u64 c.k.fa, .int .u64 c.k.st, .int .u64 c.k.di, .int .u64 c.sl, .int .u64 c.pd, .int .u64 c.ft, .slice a.ta c.tn a.tc, .slice a.pa c.pn a.pc]] w' (One (.bool (!mOk c)) w')) := fun w' h => machine_any h
  have HOK : Hid (okQ c p = (bif (qOk (c.pf p) && zOk (c.pf p)) then (bif decide (sm c (p + 1) ≤ 1024) then (bif mOk c then fit c (c.pf p) else true) else false) else false)) := by
    unfold Hid okQ
    rw [okQ_ways]
    cases h1 : qOk (c.pf p)
    · rfl
    · cases h2 : zOk (c.pf p)
      · rfl
      · simp only [sm, h2, cond_true, Bool.and_self]
  have HM : Hid (mOk c = true → c.MOk) := fun h => mOk_iff.1 h
  have hri : rise c.C (c.pf p).f (c.pf p).n = true ∧ 0 < (c.pf p).n := by unfold okCol at hcol; simp only [Bool.and_eq_true, decide_eq_true_eq] at hcol; exact ⟨hcol.1, hcol.2.1⟩
  have HL : Hid (((c.pf p).n : Int) ≤ c.C) := rise_len hri.1 hri.2
  have HSm : Hid (∀ k : Nat, k ≤ 9 → 0 ≤ sm c k ∧ sm c k ≤ 9216) := fun k hk => ⟨sm_nonneg c k, by have := sm_le c k; omega⟩
  have HFit : Hid (fit c (c.pf p) = (decide (im (c.pf p) ≤ c.F / c.C) && decide (im (c.pf p) + (c.pf p).u + (c.pf p).t + (c.pf p).s + (c.pf p).r + (c.pf p).d ≤ (c.pf p).n * (c.F / c.C)))) := rfl
  have HIm : Hid (0 ≤ (c.pf p).o → (c.pf p).o ≤ 3 → ((c.pf p).o = 0 ∧ im (c.pf p) = 1) ∨ ((c.pf p).o = 1 ∧ im (c.pf p) = 2) ∨ ((c.pf p).o = 2 ∧ im (c.pf p) = 4) ∨ ((c.pf p).o = 3 ∧ im (c.pf p) = 8)) := fun h0 h1 => im_ways h0 h1
  have HQZ : Hid ((qOk (c.pf p) && zOk (c.pf p)) = (inB (c.pf p).o 0 3 && (inB (c.pf p).u 2 4096 && (inB (c.pf p).t 4 4096 && (inB (c.pf p).s 1 4096 && (inB (c.pf p).r 1 4096 && (inB (c.pf p).d 1 4096 && inB (c.pf p).z 1 1024))))))) := qz_and _
  have HH : Hid ((qOk (c.pf p) && zOk (c.pf p)) = false) := hh
  clear hcol hri hh
  rw [hq]
  rw [hq] at MC
  go_enter Tryz.func143, Tryz.ntmps143
  go_upto_region 1 with fail
  obtain ⟨W, hW, HB⟩ : ∃ W, (w.alloc (.cells #[.int .i64 c.F, .int .i64 c.C, .int .i64 c.W, .int .i64 c.S, .int .i64 c.V, .int .i64 c.T, .int .u64 c.k.l1, .int .u64 c.k.llc, .int .u64 c.k.mi, .int .u64 c.k.fa, .int .u64 c.k.st, .int .u64 c.k.di, .int .u64 c.sl, .int .u64 c.pd, .int .u64 c.ft, .slice a.ta c.tn a.tc, .slice a.pa c.pn a.pc] 28)) = W ∧ Hid (Cb w W w.heap.size a c) := ⟨_, rfl, HB0⟩
  rw [HQ.out] at hW
  rw [hW]
  clear hW HB0 hc hq
  obtain ⟨b', off', hq', ⟨_, e0, e1, e2, e3, e4, e5, e6, e7⟩⟩ := HB.out.ci.p.at' hp
  rw [HQ.out] at hq'
  cases hq'
  obtain ⟨_, c0, c1, c2, c3, c4, c5, c6, c7, c8, c9, c10, c11, c12, c13, c14, c15, c16⟩ := HB.out.bx
  clear c0 c1 c2 c3 c4 c5 c6 c7 c8 c9 c10 c11 c12 c13 c14 c15
  rw [HQ.out] at c16
  generalize okQ c p = res at *
  generalize a.ca p = q at *
  generalize a.cc p = m at *
  generalize hx : c.pf p = x at *
  clear hx
  go_upto_region 2 with fail
  obtain ⟨W1, bb, hW1, hbb, HC⟩ : ∃ W1 bb, (W.alloc (.cells #[.slice q x.n m, .int .i64 x.o, .int .i64 x.u, .int .i64 x.t, .int .i64 x.s, .int .i64 x.r, .int .i64 x.d, .int .i64 x.z] 82)) = W1 ∧ W.heap.size = bb ∧ Hid (Cq w W1 w.heap.size bb a c q m x) := ⟨_, _, rfl, rfl, HB.out.cq q m x⟩
  rw [hW1, hbb]
  clear hW1 hbb HB e0 e1 e2 e3 e4 e5 e6 e7 c16
  obtain ⟨_, e0, e1, e2, e3, e4, e5, e6, e7⟩ := HC.out.px
  have h0 : (inB x.o 0 3 && (inB x.u 2 4096 && (inB x.t 4 4096 && (inB x.s 1 4096 && (inB x.r 1 4096 && (inB x.d 1 4096 && inB x.z 1 1024)))))) = false := by rw [← HQZ.out]; exact HH.out
  rcases ways7 (inB x.o 0 3) (inB x.u 2 4096) (inB x.t 4 4096) (inB x.s 1 4096) (inB x.r 1 4096) (inB x.d 1 4096) (inB x.z 1 1024) with ⟨h0, hw⟩ | ⟨h0', _⟩
  · have HR : Hid (res = false) := by unfold Hid; rw [HOK.out, HQZ.out, h0]; rfl
    clear HOK HQZ h0 HM HL HSm HFit HIm MC
    rcases hw with h | ⟨h1, h⟩ | ⟨h1, h2, h⟩ | ⟨h1, h2, h3, h⟩ | ⟨h1, h2, h3, h4, h⟩ | ⟨h1, h2, h3, h4, h5, h⟩ | ⟨h1, h2, h3, h4, h5, h6, h⟩
    all_goals
      go_wp2_with (go_at_call 158; refine (within_any _ _ _ _).mono ?_; rintro e w' ⟨rfl, hw'⟩; obtain rfl := hw'.symm)
      go_ret
      exact ⟨ret_bool (by rw [HR.out]; rfl), HC.out.be⟩
  · rw [h0] at h0'; cases h0'
set_option maxRecDepth 100000 in
set_option maxHeartbeats 4000000 in
theorem quotas_sum {w : World} {a : Ad} {c : Cf} (hc : Cin w a c) (p : Nat) (hp : p < c.pn) (hp8 : p < 8) (hcol : okCol c p = true) (hh : (qOk (c.pf p) && zOk (c.pf p)) = true) (hs : ¬ sm c (p + 1) ≤ 1024) : Calls Tryz.prog 143 #[.agg #[.int .i64 c.F, .int .i64 c.C, .int .i64 c.W, .int .i64 c.S, .int .i64 c.V, .int .i64 c.T, .int .u64 c.k.l1, .int .u64 c.k.llc, .int .u64 c.k.mi, .int .u64 c.k.fa, .int .u64 c.k.st, .int .u64 c.k.di, .int .u64 c.sl, .int .u64 c.pd, .int .u64 c.ft, .slice a.ta c.tn a.tc, .slice a.pa c.pn a.pc], .int .i64 p] w (One (.bool (!okQ c p)) w) := by
  have HB0 := cb_new hc
  obtain ⟨b, off, hq, _⟩ := hc.p.at' hp
  have HQ : Hid (a.pa = some ⟨b, off, none⟩) := hq
  have hpl := hc.pl
  have hp1 : (p : Int) < (c.pn : Int) := by omega
  have MC : Hid (∀ w', Cin w' a c → Calls Tryz.prog 114 #[.agg #[.int .i64 c.F, .int .i64 c.C, .int .i64 c.W, .int .i64 c.S, .int .i64 c.V, .int .i64 c.T, .int .u64 c.k.l1, .int .u64 c.k.llc, .int .u64 c.k.mi, .int .u64 c.k.fa, .int .u64 c.k.st, .int .u64 c.k.di, .int .u64 c.sl, .int .u64 c.pd, .int .u64 c.ft, .slice a.ta c.tn a.tc, .slice a.pa c.pn a.pc]] w' (One (.bool (!mOk c)) w')) := fun w' h => machine_any h
  have HOK : Hid (okQ c p = (bif (qOk (c.pf p) && zOk (c.pf p)) then (bif decide (sm c (p + 1) ≤ 1024) then (bif mOk c then fit c (c.pf p) else true) else false) else false)) := by
    unfold Hid okQ
    rw [okQ_ways]
    cases h1 : qOk (c.pf p)
    · rfl
    · cases h2 : zOk (c.pf p)
      · rfl
      · simp only [sm, h2, cond_true, Bool.and_self]
  have HM : Hid (mOk c = true → c.MOk) := fun h => mOk_iff.1 h
  have hri : rise c.C (c.pf p).f (c.pf p).n = true ∧ 0 < (c.pf p).n := by unfold okCol at hcol; simp only [Bool.and_eq_true, decide_eq_true_eq] at hcol; exact ⟨hcol.1, hcol.2.1⟩
  have HL : Hid (((c.pf p).n : Int) ≤ c.C) := rise_len hri.1 hri.2
  have HSm : Hid (∀ k : Nat, k ≤ 9 → 0 ≤ sm c k ∧ sm c k ≤ 9216) := fun k hk => ⟨sm_nonneg c k, by have := sm_le c k; omega⟩
  have HFit : Hid (fit c (c.pf p) = (decide (im (c.pf p) ≤ c.F / c.C) && decide (im (c.pf p) + (c.pf p).u + (c.pf p).t + (c.pf p).s + (c.pf p).r + (c.pf p).d ≤ (c.pf p).n * (c.F / c.C)))) := rfl
  have HIm : Hid (0 ≤ (c.pf p).o → (c.pf p).o ≤ 3 → ((c.pf p).o = 0 ∧ im (c.pf p) = 1) ∨ ((c.pf p).o = 1 ∧ im (c.pf p) = 2) ∨ ((c.pf p).o = 2 ∧ im (c.pf p) = 4) ∨ ((c.pf p).o = 3 ∧ im (c.pf p) = 8)) := fun h0 h1 => im_ways h0 h1
  have HQZ : Hid ((qOk (c.pf p) && zOk (c.pf p)) = (inB (c.pf p).o 0 3 && (inB (c.pf p).u 2 4096 && (inB (c.pf p).t 4 4096 && (inB (c.pf p).s 1 4096 && (inB (c.pf p).r 1 4096 && (inB (c.pf p).d 1 4096 && inB (c.pf p).z 1 1024))))))) := qz_and _
  have HH : Hid ((qOk (c.pf p) && zOk (c.pf p)) = true) := hh
  have HSum : Hid (¬ sm c (p + 1) ≤ 1024) := hs
  clear hs
  clear hcol hri hh
  rw [hq]
  rw [hq] at MC
  go_enter Tryz.func143, Tryz.ntmps143
  go_upto_region 1 with fail
  obtain ⟨W, hW, HB⟩ : ∃ W, (w.alloc (.cells #[.int .i64 c.F, .int .i64 c.C, .int .i64 c.W, .int .i64 c.S, .int .i64 c.V, .int .i64 c.T, .int .u64 c.k.l1, .int .u64 c.k.llc, .int .u64 c.k.mi, .int .u64 c.k.fa, .int .u64 c.k.st, .int .u64 c.k.di, .int .u64 c.sl, .int .u64 c.pd, .int .u64 c.ft, .slice a.ta c.tn a.tc, .slice a.pa c.pn a.pc] 28)) = W ∧ Hid (Cb w W w.heap.size a c) := ⟨_, rfl, HB0⟩
  rw [HQ.out] at hW
  rw [hW]
  clear hW HB0 hc hq
  obtain ⟨b', off', hq', ⟨_, e0, e1, e2, e3, e4, e5, e6, e7⟩⟩ := HB.out.ci.p.at' hp
  rw [HQ.out] at hq'
  cases hq'
  obtain ⟨_, c0, c1, c2, c3, c4, c5, c6, c7, c8, c9, c10, c11, c12, c13, c14, c15, c16⟩ := HB.out.bx
  clear c0 c1 c2 c3 c4 c5 c6 c7 c8 c9 c10 c11 c12 c13 c14 c15
  rw [HQ.out] at c16
  generalize okQ c p = res at *
  generalize a.ca p = q at *
  generalize a.cc p = m at *
  generalize hx : c.pf p = x at *
  clear hx
  go_upto_region 2 with fail
  obtain ⟨W1, bb, hW1, hbb, HC⟩ : ∃ W1 bb, (W.alloc (.cells #[.slice q x.n m, .int .i64 x.o, .int .i64 x.u, .int .i64 x.t, .int .i64 x.s, .int .i64 x.r, .int .i64 x.d, .int .i64 x.z] 82)) = W1 ∧ W.heap.size = bb ∧ Hid (Cq w W1 w.heap.size bb a c q m x) := ⟨_, _, rfl, rfl, HB.out.cq q m x⟩
  rw [hW1, hbb]
  clear hW1 hbb HB e0 e1 e2 e3 e4 e5 e6 e7 c16
  obtain ⟨_, e0, e1, e2, e3, e4, e5, e6, e7⟩ := HC.out.px
  have h0 : (inB x.o 0 3 && (inB x.u 2 4096 && (inB x.t 4 4096 && (inB x.s 1 4096 && (inB x.r 1 4096 && (inB x.d 1 4096 && inB x.z 1 1024)))))) = true := by rw [← HQZ.out]; exact HH.out
  obtain ⟨h1, h2, h3, h4, h5, h6, h7⟩ : inB x.o 0 3 = true ∧ inB x.u 2 4096 = true ∧ inB x.t 4 4096 = true ∧ inB x.s 1 4096 = true ∧ inB x.r 1 4096 = true ∧ inB x.d 1 4096 = true ∧ inB x.z 1 1024 = true := by simpa only [Bool.and_eq_true] using h0
  rw [HQZ.out, h0] at HOK
  have o01 := inB_iff.1 h1
  have u01 := inB_iff.1 h2
  have t01 := inB_iff.1 h3
  have s01 := inB_iff.1 h4
  have r01 := inB_iff.1 h5
  have d01 := inB_iff.1 h6
  clear HQZ h0
  go_wp2_with (go_at_call 158; refine (within_any _ _ _ _).mono ?_; rintro e w' ⟨rfl, hw'⟩; obtain rfl := hw'.symm)
  clear h1 h2 h3 h4 h5 h6 h7 e0 e1 e2 e3 e4 e5 e6 e7
  go_loopw [6, 7] (fun s i wr => ∃ k : Nat, k ≤ p + 1 ∧ i = .int .i64 k ∧ s = .int .i64 (sm c k) ∧ wr = W1) (fun _ i _ => p + 1 - (intOf i).toNat)
  case atStart => exact ⟨0, by omega, rfl, rfl, rfl⟩
  case round =>
    obtain ⟨k, hk, rfl, rfl, rfl⟩ := hrel
    by_cases hlt : k ≤ p
    · obtain ⟨b', off', hq', ⟨_, e0, e1, e2, e3, e4, e5, e6, e7⟩⟩ := HC.out.ci.p.at' (show k < c.pn by omega)
      rw [HQ.out] at hq'
      cases hq'
      obtain ⟨_, c0, c1, c2, c3, c4, c5, c6, c7, c8, c9, c10, c11, c12, c13, c14, c15, c16⟩ := HC.out.bx
      clear c0 c1 c2 c3 c4 c5 c6 c7 c8 c9 c10 c11 c12 c13 c14 c15 e0 e1 e2 e3 e4 e5 e6
      rw [HQ.out] at c16
      obtain ⟨y0, y1⟩ := HSm.out k (by omega)
      have HS1 : Hid (sm c (k + 1) = sm c k + (bif inB (c.pf k).z 1 1024 then (c.pf k).z else 0)) := rfl
      have hkp : (k : Int) ≤ (p : Int) := by omega
      have hkn : (k : Int) < (c.pn : Int) := by omega
      have hk0 : (0 : Int) ≤ (k : Int) := by omega
      have HZ : Hid (inB (c.pf k).z 1 1024 = true → 1 ≤ (c.pf k).z ∧ (c.pf k).z ≤ 1024) := fun h => inB_iff.1 h
      obtain ⟨S', hS'⟩ : ∃ S', sm c (k + 1) = S' := ⟨_, rfl⟩
      rw [hS'] at HS1
      have HSn : Hid (sm c (k + 1) = S') := hS'
      clear hS' HOK HM HL HSm HFit HIm MC
      generalize sm c k = S at *
      generalize (c.pf k).z = z at *
      cases hz : inB z 1 1024
      · rw [hz] at HS1
        have HS2 : Hid (S' = S) := by unfold Hid; rw [HS1.out]; simp
        clear HS1
        go_wp2_with (go_at_call 158; refine (within_any _ _ _ _).mono ?_; rintro e w' ⟨rfl, hw'⟩; obtain rfl := hw'.symm)
        go_roundw
        case rel => exact ⟨k + 1, by omega, by go_num, by rw [HSn.out, HS2.out], by first | rfl | trivial⟩
        case measure => simp [intOf]; omega
      · rw [hz] at HS1
        have HS2 : Hid (S' = S + z) := HS1.out
        obtain ⟨z0, z1⟩ := HZ.out hz
        clear HS1 HZ
        go_wp2_with (go_at_call 158; refine (within_any _ _ _ _).mono ?_; rintro e w' ⟨rfl, hw'⟩; obtain rfl := hw'.symm)
        go_roundw
        case rel => exact ⟨k + 1, by omega, by go_num, by rw [HSn.out, HS2.out], by first | rfl | trivial⟩
        case measure => simp [intOf]; omega
    · obtain rfl : k = p + 1 := by omega
      have hlt' : ¬ (((p + 1 : Nat) : Int) ≤ (p : Int)) := by omega
      generalize sm c (p + 1) = S at *
      have hS : ¬ S ≤ 1024 := by have := HSum.out; omega
      have hd : decide (S ≤ 1024) = false := by simp [hS]
      have hS2 : (1024 : Int) < S := by omega
      rw [hd] at HOK
      go_wp2
      go_ret
      exact ⟨ret_bool (by rw [HOK.out]; rfl), HC.out.be⟩
end Go.Proofs.YtokaohlgncmoaaaGreat
