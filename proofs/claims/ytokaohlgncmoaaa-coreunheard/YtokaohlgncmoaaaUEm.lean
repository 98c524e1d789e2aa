/- CoreUnheard walked: what one partition's touches meet and cost does not hang on what others touch between its slices. -/
import Derived.Test.YtokaohlgncmoaaaUGd
import Derived.Test.YtokaohlgncmoaaaUQb
import Derived.Deep.QuietTactic
import Derived.BigQuiet
namespace Go.Proofs.Ytokaohlgncmoaaa.E
open Go.ChangeShapes Go.WideShapes Go.ChangeAt Go.RowKit
set_option linter.unusedVariables false
set_option maxRecDepth 8192

theorem or3 {P a b c : Prop} (h : a ∨ b ∨ c) (ka : a → P) (kb : b → P) (kc : c → P) : P := by
  rcases h with h | h | h
  · exact ka h
  · exact kb h
  · exact kc h
theorem neH_self (a b : Bool) (W : World) : (binOp .neq 39 (.agg #[.bool a, .bool b]) (.agg #[.bool a, .bool b])).run Try.prog W = .ok (.bool false) W := by
  rw [neH_run, eqH_self]
  rfl
theorem unheard_no {w : World} {a : Ad} {c : Cf} (hc : Cin w a c) (hm : may c = false) (v u : Value) : Calls Try.prog 3 #[.agg #[.int .i64 c.F, .int .i64 c.C, .int .i64 c.W, .int .i64 c.S, .int .i64 c.V, .int .i64 c.T, .int .u64 c.k.l1, .int .u64 c.k.llc, .int .u64 c.k.mi, .int .u64 c.k.fa, .int .u64 c.k.st, .int .u64 c.k.di, .int .u64 c.sl, .int .u64 c.pd, .int .u64 c.ft, .slice a.ta c.tn a.tc, .slice a.pa c.pn a.pc], v, u] w fun e w' => e = .returned (.bool true) ∧ Below w.heap.size w w' := by
  have HB0 := cb_new hc
  have C2 : Hid (∀ w', Cin w' a c → Calls Try.prog 6 #[.agg #[.int .i64 c.F, .int .i64 c.C, .int .i64 c.W, .int .i64 c.S, .int .i64 c.V, .int .i64 c.T, .int .u64 c.k.l1, .int .u64 c.k.llc, .int .u64 c.k.mi, .int .u64 c.k.fa, .int .u64 c.k.st, .int .u64 c.k.di, .int .u64 c.sl, .int .u64 c.pd, .int .u64 c.ft, .slice a.ta c.tn a.tc, .slice a.pa c.pn a.pc]] w' (One (.bool false) w')) := fun w' h => by rw [← hm]; exact May_all h
  clear hc
  go_enter Try.func3, Try.ntmps3
  go_upto_region 1 with fail
  obtain ⟨W, hW, HB⟩ : ∃ W, (w.alloc (.cells #[.int .i64 c.F, .int .i64 c.C, .int .i64 c.W, .int .i64 c.S, .int .i64 c.V, .int .i64 c.T, .int .u64 c.k.l1, .int .u64 c.k.llc, .int .u64 c.k.mi, .int .u64 c.k.fa, .int .u64 c.k.st, .int .u64 c.k.di, .int .u64 c.sl, .int .u64 c.pd, .int .u64 c.ft, .slice a.ta c.tn a.tc, .slice a.pa c.pn a.pc] 28)) = W ∧ Hid (Cb w W w.heap.size a c) := ⟨_, rfl, HB0⟩
  rw [hW]
  clear hW HB0
  go_wp2_with fail
  refine (awake_any _).mono ?_
  rintro _ w1 ⟨rfl, k1⟩
  have H1 : Hid (Cb w w1 w.heap.size a c) := HB.out.below k1
  clear HB k1
  have hld := H1.out.bx.ld
  go_wp2_with (refine wpList_load_at rfl 28 (.tmp 3) rfl _ _ rfl hld ?_)
  refine (C2.out _ H1.out.ci).mono ?_
  rintro _ w2 ⟨rfl, k2⟩
  have FIN : Hid (Below w.heap.size w w2) := (H1.out.below k2).be
  clear H1 k2 C2 hld
  go_wp2
  go_ret
  exact ⟨rfl, FIN.out⟩
set_option maxHeartbeats 4000000 in
theorem unheard_ok {w : World} {a : Ad} {c : Cf} (hc : Cin w a c) (hm : may c = true) {ao bo : Option Addr} {l cl m cm : Nat} {f g : Nat → Nat} (hl : l ≤ maxLen) (ha : AU w ao l f) (hf : ∀ i, i < l → f i < 18446744073709551616) (hlm : m ≤ maxLen) (hb : AU w bo m g) (hg : ∀ i, i < m → g i < 18446744073709551616) :
    Calls Try.prog 3 #[.agg #[.int .i64 c.F, .int .i64 c.C, .int .i64 c.W, .int .i64 c.S, .int .i64 c.V, .int .i64 c.T, .int .u64 c.k.l1, .int .u64 c.k.llc, .int .u64 c.k.mi, .int .u64 c.k.fa, .int .u64 c.k.st, .int .u64 c.k.di, .int .u64 c.sl, .int .u64 c.pd, .int .u64 c.ft, .slice a.ta c.tn a.tc, .slice a.pa c.pn a.pc], .slice ao l cl, .slice bo m cm] w fun e w' => e = .returned (.bool true) ∧ Below w.heap.size w w' := by
  have HB0 := cb_new hc
  have hO := may_iff.1 hm
  have hpn := hO.pn8
  have hp1 : 1 ≤ c.pn := by have := hO.m.p1; omega
  have HO : Hid c.Ok := hO
  have HF : Hid (∀ i, i < l → f i < 18446744073709551616) := hf
  have HG : Hid (∀ i, i < m → g i < 18446744073709551616) := hg
  have C1 : Hid (∀ w', Cin w' a c → Calls Try.prog 7 #[.agg #[.int .i64 c.F, .int .i64 c.C, .int .i64 c.W, .int .i64 c.S, .int .i64 c.V, .int .i64 c.T, .int .u64 c.k.l1, .int .u64 c.k.llc, .int .u64 c.k.mi, .int .u64 c.k.fa, .int .u64 c.k.st, .int .u64 c.k.di, .int .u64 c.sl, .int .u64 c.pd, .int .u64 c.ft, .slice a.ta c.tn a.tc, .slice a.pa c.pn a.pc]] w' fun e w2 => ∃ p, e = .returned (.tuple #[.pointer (some ⟨p, 0, none⟩), .int .i64 0]) ∧ Wk w' w2 p (hwOf c) s0 []) := fun w' h => wk_new (Below.refl _ _) h hm
  have C2 : Hid (∀ w', Cin w' a c → Calls Try.prog 6 #[.agg #[.int .i64 c.F, .int .i64 c.C, .int .i64 c.W, .int .i64 c.S, .int .i64 c.V, .int .i64 c.T, .int .u64 c.k.l1, .int .u64 c.k.llc, .int .u64 c.k.mi, .int .u64 c.k.fa, .int .u64 c.k.st, .int .u64 c.k.di, .int .u64 c.sl, .int .u64 c.pd, .int .u64 c.ft, .slice a.ta c.tn a.tc, .slice a.pa c.pn a.pc]] w' (One (.bool true) w')) := fun w' h => by rw [← hm]; exact May_all h
  have C3 : Hid (∀ w1 w' p, Wk w1 w' p (hwOf c) s0 [] → Cin w' a c → Calls Try.prog 7 #[.agg #[.int .i64 c.F, .int .i64 c.C, .int .i64 c.W, .int .i64 c.S, .int .i64 c.V, .int .i64 c.T, .int .u64 c.k.l1, .int .u64 c.k.llc, .int .u64 c.k.mi, .int .u64 c.k.fa, .int .u64 c.k.st, .int .u64 c.k.di, .int .u64 c.sl, .int .u64 c.pd, .int .u64 c.ft, .slice a.ta c.tn a.tc, .slice a.pa c.pn a.pc]] w' fun e w2 => ∃ q, e = .returned (.tuple #[.pointer (some ⟨q, 0, none⟩), .int .i64 0]) ∧ Pr w1 w2 p q (hwOf c) s0 s0 []) := fun w1 w' p hK h => pr_new hK h hm
  have C4 : Hid (∀ (p y : Nat), p < c.pn → y < 18446744073709551616 → ∃ x : Nat, Plc c p x ∧ ∀ (w : World) (a : Ad), Cin w a c → Calls Try.prog 8 #[.agg #[.int .i64 c.F, .int .i64 c.C, .int .i64 c.W, .int .i64 c.S, .int .i64 c.V, .int .i64 c.T, .int .u64 c.k.l1, .int .u64 c.k.llc, .int .u64 c.k.mi, .int .u64 c.k.fa, .int .u64 c.k.st, .int .u64 c.k.di, .int .u64 c.sl, .int .u64 c.pd, .int .u64 c.ft, .slice a.ta c.tn a.tc, .slice a.pa c.pn a.pc], .int .i64 (p : Nat), .int .u64 (y : Nat)] w (One (.tuple #[.int .u64 (x : Nat), .bool true]) w)) := fun p y hp hy => place_at hm p hp y hy
  unfold maxLen at hl hlm
  go_enter Try.func3, Try.ntmps3
  go_upto_region 1 with fail
  obtain ⟨W, hW, HB, HAW, HBW⟩ : ∃ W, (w.alloc (.cells #[.int .i64 c.F, .int .i64 c.C, .int .i64 c.W, .int .i64 c.S, .int .i64 c.V, .int .i64 c.T, .int .u64 c.k.l1, .int .u64 c.k.llc, .int .u64 c.k.mi, .int .u64 c.k.fa, .int .u64 c.k.st, .int .u64 c.k.di, .int .u64 c.sl, .int .u64 c.pd, .int .u64 c.ft, .slice a.ta c.tn a.tc, .slice a.pa c.pn a.pc] 28)) = W ∧ Hid (Cb w W w.heap.size a c) ∧ Hid (AU W ao l f) ∧ Hid (AU W bo m g) := ⟨_, rfl, HB0, ha.below ((Below.refl _ _).alloc (Nat.le_refl _) _), hb.below ((Below.refl _ _).alloc (Nat.le_refl _) _)⟩
  rw [hW]
  clear hW HB0 hc ha hb hf hg hO hm
  go_wp2_with fail
  refine (awake_any _).mono ?_
  rintro _ w1 ⟨rfl, k1⟩
  have H1 : Hid (Cb w w1 w.heap.size a c) := HB.out.below k1
  have HA1 : Hid (AU w1 ao l f) := HAW.out.below k1
  have HG1 : Hid (AU w1 bo m g) := HBW.out.below k1
  clear HB k1 HAW HBW
  have hld := H1.out.bx.ld
  go_wp2_with (refine wpList_load_at rfl 28 (.tmp 3) rfl _ _ rfl hld ?_)
  refine (C2.out _ H1.out.ci).mono ?_
  rintro _ w2 ⟨rfl, k2⟩
  have H2 : Hid (Cb w w2 w.heap.size a c) := H1.out.below k2
  have HA2 : Hid (AU w2 ao l f) := HA1.out.below k2
  have HG2 : Hid (AU w2 bo m g) := HG1.out.below k2
  clear H1 HA1 HG1 k2 hld C2
  have hld := H2.out.bx.ld
  go_wp2_with (refine wpList_load_at rfl 28 (.tmp 3) rfl _ _ rfl hld ?_)
  refine (C1.out _ H2.out.ci).mono ?_
  rintro _ w3 ⟨p, rfl, hK⟩
  have HK3 : Hid (Wk w2 w3 p (hwOf c) s0 []) := hK
  clear hK hld C1
  have hld := (H2.out.below HK3.out.be).bx.ld
  go_wp2_with (refine wpList_load_at rfl 28 (.tmp 3) rfl _ _ rfl hld ?_)
  refine (C3.out _ _ _ HK3.out (H2.out.below HK3.out.be).ci).mono ?_
  rintro _ w4 ⟨q, rfl, hK⟩
  have HK4 : Hid (Pr w2 w4 p q (hwOf c) s0 s0 []) := hK
  have c16 := (H2.out.below hK.be).bx.c16
  clear hK hld C3 HK3
  go_wp2_with fail
  go_loopw [12] (fun i wr => ∃ (k : Nat) (s t : Sc), k ≤ l ∧ k ≤ 200 ∧ i = .int .i64 k ∧ Pr w2 wr p q (hwOf c) s t [] ∧ Sm (Oc c 0) s t) (fun i _ => l - (D.iv i).toNat)
  case atStart => exact ⟨0, s0, s0, by omega, by omega, rfl, HK4.out, rfl, rfl, fun _ _ => rfl⟩
  case round =>
    obtain ⟨k, s, t, hk, hk200, rfl, hK, hS⟩ := hrel
    have HK : Hid (Pr w2 wr p q (hwOf c) s t []) := hK
    have HS : Hid (Sm (Oc c 0) s t) := hS
    clear hK hS HK4 c16
    by_cases hlt : k < l ∧ k < 200
    case' pos =>
      obtain ⟨hlt, hk1⟩ := hlt
      obtain ⟨b, off, rfl, hcell⟩ := (HK.out.be |> HA2.out.below).at' hlt
      have hfk := HF.out k hlt
      obtain ⟨y, hyk⟩ : ∃ y, f k = y := ⟨_, rfl⟩
      rw [hyk] at hfk hcell
      have HY : Hid (f k = y) := hyk
      clear hyk
      have hd1 : decide ((k : Int) < 200) = true := by simp; omega
      have hd2 : decide ((k : Int) < (l : Int)) = true := by simp; omega
      have hi1 : (0 : Int) ≤ (k : Int) := by omega
      have hi2 : (k : Int) < (l : Int) := by omega
      go_wp2_with fail
      obtain ⟨x, hpl, hPl⟩ := C4.out 0 y (by omega) hfk
      have HPL : Hid (Plc c 0 x) := hpl
      have HCB : Hid (Cb w wr w.heap.size a c) := H2.out.below HK.out.be
      have hlq : ∀ n : Idx (fun V => Below wr.heap.size wr V), (Instr.loadAt 28 (.pointer (some ⟨w.heap.size, 0, none⟩))).run Try.prog n.W = .ok (.agg #[.int .i64 c.F, .int .i64 c.C, .int .i64 c.W, .int .i64 c.S, .int .i64 c.V, .int .i64 c.T, .int .u64 c.k.l1, .int .u64 c.k.llc, .int .u64 c.k.mi, .int .u64 c.k.fa, .int .u64 c.k.st, .int .u64 c.k.di, .int .u64 c.sl, .int .u64 c.pd, .int .u64 c.ft, .slice a.ta c.tn a.tc, .slice a.pa c.pn a.pc]) n.W := fun n => (HCB.out.bx.below n.h).ld
      have hFc : ∀ n : Idx (fun V => Below wr.heap.size wr V), n.W.cell? ⟨b, off + k, none⟩ = some (.int .u64 (y : Nat)) := fun n => (n.h.cell (p := ⟨b, off + k, none⟩) (World.block_lt_of_cell? wr _ hcell)).trans hcell
      have PLi : Hid (∀ n : Idx (fun V => Below wr.heap.size wr V), Calls Try.prog 8 #[.agg #[.int .i64 c.F, .int .i64 c.C, .int .i64 c.W, .int .i64 c.S, .int .i64 c.V, .int .i64 c.T, .int .u64 c.k.l1, .int .u64 c.k.llc, .int .u64 c.k.mi, .int .u64 c.k.fa, .int .u64 c.k.st, .int .u64 c.k.di, .int .u64 c.sl, .int .u64 c.pd, .int .u64 c.ft, .slice a.ta c.tn a.tc, .slice a.pa c.pn a.pc], .int .i64 0, .int .u64 (y : Nat)] n.W (One (.tuple #[.int .u64 (x : Nat), .bool true]) n.W)) := fun n => hPl n.W a (HCB.out.ci.below n.h)
      have hne : Nonempty (Idx (fun V => Below wr.heap.size wr V)) := ⟨⟨wr, Below.refl _ _⟩⟩
      have HCE : Hid (wr.cell? ⟨b, off + k, none⟩ = some (.int .u64 (y : Nat))) := hcell
      clear hcell hpl hPl
      refine wp_region_cls (fun V => Below wr.heap.size wr V) (by kernel_rfl) (by kernel_rfl) ((Below.refl _ _).drew) ?_
      repeat (first | (go_big_quiet_want; refine quiet_load_at 28 (.tmp 3) rfl _ _ rfl hlq ?_; simp only [Act.put, List.setIfInBounds_toArray, List.set_cons_zero, List.set_cons_succ]; go_big_quiet_on) | (go_big_quiet_step (first | (go_at_call 8; exact Calls.cls (PLi.out _) (fun _ _ h k => h.trans (k.mono h.size))))))
      refine wpQuiet_nil ?_
      rintro w5 ⟨⟨_, hS5⟩, rfl⟩
      have HK5 : Hid (Pr w2 w5 p q (hwOf c) s t []) := HK.out.below hS5
      have HC5 : Hid (w5.cell? ⟨b, off + k, none⟩ = some (.int .u64 (y : Nat))) := (hS5.cell (p := ⟨b, off + k, none⟩) (World.block_lt_of_cell? wr _ HCE.out)).trans HCE.out
      clear hS5 hlq hFc PLi hne HCE HCB HK
      go_wp2_with fail
      have hx : x < (hwOf c).n * 256 := HPL.out.1
      have HH := HS.out.hits HPL.out.2
      have HS1 : Hid (Sm (Oc c 0) (tou (hwOf c) s x) (tou (hwOf c) t x)) := HS.out.tou HPL.out.2
      have CT1 : Hid (Calls _ _ _ _ _) := HK5.out.one x 22 hx
      have CT2 : Hid (∀ w' s' L, Pr w2 w' p q (hwOf c) s' t L → Calls Try.prog 9 #[.pointer (some ⟨q, 0, none⟩), .slice (some ⟨w'.heap.size, 0, none⟩) 1 1] (w'.alloc (.cells #[.int .u64 (x : Nat)] 22)) fun e w3 => e = .returned (.tuple #[.agg #[.bool (hA (hwOf c) s x), .bool (hB (hwOf c) s x)], .int .i64 0]) ∧ Pr w2 w3 q p (hwOf c) (tou (hwOf c) t x) s' L) := fun w' s' L h => by
        rw [HH.1, HH.2]
        exact h.swap.one x 22 hx
      clear HH HS
      generalize hA (hwOf c) s x = xh at *
      generalize hB (hwOf c) s x = yh at *
      generalize tou (hwOf c) s x = s1 at *
      generalize tou (hwOf c) t x = t1 at *
      refine CT1.out.mono ?_
      rintro _ w6 ⟨rfl, hK⟩
      have HK6 : Hid (Pr w2 (w6.alloc (.cells #[.bool xh, .bool yh] 39)) p q (hwOf c) s1 t [(w6.heap.size, xh, yh)]) := hK.box xh yh
      have hsz6 : (w6.alloc (.cells #[.bool xh, .bool yh] 39)).heap.size = w6.heap.size + 1 := by simp
      have HC6 : Hid (AU (w6.alloc (.cells #[.bool xh, .bool yh] 39)) (some ⟨b, off, none⟩) l f) := HK6.out.be |> HA2.out.below
      clear hK CT1 HK5
      go_wp2_with fail
      generalize (w6.alloc (.cells #[.bool xh, .bool yh] 39)) = w6' at *
      have CT2' := CT2.out _ _ _ HK6.out
      rw [hsz6] at CT2'
      generalize w6.heap.size = bx1 at *
      refine CT2'.mono ?_
      rintro _ w7 ⟨rfl, hK⟩
      have HK7 : Hid (Pr w2 (w7.alloc (.cells #[.bool xh, .bool yh] 39)) p q (hwOf c) s1 t1 [(w7.heap.size, xh, yh), (bx1, xh, yh)]) := hK.swap.box xh yh
      clear hK CT2 CT2' HK6 hsz6 HC6
      go_wp2_with fail
      generalize (w7.alloc (.cells #[.bool xh, .bool yh] 39)) = w7' at *
      generalize w7.heap.size = bx2 at *
      refine HK7.out.settle.mono ?_
      rintro _ w8 ⟨rfl, hK⟩
      have HK8 : Hid (Pr w2 w8 p q (hwOf c) { s1 with z := 0 } t1 [(bx2, xh, yh), (bx1, xh, yh)]) := hK
      clear hK HK7
      go_wp2_with fail
      refine HK8.out.swap.settle.mono ?_
      rw [← HS1.out.z]
      rintro _ w9 ⟨rfl, hK⟩
      have HK9 : Hid (Pr w2 w9 p q (hwOf c) { s1 with z := 0 } { t1 with z := 0 } []) := hK.swap.less (by simp)
      have HS9 : Hid (Sm (Oc c 0) { s1 with z := 0 } { t1 with z := 0 }) := HS1.out.settle
      have d0 : w9.cell? ⟨bx1, 0, none⟩ = some (.bool xh) := (hK.bx (bx1, xh, yh) (by simp)).cell 0
      have d1 : w9.cell? ⟨bx1, 1, none⟩ = some (.bool yh) := (hK.bx (bx1, xh, yh) (by simp)).cell 1
      have e0 : w9.cell? ⟨bx2, 0, none⟩ = some (.bool xh) := (hK.bx (bx2, xh, yh) (by simp)).cell 0
      have e1 : w9.cell? ⟨bx2, 1, none⟩ = some (.bool yh) := (hK.bx (bx2, xh, yh) (by simp)).cell 1
      have E2 := neH_self xh yh
      obtain ⟨b', off', eb, hcell⟩ := (hK.be |> HA2.out.below).at' hlt
      injection eb with eb
      injection eb with eb1 eb2 eb3
      subst eb1 eb2
      clear hK HK8 HS1 eb3
      have hz2 : { s1 with z := 0 }.z = 0 := rfl
      generalize hs2 : { s1 with z := 0 } = s2 at *
      generalize { t1 with z := 0 } = t2 at *
      clear hs2
      have hym : ∃ ym : Nat, y % 5 = ym := ⟨_, rfl⟩
      obtain ⟨ym, hym⟩ := hym
      have hym1 : (y : Int) % 5 = (ym : Int) := by omega
      have hym2 : (y : Int).tmod 5 = (ym : Int) := by rw [Int.tmod_eq_emod_of_nonneg (by omega)]; exact hym1
      rw [HY.out] at hcell
      clear hym HY
      by_cases hy5 : 0 < ym
      case' pos =>
        have hg1 : decide ((0 : Int) < (ym : Int)) = true := by rw [decide_eq_true_eq]; omega
        have hg2 : decide (0 < ym) = true := by simp; omega
        go_wp2
        go_roundw
        case rel => exact ⟨k + 1, s2, t2, by omega, by omega, by go_num, HK9.out, HS9.out⟩
        case measure => simp [D.iv]; omega
      case' neg =>
        obtain rfl : ym = 0 := by omega
        go_wp2_with fail
        clear d0 d1 e0 e1 E2 hcell hym1 hym2
        refine HK9.out.leave.mono ?_
        rintro _ w10 ⟨rfl, hK⟩
        have HKa : Hid (Pr w2 w10 p q (hwOf c) (lft s2) t2 []) := hK
        clear hK HK9
        go_wp2_with fail
        refine HKa.out.swap.leave.mono ?_
        rintro _ w11 ⟨rfl, hK⟩
        have HKb : Hid (Pr w2 w11 p q (hwOf c) (lft s2) (lft t2) []) := hK.swap
        have HSb : Hid (Sw (Oc c 0) (lft s2) (lft t2)) := HS9.out.leave.b
        clear hK HKa HS9
        go_wp2_with fail
        go_loopw [23] (fun i wr => ∃ (j : Nat) (t' : Sc), j ≤ 4 ∧ i = .int .i64 j ∧ Pr w2 wr p q (hwOf c) (lft s2) t' [] ∧ Sw (Oc c 0) (lft s2) t') (fun i _ => 4 - (D.iv i).toNat)
        case atStart => exact ⟨0, lft t2, by omega, rfl, HKb.out, HSb.out⟩
        case round =>
          obtain ⟨j, t3, hj, rfl, hK, hW⟩ := hrel
          have HK : Hid (Pr w2 wr p q (hwOf c) (lft s2) t3 []) := hK
          have HW : Hid (Sw (Oc c 0) (lft s2) t3) := hW
          clear hK hW HKb HSb
          obtain ⟨u, hu⟩ : ∃ u, 4 * k + j = u := ⟨_, rfl⟩
          have hu1 : 4 * (k : Int) + (j : Int) = (u : Int) := by omega
          have hu2 : IntKind.i64.wrap (4 * (k : Int)) = 4 * (k : Int) := by simp only [IntKind.wrap, IntKind.signed, IntKind.bits]; simp; omega
          have hu3 : IntKind.i64.wrap (4 * (k : Int) + (j : Int)) = (u : Int) := by rw [hu1]; simp only [IntKind.wrap, IntKind.signed, IntKind.bits]; simp; omega
          have hu4 : u ≤ 804 := by omega
          by_cases hin : j < 4 ∧ u < m ∧ 1 < c.pn
          case' pos =>
            obtain ⟨hj4, hum, hpn1⟩ := hin
            have hd1' : decide ((j : Int) < 4) = true := by rw [decide_eq_true_eq]; omega
            have hd2' : decide ((u : Int) < (m : Int)) = true := by rw [decide_eq_true_eq]; omega
            have hd3' : decide ((1 : Int) < (c.pn : Int)) = true := by rw [decide_eq_true_eq]; omega
            have hd4' : decide (1 < c.pn) = true := by simp; omega
            clear hu
            obtain ⟨gb, go, ebo, hgc⟩ := (HK.out.be |> HG2.out.below).at' hum
            have HBO : Hid (bo = some ⟨gb, go, none⟩) := ebo
            have hgu := HG.out u hum
            generalize g u = gv at *
            obtain ⟨g0, hg0⟩ : ∃ g0, gv % 64 = g0 := ⟨_, rfl⟩
            obtain ⟨g1, hg1⟩ : ∃ g1, gv / 64 = g1 := ⟨_, rfl⟩
            have hg2 : (gv : Int) % 64 = (g0 : Int) := by omega
            have hg3 : (gv : Int).tmod 64 = (g0 : Int) := by rw [Int.tmod_eq_emod_of_nonneg (by omega)]; exact hg2
            have hg4 : (gv : Int) / 64 = (g1 : Int) := by omega
            have hg5 : g0 < 64 := by omega
            have hg6 : g1 < 18446744073709551616 := by omega
            clear hg0 hg1
            obtain ⟨n1, hn1⟩ : ∃ n1, c.pn - 1 = n1 := ⟨_, rfl⟩
            have hn2 : (c.pn : Int) - 1 = (n1 : Int) := by omega
            have hn3 : IntKind.i64.wrap ((c.pn : Int) - 1) = (n1 : Int) := by rw [hn2]; simp only [IntKind.wrap, IntKind.signed, IntKind.bits]; simp; omega
            obtain ⟨z, hz⟩ : ∃ z, g0 % n1 = z := ⟨_, rfl⟩
            have hz1 : z < n1 := by rw [← hz]; exact Nat.mod_lt _ (by omega)
            obtain ⟨pp, hpp⟩ : ∃ pp, 1 + z = pp := ⟨_, rfl⟩
            have hpp1 : (1 : Int) + (z : Int) = (pp : Int) := by omega
            have hpp2 : IntKind.i64.wrap ((1 : Int) + (z : Int)) = (pp : Int) := by rw [hpp1]; simp only [IntKind.wrap, IntKind.signed, IntKind.bits]; simp; omega
            have hppn : pp < c.pn := by omega
            have hpp0 : 0 < pp := by omega
            obtain ⟨x2, hpl2, hPl2⟩ := C4.out pp g1 hppn hg6
            have HPL2 : Hid (Plc c pp x2) := hpl2
            have HCB : Hid (Cb w wr w.heap.size a c) := H2.out.below HK.out.be
            have hlq : ∀ n : Idx (fun V => Below wr.heap.size wr V), (Instr.loadAt 28 (.pointer (some ⟨w.heap.size, 0, none⟩))).run Try.prog n.W = .ok (.agg #[.int .i64 c.F, .int .i64 c.C, .int .i64 c.W, .int .i64 c.S, .int .i64 c.V, .int .i64 c.T, .int .u64 c.k.l1, .int .u64 c.k.llc, .int .u64 c.k.mi, .int .u64 c.k.fa, .int .u64 c.k.st, .int .u64 c.k.di, .int .u64 c.sl, .int .u64 c.pd, .int .u64 c.ft, .slice a.ta c.tn a.tc, .slice a.pa c.pn a.pc]) n.W := fun n => (HCB.out.bx.below n.h).ld
            have hFc : ∀ n : Idx (fun V => Below wr.heap.size wr V), n.W.cell? ⟨gb, go + u, none⟩ = some (.int .u64 (gv : Nat)) := fun n => (n.h.cell (p := ⟨gb, go + u, none⟩) (World.block_lt_of_cell? wr _ hgc)).trans hgc
            have PLi : Hid (∀ n : Idx (fun V => Below wr.heap.size wr V), Calls Try.prog 8 #[.agg #[.int .i64 c.F, .int .i64 c.C, .int .i64 c.W, .int .i64 c.S, .int .i64 c.V, .int .i64 c.T, .int .u64 c.k.l1, .int .u64 c.k.llc, .int .u64 c.k.mi, .int .u64 c.k.fa, .int .u64 c.k.st, .int .u64 c.k.di, .int .u64 c.sl, .int .u64 c.pd, .int .u64 c.ft, .slice a.ta c.tn a.tc, .slice a.pa c.pn a.pc], .int .i64 (pp : Nat), .int .u64 (g1 : Nat)] n.W (One (.tuple #[.int .u64 (x2 : Nat), .bool true]) n.W)) := fun n => hPl2 n.W a (HCB.out.ci.below n.h)
            have WIi : Hid (∀ n : Idx (fun V => Below wr.heap.size wr V), Calls Try.prog 12 #[.int .i64 (g0 : Nat), .int .i64 (n1 : Nat)] n.W (One (.int .i64 (z : Nat)) n.W)) := fun n => (Within_any (g0 : Int) (n1 : Int) (by omega) (by omega) (by omega) (by omega) n.W).mono fun e w' ⟨he, hw⟩ => by
              subst hw
              refine ⟨?_, Below.refl _ _⟩
              rw [he, ← hz, Int.natCast_emod]
            have hne : Nonempty (Idx (fun V => Below wr.heap.size wr V)) := ⟨⟨wr, Below.refl _ _⟩⟩
            have hix1 : (0 : Int) ≤ (u : Int) := by omega
            have hix2 : (u : Int) < (m : Int) := by omega
            clear hgc hpl2 hPl2 hpp hn1
            rw [ebo]
            clear ebo
            go_wp2_with fail
            refine wp_region_cls (fun V => Below wr.heap.size wr V) (by kernel_rfl) (by kernel_rfl) ((Below.refl _ _).drew) ?_
            repeat (first | (go_big_quiet_want; refine quiet_load_at 28 (.tmp 3) rfl _ _ rfl hlq ?_; simp only [Act.put, List.setIfInBounds_toArray, List.set_cons_zero, List.set_cons_succ]; go_big_quiet_on) | (go_big_quiet_step (first | (go_at_call 8; exact Calls.cls (PLi.out _) (fun _ _ h k => h.trans (k.mono h.size))) | (go_at_call 12; exact Calls.cls (WIi.out _) (fun _ _ h k => h.trans (k.mono h.size))))))
            refine wpQuiet_nil ?_
            rintro w12 ⟨⟨_, hS5⟩, rfl⟩
            have HKc : Hid (Pr w2 w12 p q (hwOf c) (lft s2) t3 []) := HK.out.below hS5
            clear hS5 hlq hFc PLi WIi hne HCB HK
            go_wp2_with fail
            have hx2 : x2 < (hwOf c).n * 256 := HPL2.out.1
            have hapart : ¬ Oc c 0 (x2 / 256 % (hwOf c).c) := oc_apart HO.out hpp0 hppn HPL2.out.2
            have HWd : Hid (Sw (Oc c 0) (lft s2) (tou (hwOf c) t3 x2)) := HW.out.other hapart
            have CT3 : Hid (Calls _ _ _ _ _) := HKc.out.swap.one x2 22 hx2
            clear hapart
            generalize hA (hwOf c) t3 x2 = xh2 at *
            generalize hB (hwOf c) t3 x2 = yh2 at *
            generalize tou (hwOf c) t3 x2 = t4 at *
            refine CT3.out.mono ?_
            rintro _ w13 ⟨rfl, hK⟩
            have HKd : Hid (Pr w2 w13 q p (hwOf c) t4 (lft s2) []) := hK
            clear hK CT3 HKc
            obtain ⟨pt, hpt, hfill⟩ := HKd.out.fill
            obtain ⟨pg, hpg⟩ : ∃ pg, x2 / 256 = pg := ⟨_, rfl⟩
            have hpg1 : (x2 : Int) / 256 = (pg : Int) := by omega
            have hn2 : (hwOf c).n ≤ 4096 := (hwOf_ok HO.out).n2
            have hpg2 : pg < 4096 := by omega
            have CF : Hid (∀ x : T.Tr, Calls Try.prog 13 #[.pointer (some ⟨pt, 0, none⟩), .agg #[.int .i64 x.a, .int .i64 x.p, .int .i64 x.f, .bool x.r, .bool x.w, .bool x.d]] w13 fun e w2' => e = .returned (.int .i64 (T.filE x)) ∧ Pr w2 w2' q p (hwOf c) { t4 with l := T.filL (hwOf c).t x t4.l } (lft s2) []) := hfill
            clear hfill hpg
            go_wp2_with fail
            refine (CF.out ⟨17, pg, pg, true, false, false⟩).mono ?_
            rintro _ w14 ⟨rfl, hK⟩
            have HKe : Hid (Pr w2 w14 p q (hwOf c) (lft s2) { t4 with l := T.filL (hwOf c).t ⟨17, pg, pg, true, false, false⟩ t4.l } []) := hK.swap
            have HWe : Hid (Sw (Oc c 0) (lft s2) { t4 with l := T.filL (hwOf c).t ⟨17, pg, pg, true, false, false⟩ t4.l }) := HWd.out
            clear hK CF HKd HWd
            generalize { t4 with l := T.filL (hwOf c).t ⟨17, pg, pg, true, false, false⟩ t4.l } = t5 at *
            generalize T.filE ⟨17, pg, pg, true, false, false⟩ = fe at *
            go_wp2
            go_roundw
            case rel => exact ⟨j + 1, t5, by omega, by go_num, HKe.out, HWe.out⟩
            case measure => simp [D.iv]; omega
          case' neg =>
            clear hu
            apply or3 (show (j < 4 ∧ u < m ∧ ¬ 1 < c.pn) ∨ (j < 4 ∧ ¬ u < m) ∨ j = 4 by omega)
            case' ka =>
              rintro ⟨q1, q2, q3⟩
              have hd1' : decide ((j : Int) < 4) = true := by rw [decide_eq_true_eq]; omega
              have hd2' : decide ((u : Int) < (m : Int)) = true := by rw [decide_eq_true_eq]; omega
              have hd3' : decide ((1 : Int) < (c.pn : Int)) = false := by rw [decide_eq_false_iff_not]; omega
              have hd4' : decide (1 < c.pn) = false := by rw [decide_eq_false_iff_not]; omega
            case' kb =>
              rintro ⟨q1, q2⟩
              have hd1' : decide ((j : Int) < 4) = true := by rw [decide_eq_true_eq]; omega
              have hd2' : decide ((u : Int) < (m : Int)) = false := by rw [decide_eq_false_iff_not]; omega
            case' kc =>
              rintro rfl
            all_goals
              go_wp2_with fail
              refine HK.out.swap.settle.mono ?_
              rintro _ w12 ⟨rfl, hK⟩
              have HKd : Hid (Pr w2 w12 q p (hwOf c) { t3 with z := 0 } (lft s2) []) := hK
              clear hK HK
              go_wp2_with fail
              refine HKd.out.leave.mono ?_
              rintro _ w13 ⟨rfl, hK⟩
              have HKe : Hid (Pr w2 w13 p q (hwOf c) (lft s2) (lft { t3 with z := 0 }) []) := hK.swap
              clear hK HKd
              go_wp2
              go_roundw
              case rel => exact ⟨k + 1, lft s2, lft { t3 with z := 0 }, by omega, by omega, by go_num, HKe.out, HW.out.back hz2⟩
              case measure => simp [D.iv]; omega
    case' neg =>
      by_cases hkl : k < l
      case' pos =>
        obtain rfl : k = 200 := by omega
      case' neg =>
        obtain rfl : k = l := by omega
      all_goals
        have FIN : Hid (Below w.heap.size w wr) := H2.out.be.trans (HK.out.be.mono H2.out.be.size)
        go_wp2
        go_ret
        exact ⟨rfl, FIN.out⟩
theorem unheard_any {w : World} {a : Ad} {c : Cf} (hc : Cin w a c) {ao bo : Option Addr} {l cl m cm : Nat} {f g : Nat → Nat} (hl : l ≤ maxLen) (ha : AU w ao l f) (hf : ∀ i, i < l → f i < 18446744073709551616) (hlm : m ≤ maxLen) (hb : AU w bo m g) (hg : ∀ i, i < m → g i < 18446744073709551616) :
    Calls Try.prog 3 #[.agg #[.int .i64 c.F, .int .i64 c.C, .int .i64 c.W, .int .i64 c.S, .int .i64 c.V, .int .i64 c.T, .int .u64 c.k.l1, .int .u64 c.k.llc, .int .u64 c.k.mi, .int .u64 c.k.fa, .int .u64 c.k.st, .int .u64 c.k.di, .int .u64 c.sl, .int .u64 c.pd, .int .u64 c.ft, .slice a.ta c.tn a.tc, .slice a.pa c.pn a.pc], .slice ao l cl, .slice bo m cm] w fun e w' => e = .returned (.bool true) ∧ Below w.heap.size w w' := by
  cases hm : may c
  · exact unheard_no hc hm _ _
  · exact unheard_ok hc hm hl ha hf hlm hb hg
end Go.Proofs.Ytokaohlgncmoaaa.E
