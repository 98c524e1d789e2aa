/- CoreColours walked: each line of the last-level cache stands in a set of its frame's colour, once; what a touch costs; at once again it is in L1. -/
import Derived.Test.YtokaohlgncmoaaaVEi
import Derived.Test.YtokaohlgncmoaaaVHf
import Derived.Deep.QuietTactic
import Derived.BigQuiet
namespace Go.Proofs.Ytokaohlgncmoaaa.E
open Go.ChangeShapes Go.WideShapes Go.ChangeAt Go.RowKit
set_option linter.unusedVariables false
set_option maxRecDepth 8192

theorem wpList_load_wanted {P : Program} {w : World} {ops : Array Oper} {rest : List Oper} {o : Oper} {a : Act} {Q : Exit → Act → World → Prop} (hw : Region.wanted o (yielded ops a.tmps) = true) (t : TypeId) (x : Operand)
    (ho : o.op = .load t x) (u v : Value) (hx : a.eval x = u) (hrun : (Instr.loadAt t u).run P w = .ok v w) (h : wpList P ops Q rest (a.put o.dst v) w) : wpList P ops Q (o :: rest) a w := by
  unfold wpList
  rw [if_pos hw]
  left
  unfold Oper.wp
  simp [execOp, ho, hx, hrun, Result.andThen]
  exact h
theorem tc_u64 {c : Co} (h : okC c = true) (x y : Bool) : IntKind.u64.wrap (0 + tc c x y) = tc c x y := by
  obtain ⟨a1, a2, a3, a4, _, _, _, _, _, _⟩ := okC_iff.1 h
  have hb : 0 ≤ tc c x y ∧ tc c x y < 18446744073709551616 := by
    unfold tc
    cases x <;> cases y <;> simp <;> omega
  rw [Int.zero_add]
  simp only [IntKind.wrap, IntKind.signed, IntKind.bits]
  simp
  omega
theorem eqL_run (a c : Int) (b d : Int) (hne : ¬ (a = c ∧ b = d)) (W : World) : (binOp .eql 58 (.agg #[.int .i64 a, .int .u64 b]) (.agg #[.int .i64 c, .int .u64 d])).run Try.prog W = .ok (.bool false) W := by
  simp only [run_eql_struct]
  rw [run_equalIn_agg W 9999 58 _ _ (by kernel_rfl) Try.stoodInHeld58]
  simp [go_sem, Program.fieldsOf, Try.underlying58]
  by_cases h1 : a = c
  · have h2 : ¬ b = d := fun e => hne ⟨h1, e⟩
    simp [h1, h2]
  · simp [h1]
theorem colours_no {w : World} {a : Ad} {c : Cf} (hc : Cin w a c) (hm : may c = false) (v : Value) : Calls Try.prog 4 #[.agg #[.int .i64 c.F, .int .i64 c.C, .int .i64 c.W, .int .i64 c.S, .int .i64 c.V, .int .i64 c.T, .int .u64 c.k.l1, .int .u64 c.k.llc, .int .u64 c.k.mi, .int .u64 c.k.fa, .int .u64 c.k.st, .int .u64 c.k.di, .int .u64 c.sl, .int .u64 c.pd, .int .u64 c.ft, .slice a.ta c.tn a.tc, .slice a.pa c.pn a.pc], v] w fun e w' => e = .returned (.bool true) ∧ Below w.heap.size w w' := by
  have HB0 := cb_new hc
  have C1 : Hid (∀ w', Cin w' a c → Calls Try.prog 7 #[.agg #[.int .i64 c.F, .int .i64 c.C, .int .i64 c.W, .int .i64 c.S, .int .i64 c.V, .int .i64 c.T, .int .u64 c.k.l1, .int .u64 c.k.llc, .int .u64 c.k.mi, .int .u64 c.k.fa, .int .u64 c.k.st, .int .u64 c.k.di, .int .u64 c.sl, .int .u64 c.pd, .int .u64 c.ft, .slice a.ta c.tn a.tc, .slice a.pa c.pn a.pc]] w' fun e w2 => e = .returned (.tuple #[.pointer none, .int .i64 5]) ∧ Below w'.heap.size w' w2) := fun w' h => New_no h hm
  have C2 : Hid (∀ w', Cin w' a c → Calls Try.prog 6 #[.agg #[.int .i64 c.F, .int .i64 c.C, .int .i64 c.W, .int .i64 c.S, .int .i64 c.V, .int .i64 c.T, .int .u64 c.k.l1, .int .u64 c.k.llc, .int .u64 c.k.mi, .int .u64 c.k.fa, .int .u64 c.k.st, .int .u64 c.k.di, .int .u64 c.sl, .int .u64 c.pd, .int .u64 c.ft, .slice a.ta c.tn a.tc, .slice a.pa c.pn a.pc]] w' (One (.bool false) w')) := fun w' h => by rw [← hm]; exact May_all h
  clear hc
  go_enter Try.func4, Try.ntmps4
  go_upto_region 1 with fail
  obtain ⟨W, hW, HB⟩ : ∃ W, (w.alloc (.cells #[.int .i64 c.F, .int .i64 c.C, .int .i64 c.W, .int .i64 c.S, .int .i64 c.V, .int .i64 c.T, .int .u64 c.k.l1, .int .u64 c.k.llc, .int .u64 c.k.mi, .int .u64 c.k.fa, .int .u64 c.k.st, .int .u64 c.k.di, .int .u64 c.sl, .int .u64 c.pd, .int .u64 c.ft, .slice a.ta c.tn a.tc, .slice a.pa c.pn a.pc] 28)) = W ∧ Hid (Cb w W w.heap.size a c) := ⟨_, rfl, HB0⟩
  rw [hW]
  clear hW HB0
  go_wp2_with fail
  refine (awake_any _).mono ?_
  rintro _ w1 ⟨rfl, k1⟩
  have H1 : Hid (Cb w w1 w.heap.size a c) := HB.out.below k1
  clear HB k1
  have hld := H1.out.bx.ld
  go_wp2_with (refine wpList_load_at rfl 28 (.tmp 2) rfl _ _ rfl hld ?_)
  refine (C1.out _ H1.out.ci).mono ?_
  rintro _ w2 ⟨rfl, k2⟩
  have H2 : Hid (Cb w w2 w.heap.size a c) := H1.out.below k2
  clear H1 k2 C1 hld
  have hld := H2.out.bx.ld
  go_wp2_with (refine wpList_load_wanted rfl 28 (.tmp 2) rfl _ _ rfl hld ?_)
  refine (C2.out _ H2.out.ci).mono ?_
  rintro _ w3 ⟨rfl, k3⟩
  have FIN : Hid (Below w.heap.size w w3) := (H2.out.below k3).be
  clear H2 k3 C2 hld
  go_wp2
  go_ret
  exact ⟨rfl, FIN.out⟩
theorem Wk.li {w0 w : World} {p : Nat} {h : Hw} {s : Sc} {L : List (Nat × Bool × Bool)} (K : Wk w0 w p h s L) (hc : Cl h s) : Li h (C.lns s.b (h.c * 16)) := by
  obtain ⟨X, c, _⟩ := K.c
  exact c.li hc
theorem Wk.lines {w0 w : World} {p : Nat} {h : Hw} {s : Sc} {L : List (Nat × Bool × Bool)} (K : Wk w0 w p h s L) :
    Calls Try.prog 14 #[.pointer (some ⟨p, 0, none⟩)] w fun e w' => ∃ v, e = .returned v ∧ C.Lns w.heap.size w' v (C.lns s.b (h.c * 16)) ∧ Below w.heap.size w w' := by
  obtain ⟨X, c, _⟩ := K.c
  exact Lines_ok c
set_option maxHeartbeats 4000000 in
theorem colours_ok {w : World} {a : Ad} {c : Cf} (hc : Cin w a c) (hm : may c = true) {ao : Option Addr} {l cl : Nat} {f : Nat → Nat} (hl : l ≤ maxLen) (ha : AU w ao l f) (hf : ∀ i, i < l → f i < 18446744073709551616) :
    Calls Try.prog 4 #[.agg #[.int .i64 c.F, .int .i64 c.C, .int .i64 c.W, .int .i64 c.S, .int .i64 c.V, .int .i64 c.T, .int .u64 c.k.l1, .int .u64 c.k.llc, .int .u64 c.k.mi, .int .u64 c.k.fa, .int .u64 c.k.st, .int .u64 c.k.di, .int .u64 c.sl, .int .u64 c.pd, .int .u64 c.ft, .slice a.ta c.tn a.tc, .slice a.pa c.pn a.pc], .slice ao l cl] w fun e w' => e = .returned (.bool true) ∧ Below w.heap.size w w' := by
  have HB0 := cb_new hc
  have hO := may_iff.1 hm
  have ok := hwOf_ok hO
  have HOK : Hid (hwOf c).Ok := ok
  have hC : 1 ≤ c.C ∧ c.C ≤ 16 := by rcases hO.m.C with e | e | e | e | e <;> omega
  have F1 := hO.m.F1; have F2 := hO.m.F2; have W1 := hO.m.W1; have W2 := hO.m.W2
  have C1 : Hid (∀ w', Cin w' a c → Calls Try.prog 7 #[.agg #[.int .i64 c.F, .int .i64 c.C, .int .i64 c.W, .int .i64 c.S, .int .i64 c.V, .int .i64 c.T, .int .u64 c.k.l1, .int .u64 c.k.llc, .int .u64 c.k.mi, .int .u64 c.k.fa, .int .u64 c.k.st, .int .u64 c.k.di, .int .u64 c.sl, .int .u64 c.pd, .int .u64 c.ft, .slice a.ta c.tn a.tc, .slice a.pa c.pn a.pc]] w' fun e w2 => ∃ p, e = .returned (.tuple #[.pointer (some ⟨p, 0, none⟩), .int .i64 0]) ∧ Wk w' w2 p (hwOf c) s0 []) := fun w' h => wk_new (Below.refl _ _) h hm
  have HA0 : Hid (AU w ao l f) := ha
  have HF : Hid (∀ i, i < l → f i < 18446744073709551616) := hf
  obtain ⟨M, hM⟩ : ∃ M : Nat, (hwOf c).n * 256 = M := ⟨_, rfl⟩
  have eF : c.F * 256 = (M : Int) := by rw [← hM]; simp only [hwOf]; push_cast; omega
  have HM : Hid ((hwOf c).n * 256 = M) := hM
  have hM1 : 1 ≤ M := by omega
  have hM2 : M ≤ 1048576 := by omega
  have HCO : Hid (okC (hwOf c).co = true) := ok.co
  have HKK : Hid (c.k = (hwOf c).co) := rfl
  unfold maxLen at hl
  clear hc ha hf hO ok hM hm
  go_enter Try.func4, Try.ntmps4
  go_upto_region 1 with fail
  obtain ⟨W, hW, HB, HAW⟩ : ∃ W, (w.alloc (.cells #[.int .i64 c.F, .int .i64 c.C, .int .i64 c.W, .int .i64 c.S, .int .i64 c.V, .int .i64 c.T, .int .u64 c.k.l1, .int .u64 c.k.llc, .int .u64 c.k.mi, .int .u64 c.k.fa, .int .u64 c.k.st, .int .u64 c.k.di, .int .u64 c.sl, .int .u64 c.pd, .int .u64 c.ft, .slice a.ta c.tn a.tc, .slice a.pa c.pn a.pc] 28)) = W ∧ Hid (Cb w W w.heap.size a c) ∧ Hid (AU W ao l f) := ⟨_, rfl, HB0, HA0.out.below ((Below.refl _ _).alloc (Nat.le_refl _) _)⟩
  rw [hW]
  clear hW HB0 HA0
  go_wp2_with fail
  refine (awake_any _).mono ?_
  rintro _ w1 ⟨rfl, k1⟩
  have H1 : Hid (Cb w w1 w.heap.size a c) := HB.out.below k1
  have HA1 : Hid (AU w1 ao l f) := HAW.out.below k1
  clear HB k1 HAW
  have hld := H1.out.bx.ld
  go_wp2_with (refine wpList_load_at rfl 28 (.tmp 2) rfl _ _ rfl hld ?_)
  refine (C1.out _ H1.out.ci).mono ?_
  rintro _ w2 ⟨p, rfl, hK⟩
  have HK0 : Hid (Wk w1 w2 p (hwOf c) s0 []) := hK
  clear hK C1 hld
  go_wp2_with fail
  go_loopw [7] (fun i wr => ∃ (k : Nat) (s : Sc), k ≤ l ∧ k ≤ 100 ∧ i = .int .i64 k ∧ Wk w1 wr p (hwOf c) s [] ∧ s.z = 0 ∧ Cl (hwOf c) s) (fun i _ => l - (D.iv i).toNat)
  case atStart => exact ⟨0, s0, by omega, by omega, rfl, HK0.out, rfl, cl_new _⟩
  case round =>
    obtain ⟨k, s, hk, hk100, rfl, hK, hz, hcl⟩ := hrel
    have HK : Hid (Wk w1 wr p (hwOf c) s []) := hK
    have HCL : Hid (Cl (hwOf c) s) := hcl
    have HZ : Hid (s.z = 0) := hz
    clear hK hcl hz HK0
    by_cases hlt : k < l ∧ k < 100
    case' pos =>
      obtain ⟨hlt, hk1⟩ := hlt
      obtain ⟨b, off, rfl, hcell⟩ := (HK.out.be |> HA1.out.below).at' hlt
      have hfk := HF.out k hlt
      generalize f k = y at *
      have hsv := HK.out.be |> H1.out.bx.below
      have c0 := hsv.c0
      have hd1 : decide ((k : Int) < 100) = true := by simp; omega
      have hd2 : decide ((k : Int) < (l : Int)) = true := by simp; omega
      have hi1 : (0 : Int) ≤ (k : Int) := by omega
      have hi2 : (k : Int) < (l : Int) := by omega
      go_wp2_with fail
      have hw1 : IntKind.i64.wrap (c.F * 256) = (M : Int) := by rw [eF]; simp only [IntKind.wrap, IntKind.signed, IntKind.bits]; simp; omega
      have hw2 : IntKind.u64.wrap (M : Int) = (M : Int) := by simp only [IntKind.wrap, IntKind.signed, IntKind.bits]; simp; omega
      have hMn : ¬ (M : Int) = 0 := by omega
      have hMn' : ¬ M = 0 := by omega
      have hF0 : ¬ c.F = 0 := by omega
      obtain ⟨r, hr⟩ : ∃ r, y % M = r := ⟨_, rfl⟩
      have hrM : r < M := by rw [← hr]; exact Nat.mod_lt _ hM1
      have htm : (y : Int).tmod (M : Int) = (r : Int) := by rw [Int.tmod_eq_emod_of_nonneg (by omega), ← hr, Int.natCast_emod]
      have htm' : (y : Int) % (M : Int) = (r : Int) := by rw [← hr, Int.natCast_emod]
      clear hr
      go_big_quiet (fail)
      go_wp2_with fail
      have HKd : Hid (Wk w1 (wr.drewN nq) p (hwOf c) s []) := HK.out.below ⟨rfl, rfl, rfl, Nat.le_refl _, fun _ _ => rfl⟩
      have hszd : (wr.drewN nq).heap.size = wr.heap.size := rfl
      obtain ⟨b7, hx7, hb7, hb8⟩ := xor7 r (by omega)
      have hr' : r < (hwOf c).n * 256 := by rw [HM.out]; exact hrM
      have hb7' : b7 < (hwOf c).n * 256 := by omega
      generalize wr.drewN nq = wd at *
      have CT1 : Hid (Calls Try.prog 9 #[.pointer (some ⟨p, 0, none⟩), .slice (some ⟨wr.heap.size, 0, none⟩) 1 1] (wd.alloc (.cells #[.int .u64 (r : Nat)] 22)) fun e w' => e = .returned (.tuple #[.agg #[.bool (hA (hwOf c) s r), .bool (hB (hwOf c) s r)], .int .i64 0]) ∧ Wk w1 w' p (hwOf c) (tou (hwOf c) s r) []) := by
        have := HKd.out.one r 22 hr'
        rw [hszd] at this
        exact this
      have HCL1 : Hid (Cl (hwOf c) (tou (hwOf c) s r)) := HCL.out.tou r hr'
      have HZ1 : Hid ((tou (hwOf c) s r).z = tc (hwOf c).co (hA (hwOf c) s r) (hB (hwOf c) s r)) := by
        show IntKind.u64.wrap (s.z + tc (hwOf c).co (hA (hwOf c) s r) (hB (hwOf c) s r)) = _
        rw [HZ.out]
        exact tc_u64 HCO.out _ _
      have HA7 : Hid (hA (hwOf c) { tou (hwOf c) s r with z := 0 } b7 = true) := again HOK.out s r b7 hb7 0
      generalize hA (hwOf c) s r = x at *
      generalize hB (hwOf c) s r = y' at *
      generalize tou (hwOf c) s r = s1 at *
      refine CT1.out.mono ?_
      rintro _ w3 ⟨rfl, hK⟩
      have HK3 : Hid (Wk w1 (w3.alloc (.cells #[.bool x, .bool y'] 39)) p (hwOf c) s1 [(w3.heap.size, x, y')]) := hK.box x y'
      clear hK CT1 HKd HK hszd
      go_wp2_with fail
      have hg3 := hsv
      generalize (w3.alloc (.cells #[.bool x, .bool y'] 39)) = w3' at *
      generalize w3.heap.size = bx1 at *
      refine HK3.out.settle.mono ?_
      rw [HZ1.out]
      rintro _ w4 ⟨rfl, hK⟩
      have HK4 : Hid (Wk w1 w4 p (hwOf c) { s1 with z := 0 } [(bx1, x, y')]) := hK
      clear hK HK3 hg3
      go_wp2_with fail
      have CT2 : Hid (Calls Try.prog 9 #[.pointer (some ⟨p, 0, none⟩), .slice (some ⟨w4.heap.size, 0, none⟩) 1 1] (w4.alloc (.cells #[.int .u64 (b7 : Nat)] 22)) fun e w' => e = .returned (.tuple #[.agg #[.bool true, .bool false], .int .i64 0]) ∧ Wk w1 w' p (hwOf c) (tou (hwOf c) { s1 with z := 0 } b7) [(bx1, x, y')]) := by
        have := HK4.out.one b7 22 hb7'
        rw [HA7.out, hB_of HA7.out] at this
        exact this
      have HCL2 : Hid (Cl (hwOf c) (tou (hwOf c) { s1 with z := 0 } b7)) := (HCL1.out.z 0).tou b7 hb7'
      have HZ2 : Hid ((tou (hwOf c) { s1 with z := 0 } b7).z = (hwOf c).co.l1) := by
        show IntKind.u64.wrap (0 + tc (hwOf c).co (hA (hwOf c) { s1 with z := 0 } b7) (hB (hwOf c) { s1 with z := 0 } b7)) = _
        rw [tc_u64 HCO.out, HA7.out]
        rfl
      generalize tou (hwOf c) { s1 with z := 0 } b7 = s2 at *
      refine CT2.out.mono ?_
      rintro _ w5 ⟨rfl, hK⟩
      have HK5 : Hid (Wk w1 (w5.alloc (.cells #[.bool true, .bool false] 39)) p (hwOf c) s2 [(w5.heap.size, true, false), (bx1, x, y')]) := hK.box true false
      clear hK CT2 HK4
      go_wp2_with fail
      generalize (w5.alloc (.cells #[.bool true, .bool false] 39)) = w5' at *
      generalize w5.heap.size = bx2 at *
      refine HK5.out.settle.mono ?_
      rw [HZ2.out]
      rintro _ w6 ⟨rfl, hK⟩
      have d0 : w6.cell? ⟨bx1, 0, none⟩ = some (.bool x) := (hK.bx (bx1, x, y') (by simp)).cell 0
      have d1 : w6.cell? ⟨bx1, 1, none⟩ = some (.bool y') := (hK.bx (bx1, x, y') (by simp)).cell 1
      have e0 : w6.cell? ⟨bx2, 0, none⟩ = some (.bool true) := (hK.bx (bx2, true, false) (by simp)).cell 0
      have e1 : w6.cell? ⟨bx2, 1, none⟩ = some (.bool false) := (hK.bx (bx2, true, false) (by simp)).cell 1
      have HK6 : Hid (Wk w1 w6 p (hwOf c) { s2 with z := 0 } []) := hK.less (by simp)
      have hs6 := hK.be |> H1.out.bx.below
      have c6 := hs6.c6; have c7 := hs6.c7; have c8 := hs6.c8
      have E2 : ∀ W : World, (binOp .neq 39 (.agg #[.bool true, .bool false]) (.agg #[.bool true, .bool false])).run Try.prog W = .ok (.bool false) W := fun W => neH_run true false true false W
      have HW : Hid (tc (hwOf c).co x y' = bif x then c.k.l1 else bif y' then c.k.llc else c.k.mi) := rfl
      have HL1 : Hid ((hwOf c).co.l1 = c.k.l1) := rfl
      rw [HW.out, HL1.out]
      clear hK HK5 hs6 hsv HW HL1 HZ1 HZ2 HA7
      cases x <;> cases y' <;> simp only [cond_true, cond_false]
      all_goals
        go_wp2
        go_roundw
        case rel => exact ⟨k + 1, { s2 with z := 0 }, by omega, by omega, by go_num, HK6.out, rfl, HCL2.out.z 0⟩
        case measure => simp [D.iv]; omega
    case' neg =>
      by_cases hkl : k < l
      case' pos =>
        obtain rfl : k = 100 := by omega
      case' neg =>
        obtain rfl : k = l := by omega
      all_goals
        go_wp2_with fail
        have HLi0 := HK.out.li HCL.out
        refine HK.out.lines.mono ?_
        rintro _ w3 ⟨v, rfl, hL, hb3⟩
        obtain ⟨va, vc, rfl⟩ := hL.len
        have HK3 : Hid (Wk w1 w3 p (hwOf c) s []) := HK.out.below hb3
        have HLN : Hid (C.Lns wr.heap.size w3 (.slice va (C.lns s.b ((hwOf c).c * 16)).length vc) (C.lns s.b ((hwOf c).c * 16))) := hL
        have HLI : Hid (Li (hwOf c) (C.lns s.b ((hwOf c).c * 16))) := HLi0
        clear hL hb3 HK HLi0 HCL HZ HF
        generalize C.lns s.b ((hwOf c).c * 16) = L at *
        obtain ⟨N, hN⟩ : ∃ N, L.length = N := ⟨_, rfl⟩
        have HN : Hid (L.length = N) := hN
        have hNle := HLI.out.len
        rw [hN] at HLN hNle ⊢
        clear hN
        have hc1 := HOK.out.c2
        have hk1 := HOK.out.k2
        have hN2 : N ≤ 4096 := by
          have : (hwOf c).c * 16 * (hwOf c).k ≤ 256 * 16 := Nat.mul_le_mul (by omega) hk1
          omega
        go_wp2_with fail
        go_loopw [19] (fun i wr => ∃ k : Nat, k ≤ N ∧ i = .int .i64 k ∧ Below w3.heap.size w3 wr) (fun i _ => N - (D.iv i).toNat)
        case atStart => exact ⟨0, by omega, rfl, Below.refl _ _⟩
        case round =>
          obtain ⟨k', hk', rfl, hbe⟩ := hrel
          have HBE : Hid (Below w3.heap.size w3 wr) := hbe
          have hsv := (HK3.out.below hbe).be |> H1.out.bx.below
          have c1 := hsv.c1
          have c2 := hsv.c2
          clear hbe hsv
          by_cases hlt' : k' < N
          case' pos =>
            have hg : L[k']? = some (L[k']'(by rw [HN.out]; exact hlt')) := List.getElem?_eq_getElem _
            obtain ⟨q, hq, hqn, hset⟩ := HLI.out.at' _ (List.getElem_mem (by rw [HN.out]; exact hlt'))
            generalize hxx : L[k']'(by rw [HN.out]; exact hlt') = x at hg hq hset
            clear hxx
            obtain ⟨xs, xt⟩ := x
            simp only at hq hset
            subst hq
            have hc2 := HOK.out.c1
            have hn2 := HOK.out.n2
            have eC : c.C = ((hwOf c).c : Int) := by simp only [hwOf]; omega
            obtain ⟨o, ho⟩ : ∃ o, q / 16 % (hwOf c).c = o := ⟨_, rfl⟩
            obtain ⟨m, hm'⟩ : ∃ m, q % 16 = m := ⟨_, rfl⟩
            have ho2 : o < 16 := by rw [← ho]; exact Nat.lt_of_lt_of_le (Nat.mod_lt _ hc2) hc1
            have hm2 : m < 16 := by omega
            rw [ho, hm'] at hset
            obtain ⟨fr, hfr⟩ : ∃ fr, q / 16 = fr := ⟨_, rfl⟩
            have hfr2 : fr ≤ 4095 := by omega
            have CO : Hid (∀ w : World, Calls Try.prog 15 #[.int .i64 (fr : Nat), .int .i64 c.C] w fun e w' => e = .returned (.tuple #[.int .i64 (o : Nat), .int .i64 0]) ∧ w' = w) := fun w => by
              have := K.Of_ok (fr : Int) c.C (by omega) (by omega) hC.1 hC.2 w
              have e : (fr : Int) % c.C = (o : Nat) := by rw [eC, ← Int.natCast_emod, ← ho, hfr]
              rw [e] at this
              exact this
            have hq16 : (q : Int) / 16 = (fr : Nat) := by omega
            have hq16' : (q : Int).tmod 16 = (m : Nat) := by rw [Int.tmod_eq_emod_of_nonneg (by omega)]; omega
            have hq16'' : (q : Int) % 16 = (m : Nat) := by omega
            have hqb : q < 65536 := by omega
            obtain ⟨g1, cp1, e1, d1, d1'⟩ := (HLN.out.below HBE.out).cell hg
            have hlen1 : L.length = N := HN.out
            rw [hlen1] at e1
            simp only [Value.slice.injEq] at e1
            obtain ⟨rfl, _, rfl⟩ := e1
            have PV : Hid (∀ j, k' = j + 1 → ∃ ys yt, wr.cell? ⟨g1, j * 2, none⟩ = some (.int .i64 (ys : Nat)) ∧ wr.cell? ⟨g1, j * 2 + 1, none⟩ = some (.int .u64 yt) ∧ ¬ ((xs : Int) = (ys : Nat) ∧ (q : Int) = yt)) := by
              intro j hj
              have hgj : L[j]? = some (L[j]'(by omega)) := List.getElem?_eq_getElem _
              generalize hyy : L[j]'(by omega) = y at hgj
              obtain ⟨ys, yt⟩ := y
              obtain ⟨g2, cp2, e2, f1, f1'⟩ := (HLN.out.below HBE.out).cell hgj
              rw [hlen1] at e2
              simp only [Value.slice.injEq, Option.some.injEq, Addr.mk.injEq, and_true, true_and] at e2
              obtain ⟨rfl, _⟩ := e2
              refine ⟨ys, yt, f1, f1', fun hh => ?_⟩
              have hnd := HLI.out.nod
              have : (xs, (q : Int)) = (ys, yt) := by rw [show xs = ys by omega, hh.2]
              have h3 := (List.getElem?_inj (i := k') (j := j) (by omega) hnd).1 (by rw [hg, hgj, this])
              omega
            simp only at d1 d1'
            clear hg hlen1 HLI HLN ho hfr hm' eC
            have hx1 : (o : Int) * 16 + (m : Int) = (xs : Int) := by omega
            have hx2 : IntKind.i64.wrap ((o : Int) * 16) = (o : Int) * 16 := by simp only [IntKind.wrap, IntKind.signed, IntKind.bits]; simp; omega
            have hx3 : IntKind.i64.wrap ((o : Int) * 16 + (m : Int)) = (xs : Int) := by rw [hx1]; simp only [IntKind.wrap, IntKind.signed, IntKind.bits]; simp; omega
            have hx4 : IntKind.i64.wrap (xs : Int) = (xs : Int) := by simp only [IntKind.wrap, IntKind.signed, IntKind.bits]; simp; omega
            have hi1 : (0 : Int) ≤ (k' : Int) := by omega
            have hi2 : (k' : Int) < (N : Int) := by omega
            clear hset
            go_wp2_with (go_at_call 15; refine (CO.out _).mono ?_; rintro e w' ⟨rfl, rfl⟩)
            rcases Nat.eq_zero_or_pos k' with hk0 | hk0
            case' inl =>
              have hg1 : decide ((0 : Int) < (k' : Int)) = false := by simp; omega
              have hg2 : decide (0 < k') = false := by simp; omega
              clear hk0
              go_big_quiet (fail)
            case' inr =>
              obtain ⟨j, rfl⟩ : ∃ j, k' = j + 1 := ⟨k' - 1, by omega⟩
              obtain ⟨ys, yt, y1, y2, y3⟩ := PV.out j rfl
              have hEL := eqL_run (xs : Int) (ys : Nat) (q : Int) yt y3
              have hg1 : decide ((0 : Int) < ((j + 1 : Nat) : Int)) = true := by rw [decide_eq_true_eq]; omega
              have hg2 : decide (0 < j + 1) = true := by simp
              have hj1 : ((j + 1 : Nat) : Int) - 1 = (j : Int) := by omega
              have hj2 : IntKind.i64.wrap (((j + 1 : Nat) : Int) - 1) = (j : Int) := by rw [hj1]; simp only [IntKind.wrap, IntKind.signed, IntKind.bits]; simp; omega
              have hj3 : (0 : Int) ≤ (j : Int) := by omega
              have hj4 : (j : Int) < (N : Int) := by omega
              go_big_quiet (fail)
            case' inl =>
              go_wp2
              go_roundw
              case rel => exact ⟨k' + 1, by omega, by go_num, ⟨HBE.out.os, HBE.out.tape, HBE.out.output, HBE.out.size, HBE.out.block⟩⟩
              case measure => simp [D.iv]; omega
            case' inr =>
              go_wp2
              go_roundw
              case rel => exact ⟨j + 1 + 1, by omega, by go_num, ⟨HBE.out.os, HBE.out.tape, HBE.out.output, HBE.out.size, HBE.out.block⟩⟩
              case measure => simp [D.iv]; omega
          case' neg =>
            obtain rfl : k' = N := by omega
            obtain ⟨Q, hQ⟩ : ∃ Q : Int, c.C * 16 * c.W = Q := ⟨_, rfl⟩
            have hQ' : (((hwOf c).c * 16 * (hwOf c).k : Nat) : Int) = Q := by
              have e1 : c.C = ((hwOf c).c : Int) := by simp only [hwOf]; omega
              have e2 : c.W = ((hwOf c).k : Int) := by simp only [hwOf]; omega
              rw [← hQ, e1, e2]
              push_cast
              rfl
            have hQ1 : (k' : Int) ≤ Q := by omega
            have hQ2 : Q ≤ 4096 := by
              have : (hwOf c).c * 16 * (hwOf c).k ≤ 256 * 16 := Nat.mul_le_mul (by omega) hk1
              omega
            have hw1 : IntKind.i64.wrap (c.C * 16 * c.W) = Q := by rw [hQ]; simp only [IntKind.wrap, IntKind.signed, IntKind.bits]; simp; omega
            have FIN : Hid (Below w.heap.size w wr) := H1.out.be.trans ((HK3.out.be.trans (HBE.out.mono HK3.out.be.size)).mono H1.out.be.size)
            clear hNle hQ' HLI HLN
            go_wp2
            go_ret
            exact ⟨rfl, FIN.out⟩
theorem colours_any {w : World} {a : Ad} {c : Cf} (hc : Cin w a c) {ao : Option Addr} {l cl : Nat} {f : Nat → Nat} (hl : l ≤ maxLen) (ha : AU w ao l f) (hf : ∀ i, i < l → f i < 18446744073709551616) :
    Calls Try.prog 4 #[.agg #[.int .i64 c.F, .int .i64 c.C, .int .i64 c.W, .int .i64 c.S, .int .i64 c.V, .int .i64 c.T, .int .u64 c.k.l1, .int .u64 c.k.llc, .int .u64 c.k.mi, .int .u64 c.k.fa, .int .u64 c.k.st, .int .u64 c.k.di, .int .u64 c.sl, .int .u64 c.pd, .int .u64 c.ft, .slice a.ta c.tn a.tc, .slice a.pa c.pn a.pc], .slice ao l cl] w fun e w' => e = .returned (.bool true) ∧ Below w.heap.size w w' := by
  cases hm : may c
  · exact colours_no hc hm _
  · exact colours_ok hc hm hl ha hf
end Go.Proofs.Ytokaohlgncmoaaa.E
