/- What works gives back: true; no condition. -/
import Derived.Test.YtifchflbhdnfaaaGreatVWa
import Derived.Test.YtifchflbhdnfaaaGreatVCn
namespace Go.Proofs.YtifchflbhdnfaaaGreat.P
open Go.ChangeShapes Go.WideShapes Go.ChangeAt Go.RowKit
set_option linter.unusedVariables false
set_option maxRecDepth 8192

theorem arg_two {w : World} {g : Nat} {x y : Int} (h : B.Blk w g 3 [.int .i64 x, .int .i64 y]) : Arg w (some ⟨g, 0, none⟩) 2 (fun i => [x, y].getD i 0) :=
  Or.inr ⟨g, 0, rfl, h.lt, fun i hi => by
    rw [Nat.zero_add, h.cell i]
    rcases (show i = 0 ∨ i = 1 by omega) with rfl | rfl <;> rfl⟩
/-- A list of a call's own held against a literal of two. -/
theorem eq_two {w : World} {base g : Nat} {v : Value} {x y : Int} (h : Is w base v [x, y]) (hb : B.Blk w g 3 [.int .i64 x, .int .i64 y]) : Calls Tryz.prog 17 #[v, .slice (some ⟨g, 0, none⟩) 2 2] w (One (.bool true) w) := by
  obtain ⟨a, c, rfl, hA⟩ := h.arg
  exact EqInts_any (by simp) hA (arg_two hb)
theorem kp_false {F : Nat → Prop} {w w' : World} (h : B.Kp (fun _ => False) F w w') : Below w.heap.size w w' := h.below _ (Nat.le_refl _) (fun _ z => z.elim)
set_option maxHeartbeats 4000000 in
theorem works_any (w : World) : Calls Tryz.prog 18 #[] w (One (.bool true) w) := by
  have CN : Hid (∀ W a c, c = us → Cin W a c → Calls Tryz.prog 7 #[.agg #[.int .i64 c.F, .int .i64 c.C, .int .i64 c.W, .int .i64 c.S, .int .i64 c.V, .int .i64 c.T, .int .u64 c.k.l1, .int .u64 c.k.llc, .int .u64 c.k.mi, .int .u64 c.k.fa, .int .u64 c.k.st, .int .u64 c.k.di, .int .u64 c.sl, .int .u64 c.pd, .int .u64 c.ft, .slice a.ta c.tn a.tc, .slice a.pa c.pn a.pc], .int .i64 0] W fun e w' => ∃ p F, e = .returned (.tuple #[.pointer (some ⟨p, 0, none⟩), .int .i64 0]) ∧ Po w' F p PU (fun _ => none) ∧ B.Kp (fun _ => False) F W w') := by
    rintro W a c rfl hc
    exact New_p hc 0 us_may (by decide)
  go_enter Tryz.func18, Tryz.ntmps18
  go_wp2_with fail
  refine (conf_any _).mono ?_
  rintro e w1 ⟨a, c, rfl, hcu, hci, hb1⟩
  have CN1 : Hid (Calls _ _ _ _ _) := CN.out w1 a c hcu hci
  have HB1 : Hid (Below w.heap.size w w1) := hb1
  clear CN hcu hci hb1
  go_wp2_with fail
  refine CN1.out.mono ?_
  rintro e w2 ⟨p, F2, rfl, hP2, hK2⟩
  have HB2 : Hid (Below w.heap.size w w2) := HB1.out.trans ((kp_false hK2).mono HB1.out.size)
  have HF2 : Hid (∀ x, F2 x → w.heap.size ≤ x) := fun x hx => by
    rcases hK2.new x hx with z | z
    · exact z.elim
    · exact Nat.le_trans HB1.out.size z
  have CI : Hid (Calls _ _ _ _ _) := Image_p hP2 (cU_none _ _) 0 u_nx
  rw [u_img] at CI
  clear CN1 hP2 hK2 HB1
  go_wp2_with fail
  refine CI.out.mono ?_
  rintro e w3 ⟨l, F3, rfl, hl3, hd3, hP3, hK3⟩
  obtain ⟨la, lc, rfl, hla⟩ := hl3.arg
  have HB3 : Hid (Below w.heap.size w w3) := HB2.out.trans (hK3.below _ HB2.out.size HF2.out)
  have HF3 : Hid (∀ x, F3 x → w.heap.size ≤ x) := fun x hx => by
    rcases hK3.new x hx with z | z
    · exact HF2.out x z
    · exact Nat.le_trans HB2.out.size z
  have HL3 : Hid (Is w3 w2.heap.size (.slice la 2 lc) [0, 4]) := hl3
  have CT : Hid (Calls _ _ _ _ _) := Take_p hP3 2 (by omega) (by omega) (by rw [show mkI PU (fun _ => none) 0 (2 ^ PU.o) = u1 from rfl, u1_c 2 (by omega)]; decide)
  have HD3 : Hid (∀ k, (Value.slice la 2 lc).ownBlock = some k → ¬ F3 k) := hd3
  clear CI hP3 hK3 hl3 hd3 hla HB2 HF2
  go_wp2_with fail
  refine CT.out.mono ?_
  rintro e w4 ⟨g4, us4, F4, rfl, hT4, hP4, hK4⟩
  obtain ⟨rfl, hu4, hv4⟩ := u2_of hT4
  have HB4 : Hid (Below w.heap.size w w4) := HB3.out.trans (hK4.below _ HB3.out.size HF3.out)
  have HF4 : Hid (∀ x, F4 x → w.heap.size ≤ x) := fun x hx => by
    rcases hK4.new x hx with z | z
    · exact HF3.out x z
    · exact Nat.le_trans HB3.out.size z
  have HL4 : Hid (Is w4 w2.heap.size (.slice la 2 lc) [0, 4]) := HL3.out.of_eq (fun g hg => hK4.block g (HL3.out.lt g hg).2 (HD3.out g hg))
  have HD4 : Hid (∀ k, (Value.slice la 2 lc).ownBlock = some k → ¬ F4 k) := fun k hk z => by
    rcases hK4.new k z with q | q
    · exact HD3.out k hk q
    · have := (HL3.out.lt k hk).2; omega
  have CT2 : Hid (Calls _ _ _ _ _) := Take_p hP4 3 (by omega) (by omega) (by rw [hu4, u2_c]; decide)
  have HV4 : Hid (Lv PU us4 L2) := hv4
  have HU4 : Hid (us4 = B.pt u1 1 (some 2)) := hu4
  clear CT hT4 hP4 hK4 hu4 hv4 HB3 HF3 HL3 HD3
  go_wp2_with fail
  refine CT2.out.mono ?_
  rintro e w5 ⟨g5, us5, F5, rfl, hT5, hP5, hK5⟩
  obtain ⟨rfl, hu5, hv5⟩ := u3_of HV4.out hT5
  have HB5 : Hid (Below w.heap.size w w5) := HB4.out.trans (hK5.below _ HB4.out.size HF4.out)
  have HF5 : Hid (∀ x, F5 x → w.heap.size ≤ x) := fun x hx => by
    rcases hK5.new x hx with z | z
    · exact HF4.out x z
    · exact Nat.le_trans HB4.out.size z
  have HL5 : Hid (Is w5 w2.heap.size (.slice la 2 lc) [0, 4]) := HL4.out.of_eq (fun g hg => hK5.block g (HL4.out.lt g hg).2 (HD4.out g hg))
  have HP5 : Hid (Po w5 F5 p PU us5) := hP5
  have HV5 : Hid (frs PU us5 PU.k = [14, 14]) := u3_fr hv5
  have HU5 : Hid (us5 = B.pt (B.pt u1 1 (some 2)) 5 (some 3)) := by rw [HU4.out] at hu5; exact hu5
  have CE : Hid (∀ W, W = w5.alloc (.cells #[.int .i64 0, .int .i64 4] 3) → Calls Tryz.prog 17 #[.slice la 2 lc, .slice (some ⟨w5.heap.size, 0, none⟩) 2 2] W (One (.bool true) W)) := by
    rintro W rfl
    exact eq_two (HL5.out.below (below_new _ _)) (B.blk_new w5 [.int .i64 0, .int .i64 4] 3)
  clear CT2 hT5 hP5 hK5 hu5 hv5 HB4 HF4 HL4 HD4 HV4 HU4
  go_wp2_with fail
  refine (CE.out _ rfl).mono ?_
  rintro e w6 ⟨rfl, hb6⟩
  have HB56 : Hid (Below w5.heap.size w5 w6) := (below_new _ _).trans (hb6.mono (by simp))
  have HB6 : Hid (Below w.heap.size w w6) := HB5.out.trans (HB56.out.mono HB5.out.size)
  have CF : Hid (Calls _ _ _ _ _) := Free_p (HP5.out.below HB56.out)
  rw [HV5.out] at CF
  have HP6 : Hid (Po w6 F5 p PU us5) := HP5.out.below HB56.out
  clear CE hb6 HB5 HL5 HP5 HB56
  go_wp2_with fail
  refine CF.out.mono ?_
  rintro e w7 ⟨v7, rfl, hI7, hb7⟩
  obtain ⟨va, vc, rfl, hva⟩ := hI7.arg
  have HP7 : Hid (Po w7 F5 p PU us5) := HP6.out.below hb7
  have HB7 : Hid (Below w.heap.size w w7) := HB6.out.trans (hb7.mono HB6.out.size)
  have CE2 : Hid (∀ W, W = w7.alloc (.cells #[.int .i64 14, .int .i64 14] 3) → Calls Tryz.prog 17 #[.slice va 2 vc, .slice (some ⟨w7.heap.size, 0, none⟩) 2 2] W (One (.bool true) W)) := by
    rintro W rfl
    exact eq_two (hI7.below (below_new _ _)) (B.blk_new w7 [.int .i64 14, .int .i64 14] 3)
  clear CF hI7 hb7 hva HP6 HB6
  go_wp2_with fail
  refine (CE2.out _ rfl).mono ?_
  rintro e w8 ⟨rfl, hb8⟩
  have HB78 : Hid (Below w7.heap.size w7 w8) := (below_new _ _).trans (hb8.mono (by simp))
  have HB8 : Hid (Below w.heap.size w w8) := HB7.out.trans (HB78.out.mono HB7.out.size)
  have CG : Hid (Calls Tryz.prog 13 #[.pointer (some ⟨p, 0, none⟩), .int .i64 1] w8 _) := Give_p (HP7.out.below HB78.out) 1 2 (by rw [HU5.out]; exact u3_at) (by omega)
  clear CE2 hb8 HP7 HB7 HB78
  go_wp2_with fail
  refine CG.out.mono ?_
  rintro e w9 ⟨F9, rfl, hP9, hK9⟩
  have HB9 : Hid (Below w.heap.size w w9) := HB8.out.trans (hK9.below _ HB8.out.size HF5.out)
  have CG2 : Hid (Calls Tryz.prog 13 #[.pointer (some ⟨p, 0, none⟩), .int .i64 0] w9 _) := Give_image hP9 0 (by rw [HU5.out]; exact u4_at)
  clear CG hP9 hK9 HB8
  go_wp2_with fail
  refine CG2.out.mono ?_
  rintro e w' ⟨rfl, h⟩
  obtain rfl := h.symm
  go_wp2
  go_ret
  exact ⟨rfl, HB9.out⟩
end Go.Proofs.YtifchflbhdnfaaaGreat.P
