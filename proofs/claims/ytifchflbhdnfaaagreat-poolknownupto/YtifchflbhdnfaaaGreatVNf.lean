/- PoolKnown, its second part: what is told behind the takes, and what Give tells. -/
import Derived.Test.YtifchflbhdnfaaaGreatVNe
import Derived.Deep.DeepCutAuto
namespace Go.Proofs.YtifchflbhdnfaaaGreat.P
open Go.ChangeShapes Go.WideShapes Go.ChangeAt Go.RowKit
set_option linter.unusedVariables false
set_option linter.unusedSimpArgs false

set_option maxRecDepth 1000000 in
set_option maxHeartbeats 8000000 in
theorem known_b (w : World) (w0 : World) (p bs vc : Nat) (va : Option Addr) (F : Nat → Prop) (hb : Below w.heap.size w w0) (hf : ∀ x, F x → w.heap.size ≤ x) (hp : Po w0 F p PU v5) (hi : Is w0 bs (.slice va 4 vc) toldL) (s0 s1 s2 s4 s6 s9 s11 s14 s15 s16 s17 s18 s20 s21 s22 s23 s24 s25 s26 s27 s28 s29 s30 s31 s32 s33 s34 s35 s36 s37 s38 s39 s40 s41 s42 s43 s44 s45 s46 s47 s48 s49 s50 s51 s52 s53 s54 s55 s56 s57 s58 s59 s60 s61 s62 s63 s64 s65 s66 s67 s68 s69 s70 s71 s72 s73 s74 s75 s76 s77 s78 s79 s80 s81 s82 s83 s84 s85 s86 s87 s88 s89 s90 s91 s92 s93 s94 s95 s96 s97 s98 s99 s100 s101 s102 s103 s104 s105 s106 s107 s108 s109 s110 s111 s112 s113 s114 s115 s116 s117 s118 s119 s120 s121 s122 s123 s124 s125 s126 s127 s128 s129 s130 s131 s132 s133 s134 s135 s136 s137 s138 s139 s140 s141 s142 s143 s144 s145 s146 s147 s148 s149 s150 s151 s152 s153 s154 s155 s156 s157 s158 s159 s160 s161 s162 s163 s164 s165 s166 s167 s168 s169 s170 s171 s172 s173 s174 s175 s176 s177 s178 s179 s180 s181 s182 s183 s184 s185 s186 s187 s188 s189 s190 s191 s192 s193 s194 s195 s196 s197 s198 s199 s200 s201 s202 s203 s204 s205 s206 s207 s208 s209 s210 s211 s212 s213 s214 s215 s216 s217 s218 s219 s220 s221 s222 s223 s224 s225 s226 s227 s228 s229 s230 s231 s232 s233 s234 s235 s236 s237 s238 s239 s240 s241 s242 s243 s244 s245 s246 s247 s248 s249 s250 s251 s252 s253 s254 s255 s256 s257 s258 s259 s260 s261 s262 s263 s264 s265 s266 s267 s268 s269 s270 s271 s272 s273 s274 s275 s276 s277 s278 s279 s280 s281 s282 s283 s284 s285 s286 s287 s288 s289 s290 s291 s292 s293 s294 s295 s296 s297 s298 s299 s300 s301 s302 s303 s304 s305 s306 s307 s308 s309 s310 s311 s312 s313 s314 s315 s316 s317 s318 s319 s320 s321 : Value) :
    Code.wp Tryz.prog (dropSeq 14 (Tryz.f6.body.getD .skip)) (bodyPost Tryz.prog Tryz.f6 (One (.bool true) w)) ⟨#[s0, s1, s2, .int .i64 270, s4, .int .i64 5, s6, .int .i64 270, .pointer (some ⟨p, 0, none⟩), s9, .bool true, s11, .int .i64 91, .slice va 4 vc, s14, s15, s16, s17, s18, .int .i64 2, s20, s21, s22, s23, s24, s25, s26, s27, s28, s29, s30, s31, s32, s33, s34, s35, s36, s37, s38, s39, s40, s41, s42, s43, s44, s45, s46, s47, s48, s49, s50, s51, s52, s53, s54, s55, s56, s57, s58, s59, s60, s61, s62, s63, s64, s65, s66, s67, s68, s69, s70, s71, s72, s73, s74, s75, s76, s77, s78, s79, s80, s81, s82, s83, s84, s85, s86, s87, s88, s89, s90, s91, s92, s93, s94, s95, s96, s97, s98, s99, s100, s101, s102, s103, s104, s105, s106, s107, s108, s109, s110, s111, s112, s113, s114, s115, s116, s117, s118, s119, s120, s121, s122, s123, s124, s125, s126, s127, s128, s129, s130, s131, s132, s133, s134, s135, s136, s137, s138, s139, s140, s141, s142, s143, s144, s145, s146, s147, s148, s149, s150, s151, s152, s153, s154, s155, s156, s157, s158, s159, s160, s161, s162, s163, s164, s165, s166, s167, s168, s169, s170, s171, s172, s173, s174, s175, s176, s177, s178, s179, s180, s181, s182, s183, s184, s185, s186, s187, s188, s189, s190, s191, s192, s193, s194, s195, s196, s197, s198, s199, s200, s201, s202, s203, s204, s205, s206, s207, s208, s209, s210, s211, s212, s213, s214, s215, s216, s217, s218, s219, s220, s221, s222, s223, s224, s225, s226, s227, s228, s229, s230, s231, s232, s233, s234, s235, s236, s237, s238, s239, s240, s241, s242, s243, s244, s245, s246, s247, s248, s249, s250, s251, s252, s253, s254, s255, s256, s257, s258, s259, s260, s261, s262, s263, s264, s265, s266, s267, s268, s269, s270, s271, s272, s273, s274, s275, s276, s277, s278, s279, s280, s281, s282, s283, s284, s285, s286, s287, s288, s289, s290, s291, s292, s293, s294, s295, s296, s297, s298, s299, s300, s301, s302, s303, s304, s305, s306, s307, s308, s309, s310, s311, s312, s313, s314, s315, s316, s317, s318, s319, s320, s321], []⟩ w0 := by
  conv => arg 2; whnf
  have HB : Hid (Below w.heap.size w w0) := hb
  have HF : Hid (∀ x, F x → w.heap.size ≤ x) := hf
  have HP : Hid (Po w0 F p PU v5) := hp
  have HI : Hid (Is w0 bs (.slice va 4 vc) toldL) := hi
  have T7 : Hid (Calls _ _ _ _ _) := Take_arg hp 7 (by omega)
  have T0 : Hid (Calls _ _ _ _ _) := Take_arg hp 0 (by omega)
  have T4 : Hid (Calls _ _ _ _ _) := Take_mem hp 4 (by omega) (by omega) (by rw [v5_c4]; decide)
  clear hb hf hp hi
  go_wp2_with fail
  refine T7.out.mono ?_
  rintro e w1' ⟨rfl, hw⟩
  obtain rfl := hw.symm
  clear T7 hw
  go_wp2_with fail
  refine T0.out.mono ?_
  rintro e w1' ⟨rfl, hw⟩
  obtain rfl := hw.symm
  clear T0 hw
  go_wp2_with fail
  refine T4.out.mono ?_
  rintro e w1 ⟨rfl, hb1⟩
  have B1 : Hid (Below w.heap.size w w1) := HB.out.trans (hb1.mono HB.out.size)
  have Q1 : Hid (Po w1 F p PU v5 ∧ Is w1 bs (.slice va 4 vc) toldL) := ⟨HP.out.below hb1, HI.out.below hb1⟩
  clear T4 hb1 HB HP HI
  go_upto_region 24 with fail
  have k1 := below_new w1 (.cells #[.int .i64 0, .int .u8 1, .int .i64 1, .int .u8 2, .int .i64 4, .int .u8 1, .int .i64 5, .int .u8 3, .int .i64 8, .int .u8 3, .int .i64 9, .int .u8 4] 64)
  have B2 : Hid (Below w.heap.size w (w1.alloc (.cells #[.int .i64 0, .int .u8 1, .int .i64 1, .int .u8 2, .int .i64 4, .int .u8 1, .int .i64 5, .int .u8 3, .int .i64 8, .int .u8 3, .int .i64 9, .int .u8 4] 64))) := B1.out.trans (k1.mono B1.out.size)
  have P2 : Hid (Po (w1.alloc (.cells #[.int .i64 0, .int .u8 1, .int .i64 1, .int .u8 2, .int .i64 4, .int .u8 1, .int .i64 5, .int .u8 3, .int .i64 8, .int .u8 3, .int .i64 9, .int .u8 4] 64)) F p PU v5) := Q1.out.1.below k1
  have I2 : Hid (Is (w1.alloc (.cells #[.int .i64 0, .int .u8 1, .int .i64 1, .int .u8 2, .int .i64 4, .int .u8 1, .int .i64 5, .int .u8 3, .int .i64 8, .int .u8 3, .int .i64 9, .int .u8 4] 64)) bs (.slice va 4 vc) toldL) := Q1.out.2.below k1
  have W2 : Hid (B.Blk (w1.alloc (.cells #[.int .i64 0, .int .u8 1, .int .i64 1, .int .u8 2, .int .i64 4, .int .u8 1, .int .i64 5, .int .u8 3, .int .i64 8, .int .u8 3, .int .i64 9, .int .u8 4] 64)) w1.heap.size 64 (enO v5 [0, 1, 4, 5, 8, 9])) := by
    rw [enO5]
    exact B.blk_new w1 [.int .i64 0, .int .u8 1, .int .i64 1, .int .u8 2, .int .i64 4, .int .u8 1, .int .i64 5, .int .u8 3, .int .i64 8, .int .u8 3, .int .i64 9, .int .u8 4] 64
  generalize w1.alloc (.cells #[.int .i64 0, .int .u8 1, .int .i64 1, .int .u8 2, .int .i64 4, .int .u8 1, .int .i64 5, .int .u8 3, .int .i64 8, .int .u8 3, .int .i64 9, .int .u8 4] 64) = w2 at *
  generalize w1.heap.size = gw at *
  clear k1 B1 Q1
  have CE : Hid (∀ W, W = w2.alloc (.cells #[.int .i64 1, .int .i64 5, .int .i64 8, .int .i64 9] 3) → Calls Tryz.prog 17 #[.slice va 4 vc, .slice (some ⟨w2.heap.size, 0, none⟩) 4 4] W (One (.bool true) W)) := by
    rintro W rfl
    exact eq_lit (l := toldL) (by decide) (I2.out.below (below_new _ _)) (B.blk_new w2 (B.tv toldL) 3)
  have K2 : Hid (∀ W, W = w2.alloc (.cells #[.int .i64 1, .int .i64 5, .int .i64 8, .int .i64 9] 3) → Below w2.heap.size w2 W) := by
    rintro W rfl
    exact below_new _ _
  clear I2
  go_wp2_with fail
  have k2 := K2.out _ rfl
  refine (CE.out _ rfl).mono ?_
  rintro e w3 ⟨rfl, hb3⟩
  have hb23 : Below w2.heap.size w2 w3 := k2.trans (hb3.mono k2.size)
  have B3 : Hid (Below w.heap.size w w3) := B2.out.trans (hb23.mono B2.out.size)
  have P3 : Hid (Po w3 F p PU v5) := P2.out.below hb23
  have W3 : Hid (B.Blk w3 gw 64 (enO v5 [0, 1, 4, 5, 8, 9])) := W2.out.of_eq (hb23.block _ W2.out.lt)
  have CO : Hid (Calls _ _ _ _ _) := Owned_p P3.out
  rw [v5_us] at CO
  clear CE K2 k2 hb3 hb23 B2 P2 W2
  generalize w2.heap.size = g2 at *
  go_wp2_with fail
  refine CO.out.mono ?_
  rintro e w4 ⟨v4', rfl, hO4, hb4⟩
  have B4 : Hid (Below w.heap.size w w4) := B3.out.trans (hb4.mono B3.out.size)
  have P4 : Hid (Po w4 F p PU v5) := P3.out.below hb4
  have CS : Hid (Calls Tryz.prog 28 #[v4', .slice (some ⟨gw, 0, none⟩) 6 6] w4 (One (.bool true) w4)) := sameOwned_lit (m := 6) (l := [0, 1, 4, 5, 8, 9]) (by decide) hO4 (W3.out.of_eq (hb4.block _ W3.out.lt))
  clear CO hO4 hb4 B3 P3 W3
  go_wp2_with fail
  refine CS.out.mono ?_
  rintro e w5 ⟨rfl, hb5⟩
  have B5 : Hid (Below w.heap.size w w5) := B4.out.trans (hb5.mono B4.out.size)
  have P5 : Hid (Po w5 F p PU v5) := P4.out.below hb5
  clear CS hb5 B4 P4
  go_upto_region 25 with fail
  rename_i Kc hKc
  go_cut [28] from 167 to 204 (fun v wc => v = .bool true ∧ Below w.heap.size w wc)
  case first =>
    have G0 : Hid (Calls Tryz.prog 13 #[.pointer (some ⟨p, 0, none⟩), .int .i64 0] w5 fun e w' => e = .returned (.int .i64 91) ∧ w' = w5) := Give_image P5.out 0 v5_0
    have G2 : Hid (Calls Tryz.prog 13 #[.pointer (some ⟨p, 0, none⟩), .int .i64 2] w5 fun e w' => e = .returned (.int .i64 91) ∧ w' = w5) := Give_none P5.out 2 (by omega) (by omega) (fun g hg => by obtain rfl : g = 2 := (by omega); exact v5_2)
    have Gm : Hid (Calls Tryz.prog 13 #[.pointer (some ⟨p, 0, none⟩), .int .i64 (-1)] w5 fun e w' => e = .returned (.int .i64 91) ∧ w' = w5) := Give_none P5.out (-1) (by omega) (by omega) (fun g hg => by omega)
    have Gf : Hid (Calls Tryz.prog 13 #[.pointer (some ⟨p, 0, none⟩), .int .i64 4096] w5 fun e w' => e = .returned (.int .i64 91) ∧ w' = w5) := Give_none P5.out 4096 (by omega) (by omega) (fun g hg => by obtain rfl : g = 4096 := (by omega); exact v5_4096)
    have Gt : Hid (Calls Tryz.prog 13 #[.pointer (some ⟨p, 0, none⟩), .int .i64 12] w5 fun e w' => e = .returned (.int .i64 91) ∧ w' = w5) := Give_none P5.out 12 (by omega) (by omega) (fun g hg => by obtain rfl : g = 12 := (by omega); exact v5_12)
    have G1 : Hid (Calls Tryz.prog 13 #[.pointer (some ⟨p, 0, none⟩), .int .i64 1] w5 fun e w' => ∃ F', e = .returned (.int .i64 0) ∧ Po w' F' p PU v6 ∧ B.Kp F F' w5 w') := Give_p P5.out 1 2 v5_1 (by omega)
    go_wp2_with fail
    refine G0.out.mono ?_
    rintro e w1' ⟨rfl, hw⟩
    obtain rfl := hw.symm
    clear G0 hw
    go_wp2_with fail
    refine G2.out.mono ?_
    rintro e w1' ⟨rfl, hw⟩
    obtain rfl := hw.symm
    clear G2 hw
    go_wp2_with fail
    refine Gm.out.mono ?_
    rintro e w1' ⟨rfl, hw⟩
    obtain rfl := hw.symm
    clear Gm hw
    go_wp2_with fail
    refine Gf.out.mono ?_
    rintro e w1' ⟨rfl, hw⟩
    obtain rfl := hw.symm
    clear Gf hw
    go_wp2_with fail
    refine Gt.out.mono ?_
    rintro e w1' ⟨rfl, hw⟩
    obtain rfl := hw.symm
    clear Gt hw
    go_wp2_with fail
    refine G1.out.mono ?_
    rintro e w6 ⟨F6, rfl, hP6, hK6⟩
    have B6 : Hid (Below w.heap.size w w6) := B5.out.trans (hK6.below _ B5.out.size HF.out)
    have G1b : Hid (Calls Tryz.prog 13 #[.pointer (some ⟨p, 0, none⟩), .int .i64 1] w6 fun e w' => e = .returned (.int .i64 91) ∧ w' = w6) := Give_none hP6 1 (by omega) (by omega) (fun g hg => by obtain rfl : g = 1 := (by omega); exact v6_1)
    have CW : Hid (Calls _ _ _ _ _) := Whole_p hP6
    rw [v6_whole] at CW
    clear G1 hP6 hK6 B5 P5 HF
    go_wp2_with fail
    refine G1b.out.mono ?_
    rintro e w1' ⟨rfl, hw⟩
    obtain rfl := hw.symm
    clear G1b hw
    go_wp2_with fail
    refine CW.out.mono ?_
    rintro e w7 ⟨rfl, hb7⟩
    have B7 : Hid (Below w.heap.size w w7) := B6.out.trans (hb7.mono B6.out.size)
    clear CW hb7 B6
    go_wp2_with fail
    go_meet
    case rel => exact ⟨rfl, B7.out⟩
  case rest =>
    obtain ⟨rfl, hb7⟩ := hcut
    exact hKc _ _ (known_c w _ hb7 _ _ _ _ _ _ _ _ _ _ _ _ _ _ _ _ _ _ _ _ _ _ _ _ _ _ _ _ _ _ _ _ _ _ _ _ _ _ _ _ _ _ _ _ _ _ _ _ _ _ _ _ _ _ _ _ _ _ _ _ _ _ _ _ _ _ _ _ _ _ _ _ _ _ _ _ _ _ _ _ _ _ _ _ _ _ _ _ _ _ _ _ _ _ _ _ _ _ _ _ _ _ _ _ _ _ _ _ _ _ _ _ _ _ _ _ _ _ _ _ _ _ _ _ _ _ _ _ _ _ _ _ _ _ _ _ _ _ _ _ _ _ _ _ _ _ _ _ _ _ _ _ _ _ _ _ _ _ _ _ _ _ _ _ _ _ _ _ _ _ _ _ _ _ _ _ _ _ _ _ _ _ _ _ _ _ _ _ _ _ _ _ _ _ _ _ _ _ _ _ _ _ _ _ _ _ _ _ _ _ _ _ _ _ _ _ _ _ _ _ _ _ _ _ _ _ _ _ _ _ _ _ _ _ _ _ _ _ _ _ _ _ _ _ _ _ _ _ _ _ _ _ _ _ _ _ _ _ _ _ _ _ _ _ _ _ _ _ _ _ _ _ _ _ _ _ _ _ _ _ _ _ _ _ _ _ _ _ _ _ _ _ _ _ _ _ _ _ _ _ _ _ _ _ _ _ _ _ _ _ _ _ _ _ _ _)
end Go.Proofs.YtifchflbhdnfaaaGreat.P
