/- The closed law TlbKnown: a row filled, found, marked. -/
import Derived.Test.YtkgmdalekakgpaaNb
namespace Go.Proofs.Ytkgmdalekakgpaa
open Go.ChangeShapes Go.WideShapes Go.ChangeAt Go.RowKit
set_option linter.unusedVariables false
set_option linter.unusedSimpArgs false

theorem kn9 : isT 0 1 [tr 3, tr 1] = (true, 0) := by simp [isT, look, hk, okA, okP, tr]
theorem kn10 : mrkL 0 1 [tr 3, tr 1] = [tr 3, dr1] := by simp [mrkL, mrk, hk, okA, okP, tr, dr1]
theorem kn11 : isT 1 1 [tr 3, dr1] = (false, 0) := by simp [isT, look, hk, okA, okP, tr, dr1]
theorem kn12 : mrkL 1 1 [tr 3, dr1] = [tr 3, dr1] := by simp [mrkL, mrk, hk, okA, okP, tr, dr1]
set_option maxRecDepth 1000000 in
set_option maxHeartbeats 8000000 in
theorem known_a (w : World) (w0 : World) (hb : Below w.heap.size w w0) (s0 s1 s2 s3 s4 s5 s6 s7 s8 s9 s10 s11 s12 s13 s14 s15 s16 s17 s18 s19 s20 s21 s22 s24 s25 s26 s27 s28 s29 s30 s31 s32 s33 s34 s35 s36 s37 s38 s39 s40 s41 s42 s43 s44 s45 s46 s47 s48 s49 s50 s51 s52 s53 s54 s55 s56 s57 s58 s59 s60 s61 s62 s63 s64 s65 s66 s67 s68 s69 s70 s71 s72 s73 s74 s75 s76 s77 s78 s79 s80 s81 s82 s83 s84 s85 s86 s87 s88 s89 s90 s91 s92 s93 s94 s95 s96 s97 s98 s99 s100 s101 s102 s103 s104 s105 s106 s107 s108 s109 s110 s111 s112 s113 s114 s115 s116 s117 s118 s119 s120 s121 s122 s123 s124 s125 s126 s127 s128 s129 s130 s131 s132 s133 s134 s135 s136 s137 s138 s139 s140 s141 s142 s143 s144 s145 s146 s147 s148 s149 s150 s151 s152 s153 s154 s155 s156 s157 s158 s159 s160 s161 s162 s163 s164 s165 s166 s167 s168 s169 s170 s171 s172 s173 s174 s175 s176 s177 s178 s179 s180 s181 s182 s183 s184 s185 s186 s187 s188 s189 s190 s191 s192 s193 s194 s195 s196 s197 s198 s199 s200 s201 s202 s203 s204 s205 s206 s207 s208 s209 s210 s211 s212 s213 s214 s215 s216 s217 s218 s219 s220 s221 s222 s223 s224 s225 s226 s227 s228 s229 s230 s231 s232 s233 s234 s235 s236 s237 s238 s239 s240 s241 s242 s243 s244 s245 s246 s247 s248 s249 s250 s251 s252 s253 s254 s255 s256 s257 s258 s259 s260 s261 s262 s263 s264 s265 s266 s267 s268 s269 s270 s271 s272 s273 s274 s275 s276 s277 s278 s279 s280 s281 s282 s283 s284 s285 s286 s287 s288 s289 s290 s291 s292 s293 s294 s295 s296 s297 s298 s299 s300 s301 s302 s303 s304 s305 s306 s307 s308 s309 s310 s311 s312 s313 s314 s315 s316 s317 s318 s319 s320 s321 s322 s323 s324 s325 s326 s327 s328 s329 s330 s331 s332 s333 s334 s335 s336 s337 s338 s339 s340 s341 s342 s343 s344 s345 s346 s347 s348 s349 s350 s351 s352 s353 s354 s355 s356 s357 s358 s359 s360 s361 s362 s363 s364 s365 s366 s367 s368 s369 s370 s371 s372 s373 s374 s375 s376 s377 s378 s379 s380 s381 s382 s383 s384 s385 s386 s387 s388 s389 s390 s391 s392 : Value) :
    Code.wp Try.prog (dropSeq 9 (Try.f6.body.getD .skip)) (bodyPost Try.prog Try.f6 fun e w' => e = .returned (.bool true) ∧ Below w.heap.size w w') ⟨#[s0, s1, s2, s3, s4, s5, s6, s7, s8, s9, s10, s11, s12, s13, s14, s15, s16, s17, s18, s19, s20, s21, s22, .bool true, s24, s25, s26, s27, s28, s29, s30, s31, s32, s33, s34, s35, s36, s37, s38, s39, s40, s41, s42, s43, s44, s45, s46, s47, s48, s49, s50, s51, s52, s53, s54, s55, s56, s57, s58, s59, s60, s61, s62, s63, s64, s65, s66, s67, s68, s69, s70, s71, s72, s73, s74, s75, s76, s77, s78, s79, s80, s81, s82, s83, s84, s85, s86, s87, s88, s89, s90, s91, s92, s93, s94, s95, s96, s97, s98, s99, s100, s101, s102, s103, s104, s105, s106, s107, s108, s109, s110, s111, s112, s113, s114, s115, s116, s117, s118, s119, s120, s121, s122, s123, s124, s125, s126, s127, s128, s129, s130, s131, s132, s133, s134, s135, s136, s137, s138, s139, s140, s141, s142, s143, s144, s145, s146, s147, s148, s149, s150, s151, s152, s153, s154, s155, s156, s157, s158, s159, s160, s161, s162, s163, s164, s165, s166, s167, s168, s169, s170, s171, s172, s173, s174, s175, s176, s177, s178, s179, s180, s181, s182, s183, s184, s185, s186, s187, s188, s189, s190, s191, s192, s193, s194, s195, s196, s197, s198, s199, s200, s201, s202, s203, s204, s205, s206, s207, s208, s209, s210, s211, s212, s213, s214, s215, s216, s217, s218, s219, s220, s221, s222, s223, s224, s225, s226, s227, s228, s229, s230, s231, s232, s233, s234, s235, s236, s237, s238, s239, s240, s241, s242, s243, s244, s245, s246, s247, s248, s249, s250, s251, s252, s253, s254, s255, s256, s257, s258, s259, s260, s261, s262, s263, s264, s265, s266, s267, s268, s269, s270, s271, s272, s273, s274, s275, s276, s277, s278, s279, s280, s281, s282, s283, s284, s285, s286, s287, s288, s289, s290, s291, s292, s293, s294, s295, s296, s297, s298, s299, s300, s301, s302, s303, s304, s305, s306, s307, s308, s309, s310, s311, s312, s313, s314, s315, s316, s317, s318, s319, s320, s321, s322, s323, s324, s325, s326, s327, s328, s329, s330, s331, s332, s333, s334, s335, s336, s337, s338, s339, s340, s341, s342, s343, s344, s345, s346, s347, s348, s349, s350, s351, s352, s353, s354, s355, s356, s357, s358, s359, s360, s361, s362, s363, s364, s365, s366, s367, s368, s369, s370, s371, s372, s373, s374, s375, s376, s377, s378, s379, s380, s381, s382, s383, s384, s385, s386, s387, s388, s389, s390, s391, s392], []⟩ w0 := by
  conv => arg 2; whnf
  have K0 : Hid (Kpt (fun k => k < w.heap.size) w w0) := ⟨hb.os, hb.tape, hb.output, hb.size, hb.block, fun i hi => hi⟩
  have hs0 := hb.size
  have W1 : Hid (filL 2 ⟨0, 1, 11, true, false, false⟩ [] = [tr 1]) := wk1
  have W2 : Hid (filL 2 ⟨0, 2, 12, true, false, false⟩ [tr 1] = [tr 2, tr 1]) := wk2
  have W3 : Hid (pk 0 1 [tr 2, tr 1] = (⟨0, 1, 11, true, false, false⟩, true, 0)) := wk3
  have W4 : Hid (fd 0 1 [tr 2, tr 1] = [tr 1, tr 2]) := wk4
  have W5 : Hid (filL 2 ⟨0, 3, 13, true, false, false⟩ [tr 1, tr 2] = [tr 3, tr 1]) := wk5
  have E1 : Hid (filE ⟨0, 1, 11, true, false, false⟩ = 0) := wkE 1 (by omega) (by omega)
  have E2 : Hid (filE ⟨0, 2, 12, true, false, false⟩ = 0) := wkE 2 (by omega) (by omega)
  have E3 : Hid (filE ⟨0, 3, 13, true, false, false⟩ = 0) := wkE 3 (by omega) (by omega)
  have D1 : Hid (isT 0 1 [tr 3, tr 1] = (true, 0)) := kn9
  have L1 : Hid (mrkL 0 1 [tr 3, tr 1] = [tr 3, dr1]) := kn10
  have D2 : Hid (isT 1 1 [tr 3, dr1] = (false, 0)) := kn11
  have L2 : Hid (mrkL 1 1 [tr 3, dr1] = [tr 3, dr1]) := kn12
  clear hb
  go_wp2_with fail
  refine (New_ok 2 (by omega) (by omega) w0).mono ?_
  rintro e w1 ⟨p, F1, rfl, hC, hK⟩
  have O1 : Hid (On (fun k => k < w.heap.size) w w1 p 2 []) := On.less K0.out (On.start hC hK) (fun i hi => Nat.lt_of_lt_of_le hi hs0)
  clear hC hK
  go_wp2_with fail
  refine (trans_any 1 (by omega) (by omega) _).mono ?_
  rintro e w2 ⟨rfl, hb⟩
  have O2 : Hid (On (fun k => k < w.heap.size) w w2 p 2 []) := O1.out.below hb
  clear hb O1
  go_wp2_with fail
  refine (O2.out.fill_at 0 1 11 true false false _ _ E1.out W1.out).mono ?_
  rintro e w3 ⟨rfl, hO⟩
  have O3 : Hid (On (fun k => k < w.heap.size) w w3 p 2 [tr 1]) := hO
  clear hO O2
  go_wp2_with fail
  refine (trans_any 2 (by omega) (by omega) _).mono ?_
  rintro e w4 ⟨rfl, hb⟩
  have O4 : Hid (On (fun k => k < w.heap.size) w w4 p 2 [tr 1]) := O3.out.below hb
  clear hb O3
  go_wp2_with fail
  refine (O4.out.fill_at 0 2 12 true false false _ _ E2.out W2.out).mono ?_
  rintro e w5 ⟨rfl, hO⟩
  have O5 : Hid (On (fun k => k < w.heap.size) w w5 p 2 [tr 2, tr 1]) := hO
  clear hO O4
  go_wp2_with fail
  refine (O5.out.find_at 0 1 _ _ _ _ W3.out W4.out).mono ?_
  rintro e w6 ⟨rfl, hO⟩
  have O6 : Hid (On (fun k => k < w.heap.size) w w6 p 2 [tr 1, tr 2]) := hO
  clear hO O5
  go_wp2_with fail
  refine (trans_any 3 (by omega) (by omega) _).mono ?_
  rintro e w7 ⟨rfl, hb⟩
  have O7 : Hid (On (fun k => k < w.heap.size) w w7 p 2 [tr 1, tr 2]) := O6.out.below hb
  clear hb O6
  go_wp2_with fail
  refine (O7.out.fill_at 0 3 13 true false false _ _ E3.out W5.out).mono ?_
  rintro e w8 ⟨rfl, hO⟩
  have O8 : Hid (On (fun k => k < w.heap.size) w w8 p 2 [tr 3, tr 1]) := hO
  clear hO O7
  go_wp2_with fail
  refine (O8.out.mark_at 0 1 _ _ _ D1.out L1.out).mono ?_
  rintro e w9 ⟨rfl, hO⟩
  have O9 : Hid (On (fun k => k < w.heap.size) w w9 p 2 [tr 3, dr1]) := hO
  clear hO O8
  go_wp2_with fail
  refine (O9.out.mark_at 1 1 _ _ _ D2.out L2.out).mono ?_
  rintro e w10 ⟨rfl, hO⟩
  have O10 : Hid (On (fun k => k < w.heap.size) w w10 p 2 [tr 3, dr1]) := hO
  clear hO O9 W1 W2 W3 W4 W5 E1 E2 E3 D1 D2 L1 L2
  go_wp2_with fail
  refine (trans_any 1 (by omega) (by omega) _).mono ?_
  rintro e w11 ⟨rfl, hb⟩
  have O11 : Hid (On (fun k => k < w.heap.size) w w11 p 2 [tr 3, dr1]) := O10.out.below hb
  clear hb O10
  go_upto_region 30 with fail
  have X2 : Hid (Six (w11.alloc (.cells #[.int .i64 0, .int .i64 1, .int .i64 11, .bool true, .bool false, .bool true] 32)) w11.heap.size 0 dr1) := six_new w11 dr1 32
  have O12 : Hid (On (fun i => i < w.heap.size ∨ (w11.heap.size ≤ i ∧ i < (w11.alloc (.cells #[.int .i64 0, .int .i64 1, .int .i64 11, .bool true, .bool false, .bool true] 32)).heap.size)) (w11.alloc (.cells #[.int .i64 0, .int .i64 1, .int .i64 11, .bool true, .bool false, .bool true] 32)) (w11.alloc (.cells #[.int .i64 0, .int .i64 1, .int .i64 11, .bool true, .bool false, .bool true] 32)) p 2 [tr 3, dr1]) := O11.out.more (below_new _ _)
  have KB : Hid (Kpt (fun k => k < w.heap.size) w (w11.alloc (.cells #[.int .i64 0, .int .i64 1, .int .i64 11, .bool true, .bool false, .bool true] 32))) := O11.out.kpt.below (below_new _ _)
  have hb7 : w11.heap.size < (w11.alloc (.cells #[.int .i64 0, .int .i64 1, .int .i64 11, .bool true, .bool false, .bool true] 32)).heap.size := by simp
  generalize w11.alloc (.cells #[.int .i64 0, .int .i64 1, .int .i64 11, .bool true, .bool false, .bool true] 32) = W2 at *
  clear O11
  generalize hbx : w11.heap.size = bx at *
  have XK : Hid (∀ W, Kpt (fun i => i < w.heap.size ∨ (bx ≤ i ∧ i < W2.heap.size)) W2 W → Six W bx 0 dr1) := fun W k => X2.out.of_eq (k.block bx (Or.inr ⟨Nat.le_refl _, hb7⟩))
  have FIN : Hid (∀ W l, On (fun i => i < w.heap.size ∨ (bx ≤ i ∧ i < W2.heap.size)) W2 W p 2 l → On (fun k => k < w.heap.size) w W p 2 l) := fun W l o => On.less KB.out o (fun i hi => Or.inl hi)
  obtain ⟨Q, hQ⟩ : ∃ Q, Q = (fun i => i < w.heap.size ∨ (bx ≤ i ∧ i < W2.heap.size)) := ⟨_, rfl⟩
  rw [← hQ] at O12 XK FIN
  clear hQ KB X2
  rename_i Kc hKc
  go_cut [31] from 243 to 255 (fun v wc => v = .bool true ∧ On (fun k => k < w.heap.size) w wc p 2 [tr 3, dr1])
  case first =>
    go_wp2_with fail
    have O4 : Hid (On Q W2 W2.drew p 2 [tr 3, dr1]) := O12.out.below (below_drew _ _)
    clear O12
    have BS : Hid (∀ W : World, Own 0 (W.alloc (.cells #[.int .i64 0, .int .i64 3, .int .i64 13, .bool true, .bool false, .bool false, .int .i64 0, .int .i64 1, .int .i64 11, .bool true, .bool false, .bool true] 32)) (.slice (some ⟨W.heap.size, 0, none⟩) 2 2) [tr 3, dr1]) := fun W => Own.of_blk (l := [tr 3, dr1]) (Nat.zero_le _) (blk_new W _ 32) (by simp) (by unfold maxLen; simp) (by rfl) (by rfl)
    go_region_held3 (fun W => W.cell? ⟨bx, 0, none⟩ = some (.int .i64 0) ∧ W.cell? ⟨bx, 1, none⟩ = some (.int .i64 1) ∧ W.cell? ⟨bx, 2, none⟩ = some (.int .i64 11) ∧ W.cell? ⟨bx, 3, none⟩ = some (.bool true) ∧ W.cell? ⟨bx, 4, none⟩ = some (.bool false) ∧ W.cell? ⟨bx, 5, none⟩ = some (.bool true))
      (first | exact (XK.out _ O7.out.kpt).sx | exact (XK.out _ (O6.out.below (below_new _ _)).kpt).sx | exact (XK.out _ O6.out.kpt).sx | exact (XK.out _ O5.out.kpt).sx | exact (XK.out _ O4.out.kpt).sx)
      (first
        | (go_at_call 11; refine O4.out.all.mono ?_; rintro e w5 ⟨va, rfl, oa, hb⟩; have O5 : Hid (On Q W2 w5 p 2 [tr 3, dr1]) := O4.out.below hb; have A5 : Hid (Own W2.drew.heap.size w5 va [tr 3, dr1]) := oa; clear O4 hb oa)
        | (go_at_call 25; refine (trans_any 3 (by omega) (by omega) _).mono ?_; rintro e w6 ⟨rfl, hb⟩; have O6 : Hid (On Q W2 w6 p 2 [tr 3, dr1]) := O5.out.below hb; have A6 : Hid (Own W2.drew.heap.size w6 va [tr 3, dr1]) := A5.out.below hb; clear O5 A5 hb)
        | (go_at_call 12; refine (same_any (A6.out.below (below_new w6 _)) (BS.out w6) (by simp)).mono ?_; rintro e w7 ⟨rfl, hb⟩; have O7 : Hid (On Q W2 w7 p 2 [tr 3, dr1]) := (O6.out.below (below_new w6 _)).below hb; clear hb))
    have O8 : Hid (On (fun k => k < w.heap.size) w w7 p 2 [tr 3, dr1]) := FIN.out _ _ O7.out
    clear O7 O6 A6 BS XK FIN
    go_wp2_with fail
    go_meet
    case rel => exact ⟨rfl, O8.out⟩
  case rest =>
    obtain ⟨rfl, hO⟩ := hcut
    exact hKc _ _ (known_b w _ p hO _ _ _ _ _ _ _ _ _ _ _ _ _ _ _ _ _ _ _ _ _ _ _ _ _ _ _ _ _ _ _ _ _ _ _ _ _ _ _ _ _ _ _ _ _ _ _ _ _ _ _ _ _ _ _ _ _ _ _ _ _ _ _ _ _ _ _ _ _ _ _ _ _ _ _ _ _ _ _ _ _ _ _ _ _ _ _ _ _ _ _ _ _ _ _ _ _ _ _ _ _ _ _ _ _ _ _ _ _ _ _ _ _ _ _ _ _ _ _ _ _ _ _ _ _ _ _ _ _ _ _ _ _ _ _ _ _ _ _ _ _ _ _ _ _ _ _ _ _ _ _ _ _ _ _ _ _ _ _ _ _ _ _ _ _ _ _ _ _ _ _ _ _ _ _ _ _ _ _ _ _ _ _ _ _ _ _ _ _ _ _ _ _ _ _ _ _ _ _ _ _ _ _ _ _ _ _ _ _ _ _ _ _ _ _ _ _ _ _ _ _ _ _ _ _ _ _ _ _ _ _ _ _ _ _ _ _ _ _ _ _ _ _ _ _ _ _ _ _ _ _ _ _ _ _ _ _ _ _ _ _ _ _ _ _ _ _ _ _ _ _ _ _ _ _ _ _ _ _ _ _ _ _ _ _ _ _ _ _ _ _ _ _ _ _ _ _ _ _ _ _ _ _ _ _ _ _ _ _ _ _ _ _ _ _ _ _ _ _ _ _ _ _ _ _ _ _ _ _ _ _ _ _ _ _ _ _ _ _ _ _ _ _ _ _ _ _ _ _ _ _ _ _ _ _ _ _ _ _ _ _ _ _ _ _ _ _ _ _ _ _ _ _ _ _ _ _ _ _ _ _ _ _ _ _ _ _ _ _ _)
end Go.Proofs.Ytkgmdalekakgpaa
