/- VmaKnown, its third part: what Put, Cut, Protect tell of the chapter's list; no condition. -/
import Derived.Test.YtmhfgfgiiinpjabKb
import Derived.Deep.DeepCutAuto
namespace Go.Proofs.Ytmhfgfgiiinpjab.V
open Go.ChangeShapes Go.WideShapes Go.ChangeAt Go.RowKit
set_option linter.unusedVariables false
set_option linter.unusedSimpArgs false
set_option maxRecDepth 8192

/-- What a call answers behind its list. -/
def Er (w : World) (x : Int) (e : Ending) (w' : World) : Prop := ∃ v : Value, e = .returned (.tuple #[v, .int .i64 x]) ∧ Below w.heap.size w w'
theorem An.er {w : World} {a : List Rg × Int} {x : Int} (h : a.2 = x) {e : Ending} {w' : World} (q : An w a e w') : Er w x e w' := by
  subst h
  obtain ⟨a1, a2⟩ := a
  obtain ⟨ao, cap, h1, _, _, h3⟩ := q.read
  exact ⟨_, h1, h3⟩
theorem put_t {W : World} {b : Nat} (h : Rn W (some ⟨b, 0, none⟩) tw) (p n m x : Int) (hw : wfR ⟨p, n, m⟩) (hx : (puV tw ⟨p, n, m⟩).2 = x) : Calls Try.prog 7 #[.slice (some ⟨b, 0, none⟩) 2 2, .agg #[.int .i64 p, .int .i64 n, .int .u8 m]] W (Er W x) := (Put_ok (tw_ri h) ⟨p, n, m⟩ hw).mono (fun e w' q => q.er hx)
theorem cut_t {W : World} {b : Nat} (h : Rn W (some ⟨b, 0, none⟩) tw) (p n x : Int) (hw : -9223372036854775808 ≤ p ∧ p < 9223372036854775808) (hx : (cuV tw p n).2 = x) : Calls Try.prog 8 #[.slice (some ⟨b, 0, none⟩) 2 2, .agg #[.int .i64 p, .int .i64 n]] W (Er W x) := (Cut_ok (tw_ri h) p n hw).mono (fun e w' q => q.er hx)
theorem pro_t {W : World} {b : Nat} (h : Rn W (some ⟨b, 0, none⟩) tw) (p n m x : Int) (hw : wfR ⟨p, n, m⟩) (hx : (prV tw p n m).2 = x) : Calls Try.prog 9 #[.slice (some ⟨b, 0, none⟩) 2 2, .agg #[.int .i64 p, .int .i64 n], .int .u8 m] W (Er W x) := (Protect_ok (tw_ri h) p n m hw).mono (fun e w' q => q.er hx)
set_option maxRecDepth 1000000 in
set_option maxHeartbeats 8000000 in
theorem known_c (w : World) (w0 : World) (hb : Below w.heap.size w w0) (s0 s1 s2 s3 s5 s6 s7 s8 s9 s10 s11 s12 s13 s14 s15 s16 s18 s19 s20 s21 s22 s23 s24 s25 s26 s27 s28 s29 s30 s31 s32 s33 s34 s35 s36 s37 s38 s39 s40 s41 s42 s43 s44 s45 s46 s47 s48 s49 s50 s51 s52 s53 s54 s55 s56 s57 s58 s59 s60 s61 s62 s63 s64 s65 s66 s67 s68 s69 s70 s71 s72 s73 s74 s75 s76 s77 s78 s79 s80 s81 s82 s83 s84 s85 s86 s87 s88 s89 s90 s91 s92 s93 s94 s95 s96 s97 s98 s99 s100 s101 s102 s103 s104 s105 s106 s107 s108 s109 s110 s111 s112 s113 s114 s115 s116 s117 s118 s119 s120 s121 s122 s123 s124 s125 s126 s127 s128 s129 s130 s131 s132 s133 s134 s135 s136 s137 s138 s139 s140 s141 s142 s143 s144 s145 s146 s147 s148 s149 s150 s151 s152 s153 s154 s155 s156 s157 s158 s159 s160 s161 s162 s163 s164 s165 s166 s167 s168 s169 s170 s171 s172 s173 s174 s175 s176 s177 s178 s179 s180 s181 s182 s183 s184 s185 s186 s187 s188 s189 s190 s191 s192 s193 s194 s195 s196 s197 s198 s199 s200 s201 s202 s203 s204 s205 s206 s207 s208 s209 s210 s211 s212 s213 s214 s215 s216 s217 s218 s219 s220 s221 s222 s223 s224 s225 s226 s227 s228 s229 s230 s231 s232 s233 s234 s235 s236 s237 s238 s239 s240 s241 s242 s243 s244 s245 s246 s247 s248 s249 s250 s251 s252 s253 s254 s255 s256 s257 s258 s259 s260 s261 s262 s263 s264 s265 s266 s267 s268 s269 s270 s271 s272 s273 s274 s275 s276 s277 s278 s279 s280 s281 s282 s283 s284 s285 s286 s287 s288 s289 s290 s291 s292 s293 s294 s295 s296 s297 s298 s299 s300 s301 s302 s303 s304 s305 s306 s307 s308 s309 s310 s311 s312 s313 s314 s315 s316 s317 s318 s319 s320 s321 s322 s323 s324 s325 s326 s327 s328 s329 s330 s331 s332 s333 s334 s335 s336 s337 s338 s339 s340 s341 s342 s343 s344 s345 s346 s347 s348 s349 s350 s351 s352 s353 s354 s355 s356 s357 s358 s359 s360 s361 s362 s363 s364 s365 s366 s367 s368 s369 s370 s371 s372 s373 s374 s375 s376 s377 s378 s379 s380 s381 s382 s383 s384 s385 s386 s387 s388 s389 s390 s391 s392 s393 s394 s395 s396 s397 s398 s399 s400 s401 s402 s403 s404 s405 s406 s407 s408 s409 s410 s411 s412 : Value) :
    Code.wp Try.prog (dropSeq 12 (Try.f3.body.getD .skip)) (bodyPost Try.prog Try.f3 (One (.bool true) w)) ⟨#[s0, s1, s2, s3, .bool true, s5, s6, s7, s8, s9, s10, s11, s12, s13, s14, s15, s16, .bool true, s18, s19, s20, s21, s22, s23, s24, s25, s26, s27, s28, s29, s30, s31, s32, s33, s34, s35, s36, s37, s38, s39, s40, s41, s42, s43, s44, s45, s46, s47, s48, s49, s50, s51, s52, s53, s54, s55, s56, s57, s58, s59, s60, s61, s62, s63, s64, s65, s66, s67, s68, s69, s70, s71, s72, s73, s74, s75, s76, s77, s78, s79, s80, s81, s82, s83, s84, s85, s86, s87, s88, s89, s90, s91, s92, s93, s94, s95, s96, s97, s98, s99, s100, s101, s102, s103, s104, s105, s106, s107, s108, s109, s110, s111, s112, s113, s114, s115, s116, s117, s118, s119, s120, s121, s122, s123, s124, s125, s126, s127, s128, s129, s130, s131, s132, s133, s134, s135, s136, s137, s138, s139, s140, s141, s142, s143, s144, s145, s146, s147, s148, s149, s150, s151, s152, s153, s154, s155, s156, s157, s158, s159, s160, s161, s162, s163, s164, s165, s166, s167, s168, s169, s170, s171, s172, s173, s174, s175, s176, s177, s178, s179, s180, s181, s182, s183, s184, s185, s186, s187, s188, s189, s190, s191, s192, s193, s194, s195, s196, s197, s198, s199, s200, s201, s202, s203, s204, s205, s206, s207, s208, s209, s210, s211, s212, s213, s214, s215, s216, s217, s218, s219, s220, s221, s222, s223, s224, s225, s226, s227, s228, s229, s230, s231, s232, s233, s234, s235, s236, s237, s238, s239, s240, s241, s242, s243, s244, s245, s246, s247, s248, s249, s250, s251, s252, s253, s254, s255, s256, s257, s258, s259, s260, s261, s262, s263, s264, s265, s266, s267, s268, s269, s270, s271, s272, s273, s274, s275, s276, s277, s278, s279, s280, s281, s282, s283, s284, s285, s286, s287, s288, s289, s290, s291, s292, s293, s294, s295, s296, s297, s298, s299, s300, s301, s302, s303, s304, s305, s306, s307, s308, s309, s310, s311, s312, s313, s314, s315, s316, s317, s318, s319, s320, s321, s322, s323, s324, s325, s326, s327, s328, s329, s330, s331, s332, s333, s334, s335, s336, s337, s338, s339, s340, s341, s342, s343, s344, s345, s346, s347, s348, s349, s350, s351, s352, s353, s354, s355, s356, s357, s358, s359, s360, s361, s362, s363, s364, s365, s366, s367, s368, s369, s370, s371, s372, s373, s374, s375, s376, s377, s378, s379, s380, s381, s382, s383, s384, s385, s386, s387, s388, s389, s390, s391, s392, s393, s394, s395, s396, s397, s398, s399, s400, s401, s402, s403, s404, s405, s406, s407, s408, s409, s410, s411, s412], []⟩ w0 := by
  conv => arg 2; whnf
  have B0 : Hid (Below w.heap.size w w0) := hb
  clear hb
  go_wp2_with fail
  refine (two_ok _).mono ?_
  rintro e w1 ⟨g1, rfl, r1, b1⟩
  have B1 : Hid (Below w.heap.size w w1) := bs B0.out b1
  have R1 : Hid (Rn w1 (some ⟨g1, 0, none⟩) tw) := r1
  clear r1 b1 B0
  go_wp2_with fail
  refine (put_t R1.out 7 1 1 171 (by unfold wfR; decide) (by decide)).mono ?_
  rintro e w2 ⟨v2, rfl, b2⟩
  have B2 : Hid (Below w.heap.size w w2) := bs B1.out b2
  clear b2 B1
  clear R1
  go_wp2_with fail
  refine (two_ok _).mono ?_
  rintro e w3 ⟨g3, rfl, r3, b3⟩
  have B3 : Hid (Below w.heap.size w w3) := bs B2.out b3
  have R3 : Hid (Rn w3 (some ⟨g3, 0, none⟩) tw) := r3
  clear r3 b3 B2
  go_wp2_with fail
  refine (put_t R3.out 8 0 1 2 (by unfold wfR; decide) (by decide)).mono ?_
  rintro e w4 ⟨v4, rfl, b4⟩
  have B4 : Hid (Below w.heap.size w w4) := bs B3.out b4
  clear b4 B3
  clear R3
  go_wp2_with fail
  refine (two_ok _).mono ?_
  rintro e w5 ⟨g5, rfl, r5, b5⟩
  have B5 : Hid (Below w.heap.size w w5) := bs B4.out b5
  have R5 : Hid (Rn w5 (some ⟨g5, 0, none⟩) tw) := r5
  clear r5 b5 B4
  go_wp2_with fail
  refine (put_t R5.out 8 1 4 2 (by unfold wfR; decide) (by decide)).mono ?_
  rintro e w6 ⟨v6, rfl, b6⟩
  have B6 : Hid (Below w.heap.size w w6) := bs B5.out b6
  clear b6 B5
  clear R5
  go_wp2_with fail
  refine (two_ok _).mono ?_
  rintro e w7 ⟨g7, rfl, r7, b7⟩
  have B7 : Hid (Below w.heap.size w w7) := bs B6.out b7
  have R7 : Hid (Rn w7 (some ⟨g7, 0, none⟩) tw) := r7
  clear r7 b7 B6
  go_wp2_with fail
  refine (cut_t R7.out 0 9 2 (by omega) (by decide)).mono ?_
  rintro e w8 ⟨v8, rfl, b8⟩
  have B8 : Hid (Below w.heap.size w w8) := bs B7.out b8
  clear b8 B7
  clear R7
  go_wp2_with fail
  refine (two_ok _).mono ?_
  rintro e w9 ⟨g9, rfl, r9, b9⟩
  have B9 : Hid (Below w.heap.size w w9) := bs B8.out b9
  have R9 : Hid (Rn w9 (some ⟨g9, 0, none⟩) tw) := r9
  clear r9 b9 B8
  go_wp2_with fail
  refine (pro_t R9.out 7 2 1 170 (by unfold wfR; decide) (by decide)).mono ?_
  rintro e w10 ⟨v10, rfl, b10⟩
  have B10 : Hid (Below w.heap.size w w10) := bs B9.out b10
  clear b10 B9
  clear R9
  go_wp2_with fail
  refine (two_ok _).mono ?_
  rintro e w11 ⟨g11, rfl, r11, b11⟩
  have B11 : Hid (Below w.heap.size w w11) := bs B10.out b11
  have R11 : Hid (Rn w11 (some ⟨g11, 0, none⟩) tw) := r11
  clear r11 b11 B10
  go_wp2_with fail
  refine (pro_t R11.out 10 2 2 2 (by unfold wfR; decide) (by decide)).mono ?_
  rintro e w12 ⟨v12, rfl, b12⟩
  have B12 : Hid (Below w.heap.size w w12) := bs B11.out b12
  clear b12 B11
  clear R11
  go_wp2_with fail
  refine (two_ok _).mono ?_
  rintro e w13 ⟨g13, rfl, r13, b13⟩
  have B13 : Hid (Below w.heap.size w w13) := bs B12.out b13
  have R13 : Hid (Rn w13 (some ⟨g13, 0, none⟩) tw) := r13
  clear r13 b13 B12
  go_wp2_with fail
  refine (pro_t R13.out 99 1 2 2 (by unfold wfR; decide) (by decide)).mono ?_
  rintro e w14 ⟨v14, rfl, b14⟩
  have B14 : Hid (Below w.heap.size w w14) := bs B13.out b14
  clear b14 B13
  clear R13
  go_upto_region 26 with fail
  rename_i Kc hKc
  go_cut [32] from 283 to 308 (fun t32 wx => t32 = .bool true ∧ Below w.heap.size w wx)
  case first =>
    go_wp2_with fail
    go_meet
    case rel => exact ⟨rfl, B14.out⟩
  case rest =>
    obtain ⟨rfl, hb9⟩ := hcut
    exact hKc _ _ (known_d w _ hb9 _ _ _ _ _ _ _ _ _ _ _ _ _ _ _ _ _ _ _ _ _ _ _ _ _ _ _ _ _ _ _ _ _ _ _ _ _ _ _ _ _ _ _ _ _ _ _ _ _ _ _ _ _ _ _ _ _ _ _ _ _ _ _ _ _ _ _ _ _ _ _ _ _ _ _ _ _ _ _ _ _ _ _ _ _ _ _ _ _ _ _ _ _ _ _ _ _ _ _ _ _ _ _ _ _ _ _ _ _ _ _ _ _ _ _ _ _ _ _ _ _ _ _ _ _ _ _ _ _ _ _ _ _ _ _ _ _ _ _ _ _ _ _ _ _ _ _ _ _ _ _ _ _ _ _ _ _ _ _ _ _ _ _ _ _ _ _ _ _ _ _ _ _ _ _ _ _ _ _ _ _ _ _ _ _ _ _ _ _ _ _ _ _ _ _ _ _ _ _ _ _ _ _ _ _ _ _ _ _ _ _ _ _ _ _ _ _ _ _ _ _ _ _ _ _ _ _ _ _ _ _ _ _ _ _ _ _ _ _ _ _ _ _ _ _ _ _ _ _ _ _ _ _ _ _ _ _ _ _ _ _ _ _ _ _ _ _ _ _ _ _ _ _ _ _ _ _ _ _ _ _ _ _ _ _ _ _ _ _ _ _ _ _ _ _ _ _ _ _ _ _ _ _ _ _ _ _ _ _ _ _ _ _ _ _ _ _ _ _ _ _ _ _ _ _ _ _ _ _ _ _ _ _ _ _ _ _ _ _ _ _ _ _ _ _ _ _ _ _ _ _ _ _ _ _ _ _ _ _ _ _ _ _ _ _ _ _ _ _ _ _ _ _ _ _ _ _ _ _ _ _ _ _ _ _ _ _ _ _ _ _ _ _ _ _ _ _ _ _ _ _ _ _ _ _ _ _ _ _ _)
end Go.Proofs.Ytmhfgfgiiinpjab.V
