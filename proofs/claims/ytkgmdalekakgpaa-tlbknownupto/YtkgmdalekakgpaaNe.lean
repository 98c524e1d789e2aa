/- The closed law TlbKnown: the ends of the numbers. -/
import Derived.Test.YtkgmdalekakgpaaNa
namespace Go.Proofs.Ytkgmdalekakgpaa
open Go.ChangeShapes Go.WideShapes Go.ChangeAt Go.RowKit
set_option linter.unusedVariables false
set_option linter.unusedSimpArgs false

def e7 : Tr := ⟨127, 1048575, 0, false, false, false⟩
def e8 : Tr := ⟨0, 0, 4095, false, false, false⟩
theorem ke1 : filE ⟨0, 0, 4096, false, false, false⟩ = 2 := by simp [filE, okA, okP, okF]
theorem ke2 : filL 64 ⟨0, 0, 4096, false, false, false⟩ [e7] = [e7] := by simp [filL, okA, okP, okF]
theorem ke3 : filE ⟨0, 0, -1, false, false, false⟩ = 2 := by simp [filE, okA, okP, okF]
theorem ke4 : filL 64 ⟨0, 0, -1, false, false, false⟩ [e7] = [e7] := by simp [filL, okA, okP, okF]
theorem ke5 : filE ⟨0, 0, 4095, false, false, false⟩ = 0 := by simp [filE, okA, okP, okF]
theorem ke6 : filL 64 ⟨0, 0, 4095, false, false, false⟩ [e7] = [e8, e7] := by simp [filL, fil, rm, hk, okA, okP, okF, e7, e8]
set_option maxRecDepth 1000000 in
set_option maxHeartbeats 8000000 in
theorem known_e (w : World) (w0 : World) (p ge cap : Nat) (hcap : 5 ≤ cap ∧ cap ≤ 9223372036854775807) (hge : ge < w0.heap.size) (h : On (fun k => k < w.heap.size) w w0 p 64 [e7]) (hE : w0.cell? ⟨ge, 0, none⟩ = some (.int .i64 2) ∧ w0.cell? ⟨ge, 1, none⟩ = some (.int .i64 2) ∧ w0.cell? ⟨ge, 2, none⟩ = some (.int .i64 2) ∧ w0.cell? ⟨ge, 3, none⟩ = some (.int .i64 2) ∧ w0.cell? ⟨ge, 4, none⟩ = some (.int .i64 0)) (s0 s1 s2 s3 s4 s6 s8 s9 s10 s11 s12 s13 s14 s15 s16 s17 s18 s19 s20 s21 s22 s23 s24 s25 s26 s27 s28 s29 s30 s31 s32 s33 s34 s35 s36 s37 s38 s39 s40 s41 s42 s43 s44 s45 s46 s47 s48 s49 s50 s51 s52 s53 s54 s55 s56 s57 s58 s59 s60 s61 s62 s63 s64 s65 s66 s67 s68 s69 s70 s71 s72 s73 s74 s75 s76 s77 s78 s79 s80 s81 s82 s83 s84 s85 s86 s87 s88 s89 s90 s91 s92 s93 s94 s95 s96 s97 s98 s99 s100 s101 s102 s103 s104 s105 s106 s107 s108 s109 s110 s111 s112 s113 s114 s115 s116 s117 s118 s119 s120 s121 s122 s123 s124 s125 s126 s127 s128 s129 s130 s131 s132 s133 s134 s135 s136 s137 s138 s139 s140 s141 s142 s143 s144 s145 s146 s147 s148 s149 s150 s151 s152 s153 s154 s155 s156 s157 s158 s159 s160 s161 s162 s163 s164 s165 s166 s167 s168 s169 s170 s171 s172 s173 s174 s175 s176 s177 s178 s179 s180 s181 s182 s183 s184 s185 s186 s187 s188 s189 s190 s191 s192 s193 s194 s195 s196 s197 s198 s199 s200 s201 s202 s203 s204 s205 s206 s207 s208 s209 s210 s211 s212 s213 s214 s215 s216 s217 s218 s219 s220 s221 s222 s223 s224 s225 s226 s227 s228 s229 s230 s231 s232 s233 s234 s235 s236 s237 s238 s239 s240 s241 s242 s243 s244 s245 s246 s247 s248 s249 s250 s251 s252 s253 s254 s255 s256 s257 s258 s259 s260 s261 s262 s263 s264 s265 s266 s267 s268 s269 s270 s271 s272 s273 s274 s275 s276 s277 s278 s279 s280 s281 s282 s283 s284 s285 s286 s287 s288 s289 s290 s291 s292 s293 s294 s295 s296 s297 s298 s299 s300 s301 s302 s303 s304 s305 s306 s307 s308 s309 s310 s311 s312 s313 s314 s315 s316 s317 s318 s319 s320 s321 s322 s323 s324 s325 s326 s327 s328 s329 s330 s331 s332 s333 s334 s335 s336 s337 s338 s339 s340 s341 s342 s343 s344 s345 s346 s347 s348 s349 s350 s351 s352 s353 s354 s355 s356 s357 s358 s359 s360 s361 s362 s363 s364 s365 s366 s367 s368 s369 s370 s371 s372 s373 s374 s375 s376 s377 s378 s379 s380 s381 s382 s383 s384 s385 s386 s387 s388 s389 s390 s391 s392 : Value) :
    Code.wp Try.prog (dropSeq 7 (Try.f6.body.getD .skip)) (bodyPost Try.prog Try.f6 fun e w' => e = .returned (.bool true) ∧ Below w.heap.size w w') ⟨#[s0, s1, s2, s3, s4, .pointer (some ⟨p, 0, none⟩), s6, .slice (some ⟨ge, 0, none⟩) 5 cap, s8, s9, s10, s11, s12, s13, s14, s15, s16, s17, s18, s19, s20, s21, s22, s23, s24, s25, s26, s27, s28, s29, s30, s31, s32, s33, s34, s35, s36, s37, s38, s39, s40, s41, s42, s43, s44, s45, s46, s47, s48, s49, s50, s51, s52, s53, s54, s55, s56, s57, s58, s59, s60, s61, s62, s63, s64, s65, s66, s67, s68, s69, s70, s71, s72, s73, s74, s75, s76, s77, s78, s79, s80, s81, s82, s83, s84, s85, s86, s87, s88, s89, s90, s91, s92, s93, s94, s95, s96, s97, s98, s99, s100, s101, s102, s103, s104, s105, s106, s107, s108, s109, s110, s111, s112, s113, s114, s115, s116, s117, s118, s119, s120, s121, s122, s123, s124, s125, s126, s127, s128, s129, s130, s131, s132, s133, s134, s135, s136, s137, s138, s139, s140, s141, s142, s143, s144, s145, s146, s147, s148, s149, s150, s151, s152, s153, s154, s155, s156, s157, s158, s159, s160, s161, s162, s163, s164, s165, s166, s167, s168, s169, s170, s171, s172, s173, s174, s175, s176, s177, s178, s179, s180, s181, s182, s183, s184, s185, s186, s187, s188, s189, s190, s191, s192, s193, s194, s195, s196, s197, s198, s199, s200, s201, s202, s203, s204, s205, s206, s207, s208, s209, s210, s211, s212, s213, s214, s215, s216, s217, s218, s219, s220, s221, s222, s223, s224, s225, s226, s227, s228, s229, s230, s231, s232, s233, s234, s235, s236, s237, s238, s239, s240, s241, s242, s243, s244, s245, s246, s247, s248, s249, s250, s251, s252, s253, s254, s255, s256, s257, s258, s259, s260, s261, s262, s263, s264, s265, s266, s267, s268, s269, s270, s271, s272, s273, s274, s275, s276, s277, s278, s279, s280, s281, s282, s283, s284, s285, s286, s287, s288, s289, s290, s291, s292, s293, s294, s295, s296, s297, s298, s299, s300, s301, s302, s303, s304, s305, s306, s307, s308, s309, s310, s311, s312, s313, s314, s315, s316, s317, s318, s319, s320, s321, s322, s323, s324, s325, s326, s327, s328, s329, s330, s331, s332, s333, s334, s335, s336, s337, s338, s339, s340, s341, s342, s343, s344, s345, s346, s347, s348, s349, s350, s351, s352, s353, s354, s355, s356, s357, s358, s359, s360, s361, s362, s363, s364, s365, s366, s367, s368, s369, s370, s371, s372, s373, s374, s375, s376, s377, s378, s379, s380, s381, s382, s383, s384, s385, s386, s387, s388, s389, s390, s391, s392], []⟩ w0 := by
  conv => arg 2; whnf
  have O0 : Hid (On (fun k => k < w.heap.size) w w0 p 64 [e7]) := h
  have E1 : Hid (filE ⟨0, 0, 4096, false, false, false⟩ = 2) := ke1
  have L1 : Hid (filL 64 ⟨0, 0, 4096, false, false, false⟩ [e7] = [e7]) := ke2
  have E2 : Hid (filE ⟨0, 0, -1, false, false, false⟩ = 2) := ke3
  have L2 : Hid (filL 64 ⟨0, 0, -1, false, false, false⟩ [e7] = [e7]) := ke4
  have E3 : Hid (filE ⟨0, 0, 4095, false, false, false⟩ = 0) := ke5
  have L3 : Hid (filL 64 ⟨0, 0, 4095, false, false, false⟩ [e7] = [e8, e7]) := ke6
  have CD : Hid (Calls Try.prog 23 #[.pointer (some ⟨p, 0, none⟩), .int .i64 128] w0 fun e w' => e = .returned (.tuple #[.int .i64 0, .int .i64 2]) ∧ Below w0.heap.size w0 w') := by
    obtain ⟨F, c, _⟩ := h
    exact DropAll_bad c 128 (by simp [okA])
  obtain ⟨c0, c1, c2, c3, c4⟩ := hE
  obtain ⟨hcap1, hcap2⟩ := hcap
  have HC : Hid (∀ W, Below w0.heap.size w0 W → ∀ i v, w0.cell? ⟨ge, i, none⟩ = some v → W.cell? ⟨ge, i, none⟩ = some v) := fun W hW i v hv => (hW.cell (p := ⟨ge, i, none⟩) hge).trans hv
  have C0 : Hid (w0.cell? ⟨ge, 0, none⟩ = some (.int .i64 2)) := c0
  have C1 : Hid (w0.cell? ⟨ge, 1, none⟩ = some (.int .i64 2)) := c1
  have C2 : Hid (w0.cell? ⟨ge, 2, none⟩ = some (.int .i64 2)) := c2
  have C3 : Hid (w0.cell? ⟨ge, 3, none⟩ = some (.int .i64 2)) := c3
  have C4 : Hid (w0.cell? ⟨ge, 4, none⟩ = some (.int .i64 0)) := c4
  clear h c0 c1 c2 c3 c4
  go_wp2_with fail
  refine CD.out.mono ?_
  rintro e w1 ⟨rfl, hb⟩
  have O1 : Hid (On (fun k => k < w.heap.size) w w1 p 64 [e7]) := O0.out.below hb
  have c0 := HC.out w1 hb 0 _ C0.out
  have c1 := HC.out w1 hb 1 _ C1.out
  have c2 := HC.out w1 hb 2 _ C2.out
  have c3 := HC.out w1 hb 3 _ C3.out
  have c4 := HC.out w1 hb 4 _ C4.out
  clear hb CD O0 HC C0 C1 C2 C3 C4
  go_upto_region 20 with fail
  rename_i Kc hKc
  go_cut [23] from 166 to 215 (fun v wc => v = .bool true ∧ Below w.heap.size w wc)
  case first =>
    go_wp2_with fail
    refine (O1.out.fill_at 0 0 4096 false false false _ _ E1.out L1.out).mono ?_
    rintro e w2 ⟨rfl, hO⟩
    have O2 : Hid (On (fun k => k < w.heap.size) w w2 p 64 [e7]) := hO
    clear hO O1 c0 c1 c2 c3 c4
    go_wp2_with fail
    refine (O2.out.fill_at 0 0 (-1) false false false _ _ E2.out L2.out).mono ?_
    rintro e w3 ⟨rfl, hO⟩
    have O3 : Hid (On (fun k => k < w.heap.size) w w3 p 64 [e7]) := hO
    clear hO O2
    go_wp2_with fail
    refine (O3.out.fill_at 0 0 4095 false false false _ _ E3.out L3.out).mono ?_
    rintro e w4 ⟨rfl, hO⟩
    have B4 : Hid (Below w.heap.size w w4) := hO.kpt.toBelow
    clear hO O3
    go_wp2_with fail
    go_meet
    case rel => exact ⟨rfl, B4.out⟩
  case rest =>
    obtain ⟨rfl, hb⟩ := hcut
    exact hKc _ _ (known_a w _ hb _ _ _ _ _ _ _ _ _ _ _ _ _ _ _ _ _ _ _ _ _ _ _ _ _ _ _ _ _ _ _ _ _ _ _ _ _ _ _ _ _ _ _ _ _ _ _ _ _ _ _ _ _ _ _ _ _ _ _ _ _ _ _ _ _ _ _ _ _ _ _ _ _ _ _ _ _ _ _ _ _ _ _ _ _ _ _ _ _ _ _ _ _ _ _ _ _ _ _ _ _ _ _ _ _ _ _ _ _ _ _ _ _ _ _ _ _ _ _ _ _ _ _ _ _ _ _ _ _ _ _ _ _ _ _ _ _ _ _ _ _ _ _ _ _ _ _ _ _ _ _ _ _ _ _ _ _ _ _ _ _ _ _ _ _ _ _ _ _ _ _ _ _ _ _ _ _ _ _ _ _ _ _ _ _ _ _ _ _ _ _ _ _ _ _ _ _ _ _ _ _ _ _ _ _ _ _ _ _ _ _ _ _ _ _ _ _ _ _ _ _ _ _ _ _ _ _ _ _ _ _ _ _ _ _ _ _ _ _ _ _ _ _ _ _ _ _ _ _ _ _ _ _ _ _ _ _ _ _ _ _ _ _ _ _ _ _ _ _ _ _ _ _ _ _ _ _ _ _ _ _ _ _ _ _ _ _ _ _ _ _ _ _ _ _ _ _ _ _ _ _ _ _ _ _ _ _ _ _ _ _ _ _ _ _ _ _ _ _ _ _ _ _ _ _ _ _ _ _ _ _ _ _ _ _ _ _ _ _ _ _ _ _ _ _ _ _ _ _ _ _ _ _ _ _ _ _ _ _ _ _ _ _ _ _ _ _ _ _ _ _ _ _ _ _ _ _ _ _ _ _ _ _ _ _ _ _ _ _ _ _ _)
end Go.Proofs.Ytkgmdalekakgpaa
