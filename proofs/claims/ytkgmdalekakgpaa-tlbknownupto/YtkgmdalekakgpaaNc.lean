/- The closed law TlbKnown, its last part: TLBs that are none. -/
import Derived.Test.YtkgmdalekakgpaaWk
import Derived.Deep.DeepCutAuto
import Derived.Test.YtkgmdalekakgpaaOp
namespace Go.Proofs.Ytkgmdalekakgpaa
open Go.ChangeShapes Go.WideShapes Go.ChangeAt Go.RowKit
set_option linter.unusedVariables false
set_option linter.unusedSimpArgs false

/-- What is left of a row of steps. -/
def dropSeq : Nat → Code → Code
  | 0, c => c
  | n + 1, .seq _ b => dropSeq n b
  | _, c => c
set_option maxRecDepth 1000000 in
set_option maxHeartbeats 8000000 in
theorem known_c (w : World) (w0 : World) (hb : Below w.heap.size w w0) (s0 s1 s2 s3 s4 s5 s6 s7 s8 s9 s10 s11 s12 s13 s14 s15 s16 s17 s18 s19 s20 s21 s22 s24 s25 s26 s27 s28 s29 s30 s32 s34 s35 s36 s37 s38 s39 s40 s41 s43 s44 s45 s46 s47 s48 s49 s50 s51 s52 s53 s54 s55 s56 s57 s58 s59 s60 s61 s62 s63 s64 s65 s66 s67 s68 s69 s70 s71 s72 s73 s74 s75 s76 s77 s78 s79 s80 s81 s82 s83 s84 s85 s86 s87 s88 s89 s90 s91 s92 s93 s94 s95 s96 s97 s98 s99 s100 s101 s102 s103 s104 s105 s106 s107 s108 s109 s110 s111 s112 s113 s114 s115 s116 s117 s118 s119 s120 s121 s122 s123 s124 s125 s126 s127 s128 s129 s130 s131 s132 s133 s134 s135 s136 s137 s138 s139 s140 s141 s142 s143 s144 s145 s146 s147 s148 s149 s150 s151 s152 s153 s154 s155 s156 s157 s158 s159 s160 s161 s162 s163 s164 s165 s166 s167 s168 s169 s170 s171 s172 s173 s174 s175 s176 s177 s178 s179 s180 s181 s182 s183 s184 s185 s186 s187 s188 s189 s190 s191 s192 s193 s194 s195 s196 s197 s198 s199 s200 s201 s202 s203 s204 s205 s206 s207 s208 s209 s210 s211 s212 s213 s214 s215 s216 s217 s218 s219 s220 s221 s222 s223 s224 s225 s226 s227 s228 s229 s230 s231 s232 s233 s234 s235 s236 s237 s238 s239 s240 s241 s242 s243 s244 s245 s246 s247 s248 s249 s250 s251 s252 s253 s254 s255 s256 s257 s258 s259 s260 s261 s262 s263 s264 s265 s266 s267 s268 s269 s270 s271 s272 s273 s274 s275 s276 s277 s278 s279 s280 s281 s282 s283 s284 s285 s286 s287 s288 s289 s290 s291 s292 s293 s294 s295 s296 s297 s298 s299 s300 s301 s302 s303 s304 s305 s306 s307 s308 s309 s310 s311 s312 s313 s314 s315 s316 s317 s318 s319 s320 s321 s322 s323 s324 s325 s326 s327 s328 s329 s330 s331 s332 s333 s334 s335 s336 s337 s338 s339 s340 s341 s342 s343 s344 s345 s346 s347 s348 s349 s350 s351 s352 s353 s354 s355 s356 s357 s358 s359 s360 s361 s362 s363 s364 s365 s366 s367 s368 s369 s370 s371 s372 s373 s374 s375 s376 s377 s378 s379 s380 s381 s382 s383 s384 s385 s386 s387 s388 s389 s390 s391 s392 : Value) :
    Code.wp Try.prog (dropSeq 28 (Try.f6.body.getD .skip)) (bodyPost Try.prog Try.f6 fun e w' => e = .returned (.bool true) ∧ Below w.heap.size w w') ⟨#[s0, s1, s2, s3, s4, s5, s6, s7, s8, s9, s10, s11, s12, s13, s14, s15, s16, s17, s18, s19, s20, s21, s22, .bool true, s24, s25, s26, s27, s28, s29, s30, .bool true, s32, .bool true, s34, s35, s36, s37, s38, s39, s40, s41, .bool true, s43, s44, s45, s46, s47, s48, s49, s50, s51, s52, s53, s54, s55, s56, s57, s58, s59, s60, s61, s62, s63, s64, s65, s66, s67, s68, s69, s70, s71, s72, s73, s74, s75, s76, s77, s78, s79, s80, s81, s82, s83, s84, s85, s86, s87, s88, s89, s90, s91, s92, s93, s94, s95, s96, s97, s98, s99, s100, s101, s102, s103, s104, s105, s106, s107, s108, s109, s110, s111, s112, s113, s114, s115, s116, s117, s118, s119, s120, s121, s122, s123, s124, s125, s126, s127, s128, s129, s130, s131, s132, s133, s134, s135, s136, s137, s138, s139, s140, s141, s142, s143, s144, s145, s146, s147, s148, s149, s150, s151, s152, s153, s154, s155, s156, s157, s158, s159, s160, s161, s162, s163, s164, s165, s166, s167, s168, s169, s170, s171, s172, s173, s174, s175, s176, s177, s178, s179, s180, s181, s182, s183, s184, s185, s186, s187, s188, s189, s190, s191, s192, s193, s194, s195, s196, s197, s198, s199, s200, s201, s202, s203, s204, s205, s206, s207, s208, s209, s210, s211, s212, s213, s214, s215, s216, s217, s218, s219, s220, s221, s222, s223, s224, s225, s226, s227, s228, s229, s230, s231, s232, s233, s234, s235, s236, s237, s238, s239, s240, s241, s242, s243, s244, s245, s246, s247, s248, s249, s250, s251, s252, s253, s254, s255, s256, s257, s258, s259, s260, s261, s262, s263, s264, s265, s266, s267, s268, s269, s270, s271, s272, s273, s274, s275, s276, s277, s278, s279, s280, s281, s282, s283, s284, s285, s286, s287, s288, s289, s290, s291, s292, s293, s294, s295, s296, s297, s298, s299, s300, s301, s302, s303, s304, s305, s306, s307, s308, s309, s310, s311, s312, s313, s314, s315, s316, s317, s318, s319, s320, s321, s322, s323, s324, s325, s326, s327, s328, s329, s330, s331, s332, s333, s334, s335, s336, s337, s338, s339, s340, s341, s342, s343, s344, s345, s346, s347, s348, s349, s350, s351, s352, s353, s354, s355, s356, s357, s358, s359, s360, s361, s362, s363, s364, s365, s366, s367, s368, s369, s370, s371, s372, s373, s374, s375, s376, s377, s378, s379, s380, s381, s382, s383, s384, s385, s386, s387, s388, s389, s390, s391, s392], []⟩ w0 := by
  conv => arg 2; whnf
  have B0 : Hid (Below w.heap.size w w0) := hb
  clear hb
  go_wp2_with fail
  go_loopw [43, 44, 45] (fun q t i wr => ∃ j : Nat, j ≤ 2 ∧ i = .int .i64 j ∧ t = .bool true ∧ ∃ a, q = .pointer a ∧ NoT wr a ∧ Below w.heap.size w wr) (fun _ _ i _ => 2 - (intOf i).toNat)
  case atStart => exact ⟨0, by omega, rfl, rfl, none, rfl, Or.inl rfl, B0.out⟩
  case round =>
    clear B0
    obtain ⟨j, hj, rfl, rfl, q, rfl, hN, hb⟩ := hrel
    have HN : Hid (NoT wr q) := hN
    have HB : Hid (Below w.heap.size w wr) := hb
    have hsz := hb.size
    clear hN hb
    by_cases h2 : j < 2
    · go_wp2_with fail
      refine (Find_nil HN.out (-1) 0).mono ?_
      rintro e w1 ⟨rfl, hb1⟩
      have N1 : Hid (NoT (w1.alloc (.cells #[.int .i64 0, .int .i64 0, .int .i64 0, .bool false, .bool false, .bool false] 32)) q) := (HN.out.below hb1).below (below_new _ _)
      have B1 : Hid (Below w.heap.size w (w1.alloc (.cells #[.int .i64 0, .int .i64 0, .int .i64 0, .bool false, .bool false, .bool false] 32))) := (HB.out.trans (hb1.mono hsz)).alloc (Nat.le_trans hsz hb1.size) _
      clear hb1 HN HB hsz
      go_wp2_with fail
      generalize w1.alloc (.cells #[.int .i64 0, .int .i64 0, .int .i64 0, .bool false, .bool false, .bool false] 32) = W1 at *
      generalize w1.heap.size = b1 at *
      refine (Peek_nil N1.out 0 0).mono ?_
      rintro e w2 ⟨rfl, hb2⟩
      have N2 : Hid (NoT (w2.alloc (.cells #[.int .i64 0, .int .i64 0, .int .i64 0, .bool false, .bool false, .bool false] 32)) q) := (N1.out.below hb2).below (below_new _ _)
      have B2 : Hid (Below w.heap.size w (w2.alloc (.cells #[.int .i64 0, .int .i64 0, .int .i64 0, .bool false, .bool false, .bool false] 32))) := (B1.out.trans (hb2.mono B1.out.size)).alloc (Nat.le_trans B1.out.size hb2.size) _
      clear hb2 N1 B1
      go_wp2_with fail
      generalize w2.alloc (.cells #[.int .i64 0, .int .i64 0, .int .i64 0, .bool false, .bool false, .bool false] 32) = W2 at *
      generalize w2.heap.size = b2 at *
      refine (Mark_nil N2.out 0 0).mono ?_
      rintro e w3 ⟨rfl, hb3⟩
      have N3 : Hid (NoT w3 q) := N2.out.below hb3
      have B3 : Hid (Below w.heap.size w w3) := B2.out.trans (hb3.mono B2.out.size)
      clear hb3 N2 B2
      go_wp2_with fail
      refine (Drop_nil N3.out 0 0).mono ?_
      rintro e w4 ⟨rfl, hb4⟩
      have N4 : Hid (NoT w4 q) := N3.out.below hb4
      have B4 : Hid (Below w.heap.size w w4) := B3.out.trans (hb4.mono B3.out.size)
      clear hb4 N3 B3
      go_wp2_with fail
      refine (DropAll_nil N4.out 0).mono ?_
      rintro e w5 ⟨rfl, hb5⟩
      have N5 : Hid (NoT w5 q) := N4.out.below hb5
      have B5 : Hid (Below w.heap.size w w5) := B4.out.trans (hb5.mono B4.out.size)
      clear hb5 N4 B4
      go_wp2_with fail
      refine (Empty_nil N5.out).mono ?_
      rintro e w6 ⟨rfl, e6⟩
      have e7 := e6.symm
      subst e7
      clear e6
      go_wp2_with fail
      refine (Fill_nil N5.out z0).mono ?_
      rintro e w8 ⟨rfl, hb8⟩
      have N8 : Hid (NoT w8 q) := N5.out.below hb8
      have B8 : Hid (Below w.heap.size w w8) := B5.out.trans (hb8.mono B5.out.size)
      clear hb8 N5 B5
      go_wp2_with fail
      refine (All_nil N8.out).mono ?_
      rintro e w9 ⟨rfl, e9⟩
      have e10 := e9.symm
      subst e10
      clear e9
      have BX : Hid (Below w.heap.size w (w8.alloc (.cells #[.int .i64 0, .slice none 0 0] 61))) := B8.out.alloc B8.out.size _
      have NX : Hid (NoT (w8.alloc (.cells #[.int .i64 0, .slice none 0 0] 61)) (some ⟨w8.heap.size, 0, none⟩)) := Or.inr ⟨_, rfl, (blk_new w8 [.int .i64 0, .slice none 0 0] 61).cell 0⟩
      clear N8 B8
      go_wp2_with fail
      go_roundw
      case rel => exact ⟨j + 1, by omega, by go_num, rfl, _, rfl, NX.out, BX.out⟩
      case measure => simp [intOf]; omega
    · obtain rfl : j = 2 := by omega
      go_wp2_with fail
      refine (works_any _).mono ?_
      rintro e w9 ⟨rfl, hb9⟩
      have B9 : Hid (Below w.heap.size w w9) := HB.out.trans (hb9.mono hsz)
      clear hb9 HB HN
      go_wp2
      go_ret
      exact ⟨rfl, B9.out⟩
end Go.Proofs.Ytkgmdalekakgpaa
