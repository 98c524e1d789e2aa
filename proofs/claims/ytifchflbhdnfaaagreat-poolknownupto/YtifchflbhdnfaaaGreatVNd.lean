/- PoolKnown, its last part: pools that are none. -/
import Derived.Test.YtifchflbhdnfaaaGreatVNc
import Derived.Deep.DeepCutAuto
namespace Go.Proofs.YtifchflbhdnfaaaGreat.P
open Go.ChangeShapes Go.WideShapes Go.ChangeAt Go.RowKit
set_option linter.unusedVariables false
set_option linter.unusedSimpArgs false

/-- What is left of a row of steps. -/
def dropSeq : Nat → Code → Code
  | 0, c => c
  | n + 1, .seq _ b => dropSeq n b
  | _, c => c
theorem NoP.below {w w' : World} {q : Option Addr} (h : NoP w q) (k : Below w.heap.size w w') : NoP w' q := by
  rcases h with h | ⟨p, h1, h2⟩
  · exact Or.inl h
  · refine Or.inr ⟨p, h1, ?_⟩
    exact (k.cell (p := ⟨p, 26, none⟩) (World.block_lt_of_cell? w _ h2)).trans h2
set_option maxRecDepth 1000000 in
set_option maxHeartbeats 8000000 in
theorem known_d (w : World) (w0 : World) (hb : Below w.heap.size w w0) (s0 s1 s2 s4 s6 s8 s9 s11 s12 s13 s14 s15 s16 s17 s18 s19 s20 s21 s22 s23 s24 s25 s26 s29 s30 s31 s32 s33 s34 s36 s37 s38 s39 s40 s41 s42 s43 s44 s45 s46 s47 s48 s49 s50 s51 s52 s53 s54 s55 s56 s57 s58 s59 s60 s61 s62 s63 s64 s65 s66 s67 s68 s69 s70 s71 s72 s73 s74 s75 s76 s77 s78 s79 s80 s81 s82 s83 s84 s85 s86 s87 s88 s89 s90 s91 s92 s93 s94 s95 s96 s97 s98 s99 s100 s101 s102 s103 s104 s105 s106 s107 s108 s109 s110 s111 s112 s113 s114 s115 s116 s117 s118 s119 s120 s121 s122 s123 s124 s125 s126 s127 s128 s129 s130 s131 s132 s133 s134 s135 s136 s137 s138 s139 s140 s141 s142 s143 s144 s145 s146 s147 s148 s149 s150 s151 s152 s153 s154 s155 s156 s157 s158 s159 s160 s161 s162 s163 s164 s165 s166 s167 s168 s169 s170 s171 s172 s173 s174 s175 s176 s177 s178 s179 s180 s181 s182 s183 s184 s185 s186 s187 s188 s189 s190 s191 s192 s193 s194 s195 s196 s197 s198 s199 s200 s201 s202 s203 s204 s205 s206 s207 s208 s209 s210 s211 s212 s213 s214 s215 s216 s217 s218 s219 s220 s221 s222 s223 s224 s225 s226 s227 s228 s229 s230 s231 s232 s233 s234 s235 s236 s237 s238 s239 s240 s241 s242 s243 s244 s245 s246 s247 s248 s249 s250 s251 s252 s253 s254 s255 s256 s257 s258 s259 s260 s261 s262 s263 s264 s265 s266 s267 s268 s269 s270 s271 s272 s273 s274 s275 s276 s277 s278 s279 s280 s281 s282 s283 s284 s285 s286 s287 s288 s289 s290 s291 s292 s293 s294 s295 s296 s297 s298 s299 s300 s301 s302 s303 s304 s305 s306 s307 s308 s309 s310 s311 s312 s313 s314 s315 s316 s317 s318 s319 s320 s321 : Value) :
    Code.wp Tryz.prog (dropSeq 28 (Tryz.f6.body.getD .skip)) (bodyPost Tryz.prog Tryz.f6 (One (.bool true) w)) ⟨#[s0, s1, s2, .int .i64 270, s4, .int .i64 5, s6, .int .i64 270, s8, s9, .bool true, s11, s12, s13, s14, s15, s16, s17, s18, s19, s20, s21, s22, s23, s24, s25, s26, .bool true, .bool true, s29, s30, s31, s32, s33, s34, .int .i64 4, s36, s37, s38, s39, s40, s41, s42, s43, s44, s45, s46, s47, s48, s49, s50, s51, s52, s53, s54, s55, s56, s57, s58, s59, s60, s61, s62, s63, s64, s65, s66, s67, s68, s69, s70, s71, s72, s73, s74, s75, s76, s77, s78, s79, s80, s81, s82, s83, s84, s85, s86, s87, s88, s89, s90, s91, s92, s93, s94, s95, s96, s97, s98, s99, s100, s101, s102, s103, s104, s105, s106, s107, s108, s109, s110, s111, s112, s113, s114, s115, s116, s117, s118, s119, s120, s121, s122, s123, s124, s125, s126, s127, s128, s129, s130, s131, s132, s133, s134, s135, s136, s137, s138, s139, s140, s141, s142, s143, s144, s145, s146, s147, s148, s149, s150, s151, s152, s153, s154, s155, s156, s157, s158, s159, s160, s161, s162, s163, s164, s165, s166, s167, s168, s169, s170, s171, s172, s173, s174, s175, s176, s177, s178, s179, s180, s181, s182, s183, s184, s185, s186, s187, s188, s189, s190, s191, s192, s193, s194, s195, s196, s197, s198, s199, s200, s201, s202, s203, s204, s205, s206, s207, s208, s209, s210, s211, s212, s213, s214, s215, s216, s217, s218, s219, s220, s221, s222, s223, s224, s225, s226, s227, s228, s229, s230, s231, s232, s233, s234, s235, s236, s237, s238, s239, s240, s241, s242, s243, s244, s245, s246, s247, s248, s249, s250, s251, s252, s253, s254, s255, s256, s257, s258, s259, s260, s261, s262, s263, s264, s265, s266, s267, s268, s269, s270, s271, s272, s273, s274, s275, s276, s277, s278, s279, s280, s281, s282, s283, s284, s285, s286, s287, s288, s289, s290, s291, s292, s293, s294, s295, s296, s297, s298, s299, s300, s301, s302, s303, s304, s305, s306, s307, s308, s309, s310, s311, s312, s313, s314, s315, s316, s317, s318, s319, s320, s321], []⟩ w0 := by
  conv => arg 2; whnf
  have B0 : Hid (Below w.heap.size w w0) := hb
  have h7 := eq7 0 0 0 0 0 0 0
  clear hb
  go_wp2_with fail
  go_loopw [36, 37, 38] (fun q t i wr => ∃ j : Nat, j ≤ 2 ∧ i = .int .i64 j ∧ t = .bool true ∧ ∃ a, q = .pointer a ∧ NoP wr a ∧ Below w.heap.size w wr) (fun _ _ i _ => 2 - (B.iv i).toNat)
  case atStart => exact ⟨0, by omega, rfl, rfl, none, rfl, Or.inl rfl, B0.out⟩
  case round =>
    clear B0
    obtain ⟨j, hj, rfl, rfl, q, rfl, hN, hb⟩ := hrel
    have HN : Hid (NoP wr q) := hN
    have HB : Hid (Below w.heap.size w wr) := hb
    clear hN hb
    by_cases h2 : j < 2
    · have hjI : (j : Int) < 2 := by omega
      go_wp2_with fail
      refine (Take_nop HN.out 0).mono ?_
      rintro e w1 ⟨rfl, e1⟩
      obtain rfl := e1.symm
      clear e1
      go_wp2_with fail
      refine (Image_nop HN.out).mono ?_
      rintro e w1 ⟨rfl, e1⟩
      obtain rfl := e1.symm
      clear e1
      go_wp2_with fail
      refine (Give_nop HN.out 0).mono ?_
      rintro e w1 ⟨rfl, e1⟩
      obtain rfl := e1.symm
      clear e1
      go_wp2_with fail
      refine (Counts_nop HN.out).mono ?_
      rintro e w2 ⟨rfl, hb2⟩
      have N2 : Hid (NoP w2 q) := HN.out.below hb2
      have B2 : Hid (Below w.heap.size w w2) := HB.out.trans (hb2.mono HB.out.size)
      clear hb2 HN HB
      go_wp2_with fail
      refine (Free_nop N2.out).mono ?_
      rintro e w1 ⟨rfl, e1⟩
      obtain rfl := e1.symm
      clear e1
      go_wp2_with fail
      refine (Owned_nop N2.out).mono ?_
      rintro e w1 ⟨rfl, e1⟩
      obtain rfl := e1.symm
      clear e1
      go_wp2_with fail
      refine (Whole_nop N2.out).mono ?_
      rintro e w3 ⟨rfl, hb3⟩
      have B3 : Hid (Below w.heap.size w w3) := B2.out.trans (hb3.mono B2.out.size)
      clear hb3 N2 B2
      have BX : Hid (Below w.heap.size w (w3.alloc (.cells #[.int .i64 0, .slice none 0 0, .pointer none, .pointer none, .pointer none, .pointer none, .pointer none, .pointer none, .pointer none, .pointer none, .pointer none, .pointer none, .pointer none, .pointer none, .pointer none, .pointer none, .pointer none, .pointer none, .int .i64 0, .int .i64 0, .int .i64 0, .int .i64 0, .int .i64 0, .int .i64 0, .int .i64 0, .int .i64 0, .map none, .int .i64 0, .int .i64 0, .int .i64 0, .int .i64 0, .int .i64 0, .int .i64 0, .int .i64 0] 70))) := B3.out.alloc B3.out.size _
      have NX : Hid (NoP (w3.alloc (.cells #[.int .i64 0, .slice none 0 0, .pointer none, .pointer none, .pointer none, .pointer none, .pointer none, .pointer none, .pointer none, .pointer none, .pointer none, .pointer none, .pointer none, .pointer none, .pointer none, .pointer none, .pointer none, .pointer none, .int .i64 0, .int .i64 0, .int .i64 0, .int .i64 0, .int .i64 0, .int .i64 0, .int .i64 0, .int .i64 0, .map none, .int .i64 0, .int .i64 0, .int .i64 0, .int .i64 0, .int .i64 0, .int .i64 0, .int .i64 0] 70)) (some ⟨w3.heap.size, 0, none⟩)) := nop_box (B.blk_new w3 [.int .i64 0, .slice none 0 0, .pointer none, .pointer none, .pointer none, .pointer none, .pointer none, .pointer none, .pointer none, .pointer none, .pointer none, .pointer none, .pointer none, .pointer none, .pointer none, .pointer none, .pointer none, .pointer none, .int .i64 0, .int .i64 0, .int .i64 0, .int .i64 0, .int .i64 0, .int .i64 0, .int .i64 0, .int .i64 0, .map none, .int .i64 0, .int .i64 0, .int .i64 0, .int .i64 0, .int .i64 0, .int .i64 0, .int .i64 0] 70) rfl
      clear B3
      go_wp2_with fail
      go_roundw
      case rel => exact ⟨j + 1, by omega, by go_num, rfl, _, rfl, NX.out, BX.out⟩
      case measure => simp [B.iv]; omega
    · obtain rfl : j = 2 := by omega
      go_wp2_with fail
      refine (works_any _).mono ?_
      rintro e w9 ⟨rfl, hb9⟩
      have B9 : Hid (Below w.heap.size w w9) := HB.out.trans (hb9.mono HB.out.size)
      clear hb9 HB HN
      go_wp2
      go_ret
      exact ⟨rfl, B9.out⟩
end Go.Proofs.YtifchflbhdnfaaaGreat.P
