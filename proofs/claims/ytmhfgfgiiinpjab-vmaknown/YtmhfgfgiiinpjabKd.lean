/- VmaKnown, its second part: what is told of as many regions as there may be, and one more; no condition. -/
import Derived.Test.YtmhfgfgiiinpjabKc
import Derived.Deep.DeepCutAuto
namespace Go.Proofs.Ytmhfgfgiiinpjab.V
open Go.ChangeShapes Go.WideShapes Go.ChangeAt Go.RowKit
set_option linter.unusedVariables false
set_option linter.unusedSimpArgs false
set_option maxRecDepth 8192

theorem slice_to (g n cap k : Nat) (hk : k ≤ cap) : ∀ W : World, (Instr.sliceAt 23 (.slice (some ⟨g, 0, none⟩) n cap) none (some (.int .i64 (k : Nat))) none).run Try.prog W = .ok (.slice (some ⟨g, 0, none⟩) k cap) W := fun W => by
  by_cases hc : cap = 0
  · have : k = 0 := by omega
    subst hc this
    simp [Instr.sliceAt, go_sem, run_underlying Try.underlying23]
  · simp [Instr.sliceAt, go_sem, run_underlying Try.underlying23, hk, hc]
theorem mk_wf (n : Nat) (h : n ≤ 2000) : ∀ r ∈ mk n, wfR r := fun r hr => ((mk_fm n h).rs.ok r hr).wf
theorem mk_ri {W : World} {g c : Nat} (h : Rn W (some ⟨g, 0, none⟩) (mk 1025)) (hc : 1025 ≤ c) (k : Nat) (hk : k ≤ 1025) : Ri W (some ⟨g, 0, none⟩) c (mk k) := ⟨by
  have := h.take k
  rwa [mk_take 1025 k hk] at this, by rw [mk_len]; omega, mk_wf k (by omega)⟩
theorem put_m {W : World} {g c : Nat} (h : Rn W (some ⟨g, 0, none⟩) (mk 1025)) (hc : 1025 ≤ c) (p n m x : Int) (hw : wfR ⟨p, n, m⟩) (hx : (puV (mk 1024) ⟨p, n, m⟩).2 = x) : Calls Try.prog 7 #[.slice (some ⟨g, 0, none⟩) 1024 c, .agg #[.int .i64 p, .int .i64 n, .int .u8 m]] W (Er W x) := by
  have q := Put_ok (mk_ri h hc 1024 (by omega)) ⟨p, n, m⟩ hw
  rw [mk_len] at q
  exact q.mono (fun e w' z => z.er hx)
theorem cut_m {W : World} {g c : Nat} (h : Rn W (some ⟨g, 0, none⟩) (mk 1025)) (hc : 1025 ≤ c) (k : Nat) (hk : k ≤ 1025) (p n x : Int) (hw : -9223372036854775808 ≤ p ∧ p < 9223372036854775808) (hx : (cuV (mk k) p n).2 = x) : Calls Try.prog 8 #[.slice (some ⟨g, 0, none⟩) k c, .agg #[.int .i64 p, .int .i64 n]] W (Er W x) := by
  have q := Cut_ok (mk_ri h hc k hk) p n hw
  rw [mk_len] at q
  exact q.mono (fun e w' z => z.er hx)
theorem pro_m {W : World} {g c : Nat} (h : Rn W (some ⟨g, 0, none⟩) (mk 1025)) (hc : 1025 ≤ c) (p n m x : Int) (hw : wfR ⟨p, n, m⟩) (hx : (prV (mk 1024) p n m).2 = x) : Calls Try.prog 9 #[.slice (some ⟨g, 0, none⟩) 1024 c, .agg #[.int .i64 p, .int .i64 n], .int .u8 m] W (Er W x) := by
  have q := Protect_ok (mk_ri h hc 1024 (by omega)) p n m hw
  rw [mk_len] at q
  exact q.mono (fun e w' z => z.er hx)
theorem chk_m {W : World} {g c : Nat} (h : Rn W (some ⟨g, 0, none⟩) (mk 1025)) (hc : 1025 ≤ c) (k : Nat) (hk : k ≤ 1025) (x : Int) (hx : chk (mk k) = x) : Calls Try.prog 6 #[.slice (some ⟨g, 0, none⟩) k c] W fun e w' => e = .returned (.int .i64 x) ∧ Below W.heap.size W w' := by
  have q := (mk_ri h hc k hk).check
  rw [mk_len, hx] at q
  exact q
theorem chk_full : chk (mk 1024) = 0 := chk_may.2 mk_may
theorem chk_over : chk (mk 1025) = 3 := by
  unfold chk
  rw [if_pos (by rw [mk_len]; decide)]
set_option maxRecDepth 1000000 in
set_option maxHeartbeats 8000000 in
theorem known_b (w : World) (w0 : World) (hb : Below w.heap.size w w0) (s0 s1 s2 s3 s5 s6 s7 s8 s9 s10 s11 s12 s13 s14 s15 s16 s17 s18 s19 s20 s21 s22 s23 s24 s25 s26 s27 s28 s29 s30 s31 s32 s33 s34 s35 s36 s37 s38 s39 s40 s41 s42 s43 s44 s45 s46 s47 s48 s49 s50 s51 s52 s53 s54 s55 s56 s57 s58 s59 s60 s61 s62 s63 s64 s65 s66 s67 s68 s69 s70 s71 s72 s73 s74 s75 s76 s77 s78 s79 s80 s81 s82 s83 s84 s85 s86 s87 s88 s89 s90 s91 s92 s93 s94 s95 s96 s97 s98 s99 s100 s101 s102 s103 s104 s105 s106 s107 s108 s109 s110 s111 s112 s113 s114 s115 s116 s117 s118 s119 s120 s121 s122 s123 s124 s125 s126 s127 s128 s129 s130 s131 s132 s133 s134 s135 s136 s137 s138 s139 s140 s141 s142 s143 s144 s145 s146 s147 s148 s149 s150 s151 s152 s153 s154 s155 s156 s157 s158 s159 s160 s161 s162 s163 s164 s165 s166 s167 s168 s169 s170 s171 s172 s173 s174 s175 s176 s177 s178 s179 s180 s181 s182 s183 s184 s185 s186 s187 s188 s189 s190 s191 s192 s193 s194 s195 s196 s197 s198 s199 s200 s201 s202 s203 s204 s205 s206 s207 s208 s209 s210 s211 s212 s213 s214 s215 s216 s217 s218 s219 s220 s221 s222 s223 s224 s225 s226 s227 s228 s229 s230 s231 s232 s233 s234 s235 s236 s237 s238 s239 s240 s241 s242 s243 s244 s245 s246 s247 s248 s249 s250 s251 s252 s253 s254 s255 s256 s257 s258 s259 s260 s261 s262 s263 s264 s265 s266 s267 s268 s269 s270 s271 s272 s273 s274 s275 s276 s277 s278 s279 s280 s281 s282 s283 s284 s285 s286 s287 s288 s289 s290 s291 s292 s293 s294 s295 s296 s297 s298 s299 s300 s301 s302 s303 s304 s305 s306 s307 s308 s309 s310 s311 s312 s313 s314 s315 s316 s317 s318 s319 s320 s321 s322 s323 s324 s325 s326 s327 s328 s329 s330 s331 s332 s333 s334 s335 s336 s337 s338 s339 s340 s341 s342 s343 s344 s345 s346 s347 s348 s349 s350 s351 s352 s353 s354 s355 s356 s357 s358 s359 s360 s361 s362 s363 s364 s365 s366 s367 s368 s369 s370 s371 s372 s373 s374 s375 s376 s377 s378 s379 s380 s381 s382 s383 s384 s385 s386 s387 s388 s389 s390 s391 s392 s393 s394 s395 s396 s397 s398 s399 s400 s401 s402 s403 s404 s405 s406 s407 s408 s409 s410 s411 s412 : Value) :
    Code.wp Try.prog (dropSeq 4 (Try.f3.body.getD .skip)) (bodyPost Try.prog Try.f3 (One (.bool true) w)) ⟨#[s0, s1, s2, s3, .bool true, s5, s6, s7, s8, s9, s10, s11, s12, s13, s14, s15, s16, s17, s18, s19, s20, s21, s22, s23, s24, s25, s26, s27, s28, s29, s30, s31, s32, s33, s34, s35, s36, s37, s38, s39, s40, s41, s42, s43, s44, s45, s46, s47, s48, s49, s50, s51, s52, s53, s54, s55, s56, s57, s58, s59, s60, s61, s62, s63, s64, s65, s66, s67, s68, s69, s70, s71, s72, s73, s74, s75, s76, s77, s78, s79, s80, s81, s82, s83, s84, s85, s86, s87, s88, s89, s90, s91, s92, s93, s94, s95, s96, s97, s98, s99, s100, s101, s102, s103, s104, s105, s106, s107, s108, s109, s110, s111, s112, s113, s114, s115, s116, s117, s118, s119, s120, s121, s122, s123, s124, s125, s126, s127, s128, s129, s130, s131, s132, s133, s134, s135, s136, s137, s138, s139, s140, s141, s142, s143, s144, s145, s146, s147, s148, s149, s150, s151, s152, s153, s154, s155, s156, s157, s158, s159, s160, s161, s162, s163, s164, s165, s166, s167, s168, s169, s170, s171, s172, s173, s174, s175, s176, s177, s178, s179, s180, s181, s182, s183, s184, s185, s186, s187, s188, s189, s190, s191, s192, s193, s194, s195, s196, s197, s198, s199, s200, s201, s202, s203, s204, s205, s206, s207, s208, s209, s210, s211, s212, s213, s214, s215, s216, s217, s218, s219, s220, s221, s222, s223, s224, s225, s226, s227, s228, s229, s230, s231, s232, s233, s234, s235, s236, s237, s238, s239, s240, s241, s242, s243, s244, s245, s246, s247, s248, s249, s250, s251, s252, s253, s254, s255, s256, s257, s258, s259, s260, s261, s262, s263, s264, s265, s266, s267, s268, s269, s270, s271, s272, s273, s274, s275, s276, s277, s278, s279, s280, s281, s282, s283, s284, s285, s286, s287, s288, s289, s290, s291, s292, s293, s294, s295, s296, s297, s298, s299, s300, s301, s302, s303, s304, s305, s306, s307, s308, s309, s310, s311, s312, s313, s314, s315, s316, s317, s318, s319, s320, s321, s322, s323, s324, s325, s326, s327, s328, s329, s330, s331, s332, s333, s334, s335, s336, s337, s338, s339, s340, s341, s342, s343, s344, s345, s346, s347, s348, s349, s350, s351, s352, s353, s354, s355, s356, s357, s358, s359, s360, s361, s362, s363, s364, s365, s366, s367, s368, s369, s370, s371, s372, s373, s374, s375, s376, s377, s378, s379, s380, s381, s382, s383, s384, s385, s386, s387, s388, s389, s390, s391, s392, s393, s394, s395, s396, s397, s398, s399, s400, s401, s402, s403, s404, s405, s406, s407, s408, s409, s410, s411, s412], []⟩ w0 := by
  conv => arg 2; whnf
  have B0 : Hid (Below w.heap.size w w0) := hb
  clear hb
  have D2 : Hid (∀ W v (k : Nat) ty, Below w.heap.size w W → k < 1025 → Rw W w.heap.size v (mk k) → ∃ v' w', (Builtin.append_ #[23, 23] ty #[v, .slice (some ⟨W.heap.size, 0, none⟩) 1 1]).run Try.prog (W.alloc (.cells #[.int .i64 (1 + 3 * (k : Int)), .int .i64 2, .int .u8 1] 26)) = .ok v' w' ∧ Rw w' w.heap.size v' (mk (k + 1)) ∧ Below w.heap.size w w') := fun W v k ty hW hk hR => by
    have hWb : Below w.heap.size w (W.alloc (.cells #[.int .i64 (1 + 3 * (k : Int)), .int .i64 2, .int .u8 1] 26)) := hW.alloc hW.size _
    obtain ⟨v', w', h1, h2⟩ := app_jn (cx := 1) (hR.alloc _) (lit1 W (1 + 3 * (k : Int)) 2 1 _ rfl) hWb.size (by rw [mk_len]; simp; omega) ty
    rw [← mk_succ] at h2
    exact ⟨v', w', h1, h2.1, h2.below hWb (fun g hg => (row_lt hR g hg).1)⟩
  have HN : Hid (Rw w0 w.heap.size (.slice none 0 0) (mk 0)) := Rw.nil _ _
  go_wp2_with fail
  go_loopw [5, 6] (fun o i wr => ∃ (k : Nat) (v : Value), k ≤ 1025 ∧ i = .int .i64 k ∧ v = o ∧ Hid (Rw wr w.heap.size v (mk k)) ∧ Below w.heap.size w wr) (fun _ i _ => 1025 - (iv i).toNat)
  case atStart => exact ⟨0, _, by omega, rfl, rfl, HN.out, B0.out⟩
  case round =>
    clear B0 HN
    obtain ⟨k, v, hk, rfl, rfl, HV, hb⟩ := hrel
    have B0 : Hid (Below w.heap.size w wr) := hb
    clear hb
    by_cases hlt : k < 1025
    case' pos =>
      have ik : (k : Int) < 1025 := by omega
      have hw1 : IntKind.i64.wrap (3 * (k : Int)) = 3 * (k : Int) := by rw [IntKind.wrap_i64]; omega
      have hw2 : IntKind.i64.wrap (1 + 3 * (k : Int)) = 1 + 3 * (k : Int) := by rw [IntKind.wrap_i64]; omega
      go_wp2_with (at_builtin; refine wpList_app rfl (.tmp 170) (.tmp 175) rfl _ _ rfl rfl (D2.out wr v k _ B0.out hlt HV.out) ?_; rintro v2 w2 ⟨q2, b2⟩; have HR2 : Hid (Rw w2 w.heap.size v2 (mk (k + 1))) := q2; have HB2 : Hid (Below w.heap.size w w2) := b2; clear q2 b2)
      go_roundw
      case rel => exact ⟨k + 1, v2, by omega, by go_num, rfl, HR2.out, HB2.out⟩
      case measure => simp [iv]; omega
    case' neg =>
      obtain rfl : k = 1025 := by omega
      clear D2
      have hf := HV.out.form
      rw [mk_len] at hf
      rcases hf with ⟨_, e⟩ | ⟨g, c, rfl, _, _, hc, _⟩
      · have := mk_len 1025
        rw [e] at this
        cases this
      have HR : Hid (∀ W, Below wr.heap.size wr W → Rn W (some ⟨g, 0, none⟩) (mk 1025)) := fun W q => by
        obtain ⟨a, c', e, hr, _, ho⟩ := HV.out.rn
        cases e
        exact hr.below q
      have HC : Hid (1025 ≤ c) := hc
      have hs1 : ∀ W : World, (Instr.sliceAt 23 (.slice (some ⟨g, 0, none⟩) 1025 c) none (some (.int .i64 1024)) none).run Try.prog W = .ok (.slice (some ⟨g, 0, none⟩) 1024 c) W := slice_to g 1025 c 1024 (by omega)
      have hs2 : ∀ W : World, (Instr.sliceAt 23 (.slice (some ⟨g, 0, none⟩) 1025 c) none (some (.int .i64 1023)) none).run Try.prog W = .ok (.slice (some ⟨g, 0, none⟩) 1023 c) W := slice_to g 1025 c 1023 (by omega)
      have A0 : Hid (Below wr.heap.size wr wr) := Below.refl _ _
      clear HV hlt hk hc
      go_wp2_with fail
      refine (put_m (HR.out _ A0.out) HC.out 9000 1 0 3 (by unfold wfR; decide) put_far).mono ?_
      rintro e w1 ⟨v1, rfl, b1⟩
      have A1 : Hid (Below wr.heap.size wr w1) := bs A0.out b1
      have B1 : Hid (Below w.heap.size w w1) := bs B0.out b1
      clear b1 B0 A0
      go_wp2_with fail
      refine (put_m (HR.out _ A1.out) HC.out 3 1 1 0 (by unfold wfR; decide) put_mid).mono ?_
      rintro e w2 ⟨v2, rfl, b2⟩
      have A2 : Hid (Below wr.heap.size wr w2) := bs A1.out b2
      have B2 : Hid (Below w.heap.size w w2) := bs B1.out b2
      clear b2 B1 A1
      go_wp2_with fail
      refine (cut_m (HR.out _ A2.out) HC.out 1024 (by omega) 1 1 0 (by omega) cut_one).mono ?_
      rintro e w3 ⟨v3, rfl, b3⟩
      have A3 : Hid (Below wr.heap.size wr w3) := bs A2.out b3
      have B3 : Hid (Below w.heap.size w w3) := bs B2.out b3
      clear b3 B2 A2
      go_wp2_with fail
      refine (pro_m (HR.out _ A3.out) HC.out 1 1 3 3 (by unfold wfR; decide) pro_one).mono ?_
      rintro e w4 ⟨v4, rfl, b4⟩
      have A4 : Hid (Below wr.heap.size wr w4) := bs A3.out b4
      have B4 : Hid (Below w.heap.size w w4) := bs B3.out b4
      clear b4 B3 A3
      go_wp2_with fail
      refine (cut_m (HR.out _ A4.out) HC.out 1023 (by omega) 1 2 0 (by omega) cut_two).mono ?_
      rintro e w5 ⟨v5, rfl, b5⟩
      have A5 : Hid (Below wr.heap.size wr w5) := bs A4.out b5
      have B5 : Hid (Below w.heap.size w w5) := bs B4.out b5
      clear b5 B4 A4
      go_upto_region 18 with fail
      rename_i Kc hKc
      go_cut [17] from 212 to 240 (fun t17 wx => t17 = .bool true ∧ Below w.heap.size w wx)
      case first =>
        go_wp2_with fail
        refine (chk_m (HR.out _ A5.out) HC.out 1025 (by omega) 3 chk_over).mono ?_
        rintro e w6 ⟨rfl, b6⟩
        have A6 : Hid (Below wr.heap.size wr w6) := bs A5.out b6
        have B6 : Hid (Below w.heap.size w w6) := bs B5.out b6
        clear b6 B5 A5
        go_wp2_with fail
        refine (chk_m (HR.out _ A6.out) HC.out 1024 (by omega) 0 chk_full).mono ?_
        rintro e w7 ⟨rfl, b7⟩
        have B7 : Hid (Below w.heap.size w w7) := bs B6.out b7
        clear b7 B6 A6
        go_wp2_with fail
        go_meet
        case rel => exact ⟨rfl, B7.out⟩
      case rest =>
        obtain ⟨rfl, hb9⟩ := hcut
        exact hKc _ _ (known_c w _ hb9 _ _ _ _ _ _ _ _ _ _ _ _ _ _ _ _ _ _ _ _ _ _ _ _ _ _ _ _ _ _ _ _ _ _ _ _ _ _ _ _ _ _ _ _ _ _ _ _ _ _ _ _ _ _ _ _ _ _ _ _ _ _ _ _ _ _ _ _ _ _ _ _ _ _ _ _ _ _ _ _ _ _ _ _ _ _ _ _ _ _ _ _ _ _ _ _ _ _ _ _ _ _ _ _ _ _ _ _ _ _ _ _ _ _ _ _ _ _ _ _ _ _ _ _ _ _ _ _ _ _ _ _ _ _ _ _ _ _ _ _ _ _ _ _ _ _ _ _ _ _ _ _ _ _ _ _ _ _ _ _ _ _ _ _ _ _ _ _ _ _ _ _ _ _ _ _ _ _ _ _ _ _ _ _ _ _ _ _ _ _ _ _ _ _ _ _ _ _ _ _ _ _ _ _ _ _ _ _ _ _ _ _ _ _ _ _ _ _ _ _ _ _ _ _ _ _ _ _ _ _ _ _ _ _ _ _ _ _ _ _ _ _ _ _ _ _ _ _ _ _ _ _ _ _ _ _ _ _ _ _ _ _ _ _ _ _ _ _ _ _ _ _ _ _ _ _ _ _ _ _ _ _ _ _ _ _ _ _ _ _ _ _ _ _ _ _ _ _ _ _ _ _ _ _ _ _ _ _ _ _ _ _ _ _ _ _ _ _ _ _ _ _ _ _ _ _ _ _ _ _ _ _ _ _ _ _ _ _ _ _ _ _ _ _ _ _ _ _ _ _ _ _ _ _ _ _ _ _ _ _ _ _ _ _ _ _ _ _ _ _ _ _ _ _ _ _ _ _ _ _ _ _ _ _ _ _ _ _ _ _ _ _ _ _ _ _ _ _ _ _ _ _ _ _ _ _ _ _ _ _ _)
end Go.Proofs.Ytmhfgfgiiinpjab.V
