/- PoolKnown, its third part: behind all that the quotas allow there is no block left for an image. -/
import Derived.Test.YtifchflbhdnfaaaGreatVNd
import Derived.Deep.DeepCutAuto
namespace Go.Proofs.YtifchflbhdnfaaaGreat.P
open Go.ChangeShapes Go.WideShapes Go.ChangeAt Go.RowKit
set_option linter.unusedVariables false
set_option linter.unusedSimpArgs false

theorem lat_lv0 : Lv PL (fun _ => none) (Ly 0) := by
  have e : Ly 0 = fun _ => B.nwL PL.N := by
    funext c
    unfold Ly
    split
    · rfl
    · split <;> rfl
  rw [e]
  exact lv_new PL
set_option maxRecDepth 1000000 in
set_option maxHeartbeats 8000000 in
theorem known_c (w : World) (w0 : World) (hb : Below w.heap.size w w0) (s0 s1 s2 s4 s6 s8 s9 s11 s12 s13 s14 s15 s16 s17 s18 s19 s20 s21 s22 s23 s24 s25 s26 s29 s30 s31 s32 s33 s34 s35 s36 s37 s38 s39 s40 s41 s42 s43 s44 s45 s46 s47 s48 s49 s50 s51 s52 s53 s54 s55 s56 s57 s58 s59 s60 s61 s62 s63 s64 s65 s66 s67 s68 s69 s70 s71 s72 s73 s74 s75 s76 s77 s78 s79 s80 s81 s82 s83 s84 s85 s86 s87 s88 s89 s90 s91 s92 s93 s94 s95 s96 s97 s98 s99 s100 s101 s102 s103 s104 s105 s106 s107 s108 s109 s110 s111 s112 s113 s114 s115 s116 s117 s118 s119 s120 s121 s122 s123 s124 s125 s126 s127 s128 s129 s130 s131 s132 s133 s134 s135 s136 s137 s138 s139 s140 s141 s142 s143 s144 s145 s146 s147 s148 s149 s150 s151 s152 s153 s154 s155 s156 s157 s158 s159 s160 s161 s162 s163 s164 s165 s166 s167 s168 s169 s170 s171 s172 s173 s174 s175 s176 s177 s178 s179 s180 s181 s182 s183 s184 s185 s186 s187 s188 s189 s190 s191 s192 s193 s194 s195 s196 s197 s198 s199 s200 s201 s202 s203 s204 s205 s206 s207 s208 s209 s210 s211 s212 s213 s214 s215 s216 s217 s218 s219 s220 s221 s222 s223 s224 s225 s226 s227 s228 s229 s230 s231 s232 s233 s234 s235 s236 s237 s238 s239 s240 s241 s242 s243 s244 s245 s246 s247 s248 s249 s250 s251 s252 s253 s254 s255 s256 s257 s258 s259 s260 s261 s262 s263 s264 s265 s266 s267 s268 s269 s270 s271 s272 s273 s274 s275 s276 s277 s278 s279 s280 s281 s282 s283 s284 s285 s286 s287 s288 s289 s290 s291 s292 s293 s294 s295 s296 s297 s298 s299 s300 s301 s302 s303 s304 s305 s306 s307 s308 s309 s310 s311 s312 s313 s314 s315 s316 s317 s318 s319 s320 s321 : Value) :
    Code.wp Tryz.prog (dropSeq 20 (Tryz.f6.body.getD .skip)) (bodyPost Tryz.prog Tryz.f6 (One (.bool true) w)) ⟨#[s0, s1, s2, .int .i64 270, s4, .int .i64 5, s6, .int .i64 270, s8, s9, .bool true, s11, s12, s13, s14, s15, s16, s17, s18, s19, s20, s21, s22, s23, s24, s25, s26, .bool true, .bool true, s29, s30, s31, s32, s33, s34, s35, s36, s37, s38, s39, s40, s41, s42, s43, s44, s45, s46, s47, s48, s49, s50, s51, s52, s53, s54, s55, s56, s57, s58, s59, s60, s61, s62, s63, s64, s65, s66, s67, s68, s69, s70, s71, s72, s73, s74, s75, s76, s77, s78, s79, s80, s81, s82, s83, s84, s85, s86, s87, s88, s89, s90, s91, s92, s93, s94, s95, s96, s97, s98, s99, s100, s101, s102, s103, s104, s105, s106, s107, s108, s109, s110, s111, s112, s113, s114, s115, s116, s117, s118, s119, s120, s121, s122, s123, s124, s125, s126, s127, s128, s129, s130, s131, s132, s133, s134, s135, s136, s137, s138, s139, s140, s141, s142, s143, s144, s145, s146, s147, s148, s149, s150, s151, s152, s153, s154, s155, s156, s157, s158, s159, s160, s161, s162, s163, s164, s165, s166, s167, s168, s169, s170, s171, s172, s173, s174, s175, s176, s177, s178, s179, s180, s181, s182, s183, s184, s185, s186, s187, s188, s189, s190, s191, s192, s193, s194, s195, s196, s197, s198, s199, s200, s201, s202, s203, s204, s205, s206, s207, s208, s209, s210, s211, s212, s213, s214, s215, s216, s217, s218, s219, s220, s221, s222, s223, s224, s225, s226, s227, s228, s229, s230, s231, s232, s233, s234, s235, s236, s237, s238, s239, s240, s241, s242, s243, s244, s245, s246, s247, s248, s249, s250, s251, s252, s253, s254, s255, s256, s257, s258, s259, s260, s261, s262, s263, s264, s265, s266, s267, s268, s269, s270, s271, s272, s273, s274, s275, s276, s277, s278, s279, s280, s281, s282, s283, s284, s285, s286, s287, s288, s289, s290, s291, s292, s293, s294, s295, s296, s297, s298, s299, s300, s301, s302, s303, s304, s305, s306, s307, s308, s309, s310, s311, s312, s313, s314, s315, s316, s317, s318, s319, s320, s321], []⟩ w0 := by
  conv => arg 2; whnf
  have B0 : Hid (Below w.heap.size w w0) := hb
  clear hb
  go_wp2_with fail
  refine (conf_any _).mono ?_
  rintro e w1 ⟨a, c, rfl, hcu, hci, hb1⟩
  have K1 : Hid (B.Blk (w1.alloc (.cells #[.int .i64 c.F, .int .i64 c.C, .int .i64 c.W, .int .i64 c.S, .int .i64 c.V, .int .i64 c.T, .int .u64 c.k.l1, .int .u64 c.k.llc, .int .u64 c.k.mi, .int .u64 c.k.fa, .int .u64 c.k.st, .int .u64 c.k.di, .int .u64 c.sl, .int .u64 c.pd, .int .u64 c.ft, .slice a.ta c.tn a.tc, .slice a.pa c.pn a.pc] 28)) w1.heap.size 28 (kL a us (.slice a.pa us.pn a.pc))) := by
    subst hcu
    exact B.blk_new w1 (kL a us (.slice a.pa us.pn a.pc)) 28
  have B1 : Hid (Below w.heap.size w (w1.alloc (.cells #[.int .i64 c.F, .int .i64 c.C, .int .i64 c.W, .int .i64 c.S, .int .i64 c.V, .int .i64 c.T, .int .u64 c.k.l1, .int .u64 c.k.llc, .int .u64 c.k.mi, .int .u64 c.k.fa, .int .u64 c.k.st, .int .u64 c.k.di, .int .u64 c.sl, .int .u64 c.pd, .int .u64 c.ft, .slice a.ta c.tn a.tc, .slice a.pa c.pn a.pc] 28))) := (B0.out.trans (hb1.mono B0.out.size)).alloc (Nat.le_trans B0.out.size hb1.size) _
  have G1 : Hid (w.heap.size ≤ w1.heap.size) := Nat.le_trans B0.out.size hb1.size
  have st := stK w1 a c
  clear hcu hci hb1 B0
  go_upto_region 27 with (refine wpList_store_at rfl 28 (.tmp 29) (.tmp 205) rfl _ _ rfl rfl st ?_)
  generalize w1.alloc (.cells #[.int .i64 c.F, .int .i64 c.C, .int .i64 c.W, .int .i64 c.S, .int .i64 c.V, .int .i64 c.T, .int .u64 c.k.l1, .int .u64 c.k.llc, .int .u64 c.k.mi, .int .u64 c.k.fa, .int .u64 c.k.st, .int .u64 c.k.di, .int .u64 c.sl, .int .u64 c.pd, .int .u64 c.ft, .slice a.ta c.tn a.tc, .slice a.pa c.pn a.pc] 28) = wb at *
  generalize w1.heap.size = g at *
  clear st
  have f0 := K1.out.frozen 0
  have c0 : wb.cell? ⟨g, 0, none⟩ = some (.int .i64 us.F) := K1.out.cell 0
  have K2 : Hid (B.Blk (wb.setCell ⟨g, 0, none⟩ (.int .i64 52)) g 28 ((kL a us (.slice a.pa us.pn a.pc)).set 0 (.int .i64 52))) := K1.out.set 0 _
  have B2 : Hid (Below w.heap.size w (wb.setCell ⟨g, 0, none⟩ (.int .i64 52))) := B1.out.trans (below_setCell G1.out B1.out.size 0 _)
  go_upto_region 28 with fail
  clear f0 c0 K1 B1
  generalize wb.setCell ⟨g, 0, none⟩ (.int .i64 52) = W1 at *
  have f16 := K2.out.frozen 16
  have c16 : W1.cell? ⟨g, 16, none⟩ = some (.slice a.pa us.pn a.pc) := K2.out.cell 16
  have hg1 := K2.out.lt
  have S2 : Hid (B.Blk (((W1.setCell ⟨g, 16, none⟩ (.slice (some ⟨W1.heap.size + 1, 0, none⟩) 1 1)).alloc (.cells #[.int .i64 0, .int .i64 1] 3)).alloc (.cells #[.slice (some ⟨W1.heap.size, 0, none⟩) 2 2, .int .i64 3, .int .i64 2, .int .i64 13, .int .i64 1, .int .i64 1, .int .i64 1, .int .i64 1] 52)) g 28 (((kL a us (.slice a.pa us.pn a.pc)).set 0 (.int .i64 52)).set 16 (.slice (some ⟨W1.heap.size + 1, 0, none⟩) 1 1)) ∧ B.Blk (((W1.setCell ⟨g, 16, none⟩ (.slice (some ⟨W1.heap.size + 1, 0, none⟩) 1 1)).alloc (.cells #[.int .i64 0, .int .i64 1] 3)).alloc (.cells #[.slice (some ⟨W1.heap.size, 0, none⟩) 2 2, .int .i64 3, .int .i64 2, .int .i64 13, .int .i64 1, .int .i64 1, .int .i64 1, .int .i64 1] 52)) W1.heap.size 3 [.int .i64 0, .int .i64 1] ∧ B.Blk (((W1.setCell ⟨g, 16, none⟩ (.slice (some ⟨W1.heap.size + 1, 0, none⟩) 1 1)).alloc (.cells #[.int .i64 0, .int .i64 1] 3)).alloc (.cells #[.slice (some ⟨W1.heap.size, 0, none⟩) 2 2, .int .i64 3, .int .i64 2, .int .i64 13, .int .i64 1, .int .i64 1, .int .i64 1, .int .i64 1] 52)) (W1.heap.size + 1) 52 [.slice (some ⟨W1.heap.size, 0, none⟩) 2 2, .int .i64 3, .int .i64 2, .int .i64 13, .int .i64 1, .int .i64 1, .int .i64 1, .int .i64 1] ∧ Below w.heap.size w (((W1.setCell ⟨g, 16, none⟩ (.slice (some ⟨W1.heap.size + 1, 0, none⟩) 1 1)).alloc (.cells #[.int .i64 0, .int .i64 1] 3)).alloc (.cells #[.slice (some ⟨W1.heap.size, 0, none⟩) 2 2, .int .i64 3, .int .i64 2, .int .i64 13, .int .i64 1, .int .i64 1, .int .i64 1, .int .i64 1] 52))) := by
    have x1 := K2.out.set 16 (.slice (some ⟨W1.heap.size + 1, 0, none⟩) 1 1)
    have e1 : Below w.heap.size w (W1.setCell ⟨g, 16, none⟩ (.slice (some ⟨W1.heap.size + 1, 0, none⟩) 1 1)) := B2.out.trans (below_setCell G1.out B2.out.size 16 _)
    have hs : (W1.setCell ⟨g, 16, none⟩ (.slice (some ⟨W1.heap.size + 1, 0, none⟩) 1 1)).heap.size = W1.heap.size := by simp [World.setCell]
    generalize W1.setCell ⟨g, 16, none⟩ (.slice (some ⟨W1.heap.size + 1, 0, none⟩) 1 1) = X at *
    have k1 := below_new X (.cells #[.int .i64 0, .int .i64 1] 3)
    have k2 := below_new (X.alloc (.cells #[.int .i64 0, .int .i64 1] 3)) (.cells #[.slice (some ⟨W1.heap.size, 0, none⟩) 2 2, .int .i64 3, .int .i64 2, .int .i64 13, .int .i64 1, .int .i64 1, .int .i64 1, .int .i64 1] 52)
    have s1 : (X.alloc (.cells #[.int .i64 0, .int .i64 1] 3)).heap.size = W1.heap.size + 1 := by simp [hs]
    have q1 := B.blk_new X [.int .i64 0, .int .i64 1] 3
    have q2 := B.blk_new (X.alloc (.cells #[.int .i64 0, .int .i64 1] 3)) [.slice (some ⟨W1.heap.size, 0, none⟩) 2 2, .int .i64 3, .int .i64 2, .int .i64 13, .int .i64 1, .int .i64 1, .int .i64 1, .int .i64 1] 52
    have p1 := x1.of_eq (k1.block _ x1.lt)
    have p2 := p1.of_eq (k2.block _ p1.lt)
    have q3 := q1.of_eq (k2.block _ q1.lt)
    have e2 : Below w.heap.size w (X.alloc (.cells #[.int .i64 0, .int .i64 1] 3)) := e1.trans (k1.mono e1.size)
    rw [s1] at q2
    rw [hs] at q3
    exact ⟨p2, q3, q2, e2.trans (k2.mono e2.size)⟩
  go_upto_region 29 with fail
  clear f16 c16 K2 B2 hg1
  generalize ((W1.setCell ⟨g, 16, none⟩ (.slice (some ⟨W1.heap.size + 1, 0, none⟩) 1 1)).alloc (.cells #[.int .i64 0, .int .i64 1] 3)).alloc (.cells #[.slice (some ⟨W1.heap.size, 0, none⟩) 2 2, .int .i64 3, .int .i64 2, .int .i64 13, .int .i64 1, .int .i64 1, .int .i64 1, .int .i64 1] 52) = W2 at *
  obtain ⟨s1, hs1⟩ : ∃ s1, W1.heap.size + 1 = s1 := ⟨_, rfl⟩
  rw [hs1] at S2 ⊢
  clear hs1
  generalize W1.heap.size = s0 at *
  obtain ⟨y1, y2, y3, y4⟩ := S2.out
  have f15 := y1.frozen 15
  have c15 : W2.cell? ⟨g, 15, none⟩ = some (.slice a.ta us.tn a.tc) := y1.cell 15
  have hg2 := y1.lt
  have S3 : Hid (Sev ((W2.setCell ⟨g, 15, none⟩ (.slice (some ⟨W2.heap.size, 0, none⟩) 1 1)).alloc (.cells #[.int .i64 0] 3)) g (latA s0 s1 W2.heap.size) lat ∧ Cin ((W2.setCell ⟨g, 15, none⟩ (.slice (some ⟨W2.heap.size, 0, none⟩) 1 1)).alloc (.cells #[.int .i64 0] 3)) (latA s0 s1 W2.heap.size) lat ∧ Below w.heap.size w ((W2.setCell ⟨g, 15, none⟩ (.slice (some ⟨W2.heap.size, 0, none⟩) 1 1)).alloc (.cells #[.int .i64 0] 3))) := by
    have n2 : s0 ≠ g := fun z => by
      subst z
      have := y1.symm.trans y2
      cases this
    have n3 : s1 ≠ g := fun z => by
      subst z
      have := y1.symm.trans y3
      cases this
    have x1 := y1.set 15 (.slice (some ⟨W2.heap.size, 0, none⟩) 1 1)
    have gs := B.grown_setCell' W2 g 15 (.slice (some ⟨W2.heap.size, 0, none⟩) 1 1)
    have x2 := y2.of_eq (gs.block _ y2.lt (B.some_ne n2))
    have x3 := y3.of_eq (gs.block _ y3.lt (B.some_ne n3))
    have e1 : Below w.heap.size w (W2.setCell ⟨g, 15, none⟩ (.slice (some ⟨W2.heap.size, 0, none⟩) 1 1)) := y4.trans (below_setCell G1.out y4.size 15 _)
    have hs : (W2.setCell ⟨g, 15, none⟩ (.slice (some ⟨W2.heap.size, 0, none⟩) 1 1)).heap.size = W2.heap.size := by simp [World.setCell]
    generalize W2.setCell ⟨g, 15, none⟩ (.slice (some ⟨W2.heap.size, 0, none⟩) 1 1) = X at *
    have k1 := below_new X (.cells #[.int .i64 0] 3)
    have q1 := B.blk_new X [.int .i64 0] 3
    rw [hs] at q1
    exact ⟨Blk.sev (a := latA s0 s1 W2.heap.size) (c := lat) (x1.of_eq (k1.block _ x1.lt)), lat_cin (x2.of_eq (k1.block _ x2.lt)) (x3.of_eq (k1.block _ x3.lt)) q1, e1.trans (k1.mono e1.size)⟩
  clear y1 y2 y3 y4 S2
  go_upto_region 30 with fail
  clear f15 c15 hg2
  generalize (W2.setCell ⟨g, 15, none⟩ (.slice (some ⟨W2.heap.size, 0, none⟩) 1 1)).alloc (.cells #[.int .i64 0] 3) = W3 at *
  obtain ⟨a', ha'⟩ : ∃ a', latA s0 s1 W2.heap.size = a' := ⟨_, rfl⟩
  obtain ⟨c', hc'⟩ : ∃ c', c' = lat := ⟨_, rfl⟩
  rw [ha', ← hc'] at S3
  have HC' : Hid (c' = lat) := hc'
  clear ha' hc'
  obtain ⟨y1, y2, y3⟩ := S3.out
  have hld := y1.ld
  have CN : Hid (Calls _ _ _ _ _) := newl HC'.out y2
  have B3 : Hid (Below w.heap.size w W3) := y3
  clear y1 y2 y3 S3
  go_wp2_with (refine wpList_load_at rfl 28 (.tmp 29) rfl _ _ rfl hld ?_)
  refine CN.out.mono ?_
  rintro e w4 ⟨p, F4, rfl, hP4, hK4⟩
  have B4 : Hid (Below w.heap.size w w4) := B3.out.trans ((kp_false hK4).mono B3.out.size)
  have HF4 : Hid (∀ x, F4 x → w.heap.size ≤ x) := fun x hx => by
    rcases hK4.new x hx with z | z
    · exact z.elim
    · exact Nat.le_trans B3.out.size z
  have HP4 : Hid (Po w4 F4 p PL (fun _ => none)) := hP4
  clear hP4 hK4 CN B3 hld
  go_wp2
  go_loopw [32] (fun z wr => ∃ i : Nat, i ≤ 18 ∧ z = .int .i64 i ∧ ∃ F us, Po wr F p PL us ∧ Lv PL us (Ly i) ∧ (∀ u, cU us u 4096 = cntY i u) ∧ Below w.heap.size w wr ∧ ∀ x, F x → w.heap.size ≤ x) (fun z _ => 18 - (B.iv z).toNat)
  case atStart => exact ⟨0, by omega, rfl, _, _, HP4.out, lat_lv0, fun u => cU_none _ _, B4.out, HF4.out⟩
  case round =>
    clear HP4 B4 HF4
    obtain ⟨i, hi, rfl, F, us, hP, hL, hC, hB, hF⟩ := hrel
    have HP : Hid (Po wr F p PL us) := hP
    have HL : Hid (Lv PL us (Ly i)) := hL
    have HC : Hid (∀ u, cU us u 4096 = cntY i u) := hC
    have HB : Hid (Below w.heap.size w wr) := hB
    have HF : Hid (∀ x, F x → w.heap.size ≤ x) := hF
    clear hP hL hC hB hF
    by_cases hlt : i < 18
    · have HT : Hid (∀ W, Below wr.heap.size wr W → Calls Tryz.prog 11 #[.pointer (some ⟨p, 0, none⟩), .int .u8 (useY i : Nat)] W fun e w' => ∃ g, e = .returned (.tuple #[.int .i64 (g : Nat), .int .i64 0]) ∧ ∃ F us, Po w' F p PL us ∧ Lv PL us (Ly (i + 1)) ∧ (∀ u, cU us u 4096 = cntY (i + 1) u) ∧ Below w.heap.size w w' ∧ ∀ x, F x → w.heap.size ≤ x) := fun W hW => by
        have hq := useY_in i hlt
        refine (Take_p (HP.out.below hW) (useY i) hq.1 hq.2 (by rw [HC.out]; exact cntY_lt i hlt)).mono ?_
        rintro e w' ⟨g, us', F', rfl, hT, hP', hK'⟩
        obtain ⟨l1, l2⟩ := lat_take hlt HL.out HC.out hT
        have hbW : Below w.heap.size w W := HB.out.trans (hW.mono HB.out.size)
        refine ⟨g, rfl, F', us', hP', l1, l2, hbW.trans (hK'.below _ hbW.size HF.out), fun x hx => ?_⟩
        rcases hK'.new x hx with z | z
        · exact HF.out x z
        · exact Nat.le_trans hbW.size z
      clear HP HL HC HB HF
      have hiI : (i : Int) < 18 := by omega
      by_cases h5 : i < 5
      · rcases (show i = 0 ∨ i = 1 ∨ i = 2 ∨ i = 3 ∨ i = 4 by omega) with rfl | rfl | rfl | rfl | rfl
        all_goals (
          go_wp2_with fail
          refine (HT.out _ (below_new _ _)).mono ?_
          rintro e w5 ⟨g5, rfl, hR5⟩
          have HR5 : Hid (_) := hR5
          clear hR5 HT
          go_wp2
          go_roundw
          case rel => exact ⟨_, by omega, by go_num, HR5.out⟩
          case measure => simp [B.iv])
      · have hu : useY i = 3 := by
          unfold useY
          rw [List.getD_eq_getElem?_getD, List.getElem?_eq_none (by simp; omega)]
          rfl
        rw [hu] at HT
        clear hu
        have h5I : ¬ (i : Int) < 5 := by omega
        go_wp2_with fail
        refine (HT.out _ (Below.refl _ _)).mono ?_
        rintro e w5 ⟨g5, rfl, hR5⟩
        have HR5 : Hid (_) := hR5
        clear hR5 HT
        go_wp2
        go_roundw
        case rel => exact ⟨i + 1, by omega, by go_num, HR5.out⟩
        case measure => simp [B.iv]; omega
    · obtain rfl : i = 18 := by omega
      have CI : Hid (Calls _ _ _ _ _) := Image_mem HP.out (by rw [HC.out]; decide +kernel) (lat_none HL.out)
      clear HP HL HC HF
      go_upto_region 40 with fail
      rename_i Kc hKc
      go_cut [34, 35] from 233 to 237 (fun u v wc => v = .int .i64 4 ∧ Below w.heap.size w wc)
      case first =>
        go_wp2_with fail
        refine CI.out.mono ?_
        rintro e w6 ⟨rfl, hb6⟩
        have B6 : Hid (Below w.heap.size w w6) := HB.out.trans (hb6.mono HB.out.size)
        clear hb6 HB CI
        go_wp2_with fail
        go_meet
        case rel => exact ⟨rfl, B6.out⟩
      case rest =>
        obtain ⟨rfl, hb6⟩ := hcut
        exact hKc _ _ (known_d w _ hb6 _ _ _ _ _ _ _ _ _ _ _ _ _ _ _ _ _ _ _ _ _ _ _ _ _ _ _ _ _ _ _ _ _ _ _ _ _ _ _ _ _ _ _ _ _ _ _ _ _ _ _ _ _ _ _ _ _ _ _ _ _ _ _ _ _ _ _ _ _ _ _ _ _ _ _ _ _ _ _ _ _ _ _ _ _ _ _ _ _ _ _ _ _ _ _ _ _ _ _ _ _ _ _ _ _ _ _ _ _ _ _ _ _ _ _ _ _ _ _ _ _ _ _ _ _ _ _ _ _ _ _ _ _ _ _ _ _ _ _ _ _ _ _ _ _ _ _ _ _ _ _ _ _ _ _ _ _ _ _ _ _ _ _ _ _ _ _ _ _ _ _ _ _ _ _ _ _ _ _ _ _ _ _ _ _ _ _ _ _ _ _ _ _ _ _ _ _ _ _ _ _ _ _ _ _ _ _ _ _ _ _ _ _ _ _ _ _ _ _ _ _ _ _ _ _ _ _ _ _ _ _ _ _ _ _ _ _ _ _ _ _ _ _ _ _ _ _ _ _ _ _ _ _ _ _ _ _ _ _ _ _ _ _ _ _ _ _ _ _ _ _ _ _ _ _ _ _ _ _ _ _ _ _ _ _ _ _ _ _ _ _ _ _ _ _ _ _ _ _ _ _ _ _ _ _ _ _ _ _ _ _ _ _ _ _)
end Go.Proofs.YtifchflbhdnfaaaGreat.P
