/- Tables of a configuration; the chapter's rows; what the statements' own awake gives back; no condition. -/
import Derived.Test.YtiegcncpgjnpbaaGreatVth
import Derived.Test.YtiegcncpgjnpbaaGreatVWa
namespace Go.Proofs.YtiegcncpgjnpbaaGreat.Pg
open P E Go.ChangeShapes Go.WideShapes Go.ChangeAt Go.RowKit
set_option linter.unusedVariables false
set_option maxRecDepth 8192

theorem over_ts {w0 w : World} {a : Ad} {c : Cf} (b : Below w0.heap.size w0 w) (hc : Cin w a c) (hm : may c = true) (n : Nat) (hn : n < c.pn) : Calls Tryz.prog 22 #[.agg #[.int .i64 c.F, .int .i64 c.C, .int .i64 c.W, .int .i64 c.S, .int .i64 c.V, .int .i64 c.T, .int .u64 c.k.l1, .int .u64 c.k.llc, .int .u64 c.k.mi, .int .u64 c.k.fa, .int .u64 c.k.st, .int .u64 c.k.di, .int .u64 c.sl, .int .u64 c.pd, .int .u64 c.ft, .slice a.ta c.tn a.tc, .slice a.pa c.pn a.pc], .int .i64 (n : Nat)] w fun e w' => ∃ t p, e = .returned (.tuple #[.pointer (some ⟨t, 0, none⟩), .pointer (some ⟨p, 0, none⟩), .bool true]) ∧ ∃ cc, Ts w0 (fun _ => False) t cc p (hwOf c) (par c n) (s0, fun _ => none) (fun _ => none) w' ∧ Below w.heap.size w w' := by
  refine (over_ok hc hm n hn).mono ?_
  rintro e w' ⟨t, p, rfl, X, cc, T, k⟩
  have hO := may_iff.1 hm
  exact ⟨t, p, rfl, cc, ⟨⟨b.trans ((kp_below k).mono b.size), ⟨X, T, fun i hi => ⟨Nat.le_trans b.size ((k.new i hi).resolve_left id), id⟩⟩, fun _ q => q.elim⟩, (Ok.none' T.tv.par.1 s0).congr (fun x => ⟨fun q => absurd rfl q, False.elim⟩), par_n hO hn⟩, kp_below k⟩
theorem spn_new (w : World) (a n : Int) : Spn (w.alloc (.cells #[.int .i64 a, .int .i64 n] 74)) (some ⟨w.heap.size, 0, none⟩) [(a, n)] := by
  have b := C.blk_new w [.int .i64 a, .int .i64 n] 74
  refine Or.inr ⟨_, 0, rfl, b.lt, fun i hi => ?_⟩
  obtain rfl : i = 0 := by simpa using hi
  exact ⟨b.cell 0, b.cell 1⟩
theorem spn_new3 (w : World) (a n a' n' a'' n'' : Int) : Spn (w.alloc (.cells #[.int .i64 a, .int .i64 n, .int .i64 a', .int .i64 n', .int .i64 a'', .int .i64 n''] 74)) (some ⟨w.heap.size, 0, none⟩) [(a, n), (a', n'), (a'', n'')] := by
  have b := C.blk_new w [.int .i64 a, .int .i64 n, .int .i64 a', .int .i64 n', .int .i64 a'', .int .i64 n''] 74
  refine Or.inr ⟨_, 0, rfl, b.lt, fun i hi => ?_⟩
  have hi' : i = 0 ∨ i = 1 ∨ i = 2 := by have : i < 3 := hi; omega
  rcases hi' with rfl | rfl | rfl
  · exact ⟨b.cell 0, b.cell 1⟩
  · exact ⟨b.cell 2, b.cell 3⟩
  · exact ⟨b.cell 4, b.cell 5⟩
variable {w0 w : World} {Z : Nat → Prop} {t c p : Nat} {h : Hw} {P : Par} {S : E.Sc × Us} {m : Nat → Option Nat}
theorem Sm.less {Z Z' : Nat → Prop} {w w' : World} (s : Sm Z w w') (h : ∀ k, Z' k → Z k) : Sm Z' w w' := fun k hk => s k (h k hk)
theorem Sm.trans {Z : Nat → Prop} {w w' w'' : World} (s : Sm Z w w') (s' : Sm Z w' w'') : Sm Z w w'' := fun k hk => (s' k hk).trans (s k hk)
theorem Ts.less {Z' : Nat → Prop} (K : Ts w0 Z t c p h P S m w) (hz : ∀ k, Z' k → Z k) : Ts w0 Z' t c p h P S m w := K.more (Below.refl _ _) (fun k hk => Or.inl (hz k hk))
theorem Ts.make (K : Ts w0 Z t c p h P S m w) (o : Obj) : Ts w0 (fun k => Z k ∨ k = w.heap.size) t c p h P S m (w.alloc o) ∧ Sm Z w (w.alloc o) := by
  have b : Below w.heap.size w (w.alloc o) := (Below.refl _ _).alloc (Nat.le_refl _) _
  exact ⟨K.more b (fun k hk => hk.imp id fun q => ⟨by omega, by rw [q]; simp⟩), K.zt.sm b⟩
theorem Ts.fit1 (K : Ts w0 Z t c p h P S m w) {r : Nat} (hr : m r ≠ none) (a n : Int) (hv : A.mayS (a, n) = true) (hx : A.fits (a, n)) (hq : cU S.2 3 4096 + A.total [(a, n)] ≤ P.q 3 + all (pr (wd S.1.m) r)) :
    Calls Tryz.prog 27 #[.pointer (some ⟨t, 0, none⟩), .int .i64 (r : Nat), .slice (some ⟨w.heap.size, 0, none⟩) 1 1] (w.alloc (.cells #[.int .i64 a, .int .i64 n] 74)) fun e w' => ∃ n' o : Nat, e = .returned (.tuple #[.int .i64 (n' : Nat), .int .i64 (o : Nat), .int .i64 0]) ∧ o ≤ all (pr (wd S.1.m) r) - 1 ∧ all (pr (wd S.1.m) r) + n' = A.total [(a, n)] + o ∧ ∃ S', Fitd P (fun x => m x ≠ none) r [(a, n)] S S' ∧ Ts w0 Z t c p h P S' m w' ∧ Sm Z w w' := by
  obtain ⟨K', s1⟩ := K.make (.cells #[.int .i64 a, .int .i64 n] 74)
  refine (K'.fit hr (spn_new w a n) (Or.inr fun b off e => by cases e; exact Or.inr rfl) (by decide : 1 ≤ 1024) (fun s hs => ?_) (fun s hs => ?_) hq (cap := 1)).mono ?_
  · obtain rfl := List.mem_singleton.1 hs
    exact hv
  · obtain rfl := List.mem_singleton.1 hs
    exact hx
  · rintro e w' ⟨n', o, rfl, h1, h2, S', F, T, s⟩
    exact ⟨n', o, rfl, h1, h2, S', F, T.less (fun _ => Or.inl), s1.trans (s.less fun _ => Or.inl)⟩
theorem Ts.fit3_mem (K : Ts w0 Z t c p h P S m w) {r : Nat} (hr : m r ≠ none) (a n a' n' a'' n'' : Int) (hv : ∀ s ∈ [(a, n), (a', n'), (a'', n'')], A.mayS s = true) (hx : ∀ s ∈ [(a, n), (a', n'), (a'', n'')], A.fits s) (hq : ¬ cU S.2 3 4096 + A.total [(a, n), (a', n'), (a'', n'')] ≤ P.q 3 + all (pr (wd S.1.m) r)) :
    Calls Tryz.prog 27 #[.pointer (some ⟨t, 0, none⟩), .int .i64 (r : Nat), .slice (some ⟨w.heap.size, 0, none⟩) 3 3] (w.alloc (.cells #[.int .i64 a, .int .i64 n, .int .i64 a', .int .i64 n', .int .i64 a'', .int .i64 n''] 74)) fun e w' => e = .returned (.tuple #[.int .i64 0, .int .i64 0, .int .i64 4]) ∧ Ts w0 Z t c p h P S m w' ∧ Sm Z w w' := by
  obtain ⟨K', s1⟩ := K.make (.cells #[.int .i64 a, .int .i64 n, .int .i64 a', .int .i64 n', .int .i64 a'', .int .i64 n''] 74)
  refine (K'.fit_mem hr (spn_new3 w a n a' n' a'' n'') (by decide : 3 ≤ 1024) hv hx hq (cap := 3)).mono ?_
  rintro e w' ⟨rfl, T, s⟩
  exact ⟨rfl, T.less (fun _ => Or.inl), s1.trans (s.less fun _ => Or.inl)⟩
theorem cn_pts (p : Nat → Bool) (t M : Nat) (hp : p t = false) (hM : t < M) : A.cn (fun k => p k || k == t) M = A.cn p M + 1 := cn_more hp (by simp) (fun k hk => by simp [hk]) hM
theorem cn_no (M : Nat) : A.cn (fun _ => false) M = 0 := by rw [← ct_cn]; exact ct_none (fun _ _ => rfl)
theorem cn_pt (t M : Nat) (hM : t < M) : A.cn (fun k => k == t) M = 1 := by
  have := cn_pts (fun _ => false) t M rfl hM
  rw [cn_no] at this
  simpa using this
theorem ned_pt (q a n : Int) (t : Nat) (h0 : 0 < n) (h1 : a / q = t) (h2 : (a + n - 1) / q = t) (k : Nat) : A.ned q (a, n) k = (k == t) := by
  rw [Bool.eq_iff_iff, A.ned_iff, beq_iff_eq]
  simp only [h1, h2]
  omega
theorem cov1 (q : Int) (s : Int × Int) : A.cov q [s] = A.ned q s := by funext k; simp [A.cov]
theorem total12 : A.total [(1, 2)] = 4 := by
  unfold A.total
  rw [cov1, cov1, cov1, A.cn_congr 32768 (fun k _ => ned_pt 32 1 2 0 (by decide) rfl rfl k), A.cn_congr 1024 (fun k _ => ned_pt 1024 1 2 0 (by decide) rfl rfl k), A.cn_congr 32 (fun k _ => ned_pt 32768 1 2 0 (by decide) rfl rfl k), cn_pt _ _ (by decide), cn_pt _ _ (by decide), cn_pt _ _ (by decide)]
theorem total_3 : 7 ≤ A.total [(32, 1), (1024, 1), (2048, 1)] := by
  have e : ∀ q (t1 t2 t3 : Nat) (h1 : (32 : Int) / q = t1) (h2 : (1024 : Int) / q = t2) (h3 : (2048 : Int) / q = t3) (k : Nat), A.cov q [(32, 1), (1024, 1), (2048, 1)] k = ((k == t1 || k == t2) || k == t3) := fun q t1 t2 t3 h1 h2 h3 k => by
    rw [A.cov_cons, A.cov_cons, cov1, ned_pt q 32 1 t1 (by decide) h1 (by exact h1) k, ned_pt q 1024 1 t2 (by decide) h2 (by exact h2) k, ned_pt q 2048 1 t3 (by decide) h3 (by exact h3) k, Bool.or_assoc]
  unfold A.total
  rw [A.cn_congr 32768 (fun k _ => e 32 1 32 64 rfl rfl rfl k), A.cn_congr 1024 (fun k _ => e 1024 0 1 2 rfl rfl rfl k), cn_pts _ 64 _ rfl (by decide), cn_pts _ 32 _ rfl (by decide), cn_pt _ _ (by decide), cn_pts _ 2 _ rfl (by decide), cn_pts _ 1 _ rfl (by decide), cn_pt _ _ (by decide)]
  omega
theorem q1 : (par us 1).q 3 = 6 := by decide
theorem q0 : (par us 0).q 3 = 8 := by decide
end Go.Proofs.YtiegcncpgjnpbaaGreat.Pg
namespace Go.Proofs.YtiegcncpgjnpbaaGreat.Pg
open P E Go.ChangeShapes Go.WideShapes Go.ChangeAt Go.RowKit
set_option linter.unusedVariables false
set_option maxRecDepth 8192

theorem pt_same (m : Nat → Option Nat) (g : Nat) : B.pt m g (some 0) g ≠ none := by unfold B.pt; rw [if_pos rfl]; exact nofun
theorem ec_9 : (ec (N.lo true false false false false false + 9 * 256)).toArray = #[.bool true, .bool false, .bool false, .bool false, .bool false, .bool false, .int .i64 9] := by rw [ec_word (by decide) (by decide)]
theorem Tryz.infoI : (Tryz.prog.info? 3).map (·.size) = some 1 := by kernel_rfl
theorem run_index7 (cs : Array Value) (k : IntKind) (i : Nat) (v : Value) (hi : i < 7) (hv : cs[i]? = some v) (w : World) : (Instr.index 43 (.agg cs) (.int k (i : Int))).run Tryz.prog w = .ok v w := by
  have hz : (sizeOf 3).run Tryz.prog w = .ok 1 w := by
    cases hq : Tryz.prog.info? 3 with
    | none => have := Tryz.infoI; simp [hq] at this
    | some i => have := Tryz.infoI; simp [hq] at this; simp [sizeOf, typeInfo, hq, this]
  have ha : (isAgg 3).run Tryz.prog w = .ok false w := by simp [isAgg, run_underlying Tryz.underlying3]
  have hp : (part 3 cs i).run Tryz.prog w = .ok v w := by simp [part, ha, hv]
  simp [Instr.index, run_underlying Tryz.underlying43, asIntOf, hz, hi, hp]
theorem index3 (x0 x1 x2 x3 x4 x5 x6 : Int) (w : World) : (Instr.index 43 (.agg #[.int .i64 x0, .int .i64 x1, .int .i64 x2, .int .i64 x3, .int .i64 x4, .int .i64 x5, .int .i64 x6]) (.int .u8 3)).run Tryz.prog w = .ok (.int .i64 x3) w := run_index7 _ _ 3 _ (by decide) rfl w
structure Aw (w w' : World) (Z : Nat → Prop) (t c p r : Nat) (S : E.Sc × Us) (m : Nat → Option Nat) : Prop where
  ts : Ts w Z t c p (hwOf us) (par us 1) S m w'
  rt : m r ≠ none
  cu : cU S.2 3 4096 = 4
  al : all (pr (wd S.1.m) r) = 4
  l0 : pr (wd S.1.m) r 3 0 = true
  l1 : pr (wd S.1.m) r 3 1 = false
theorem Aw.sm {w w' w2 : World} {Z : Nat → Prop} {t c p r : Nat} {S : E.Sc × Us} {m : Nat → Option Nat} (A : Aw w w' Z t c p r S m) (K : Ts w Z t c p (hwOf us) (par us 1) S m w2) : Aw w w2 Z t c p r S m := ⟨K, A.rt, A.cu, A.al, A.l0, A.l1⟩
set_option maxHeartbeats 1000000 in
theorem awake_any (w : World) : Calls Tryz.prog 8 #[] w fun e w' => e = .returned (.bool true) ∧ Below w.heap.size w w' := by
  have CN : Hid (∀ w1 a, Below w.heap.size w w1 → Cin w1 a us → Calls Tryz.prog 22 #[.agg #[.int .i64 us.F, .int .i64 us.C, .int .i64 us.W, .int .i64 us.S, .int .i64 us.V, .int .i64 us.T, .int .u64 us.k.l1, .int .u64 us.k.llc, .int .u64 us.k.mi, .int .u64 us.k.fa, .int .u64 us.k.st, .int .u64 us.k.di, .int .u64 us.sl, .int .u64 us.pd, .int .u64 us.ft, .slice a.ta us.tn a.tc, .slice a.pa us.pn a.pc], .int .i64 1] w1 fun e w' => ∃ t p, e = .returned (.tuple #[.pointer (some ⟨t, 0, none⟩), .pointer (some ⟨p, 0, none⟩), .bool true]) ∧ ∃ cc, Ts w (fun _ => False) t cc p (hwOf us) (par us 1) (s0, fun _ => none) (fun _ => none) w') := fun w1 a hb hc => (over_ts hb hc us_may 1 (by decide)).mono (by rintro e w' ⟨t, p, rfl, cc, T, _⟩; exact ⟨t, p, rfl, cc, T⟩)
  have E1 := N.eq_run
  have I3 := index3
  go_enter Tryz.func8, Tryz.ntmps8
  go_wp2_with fail
  refine (usual_any w).mono ?_
  rintro e w1 ⟨n1, n2, n3, n4, a, c, rfl, rfl, rfl, hU, _, hb⟩
  have HC := CN.out w1 _ hb hU.cin
  clear hU CN hb
  generalize Ud n1 n2 n3 n4 = a at *
  have HC' : Hid (Calls _ _ _ _ _) := HC
  clear HC
  go_wp2_with fail
  refine HC'.out.mono ?_
  rintro e w2 ⟨t, p, rfl, cc, K⟩
  have CR : Hid (Calls Tryz.prog 23 #[.pointer (some ⟨t, 0, none⟩)] w2 _) := K.root (by rw [q1, cU_none]; decide)
  have u0 : cU ((s0, fun _ => none) : E.Sc × Us).2 3 4096 = 0 := cU_none _ _
  generalize ((s0, fun _ => none) : E.Sc × Us) = S0 at *
  clear K HC'
  go_wp2_with fail
  refine CR.out.mono ?_
  rintro e w3 ⟨r, rfl, S1, D1, K1, _⟩
  have c1 := D1.cu
  have a1 := D1.all
  have rt := pt_same (fun _ => none) r
  generalize B.pt (fun _ => none) r (some 0) = m at *
  have CF : Hid (Calls _ _ _ _ _) := K1.fit1 rt 1 2 (by decide) (by unfold A.fits; decide) (by rw [total12, q1, a1, c1, u0]; decide)
  rw [a1, total12] at CF
  clear K1 D1 CR
  go_wp2_with fail
  refine CF.out.mono ?_
  rintro e w4 ⟨n, o, rfl, h1, h2, S2, F2, K2, _⟩
  obtain rfl : o = 0 := by omega
  obtain rfl : n = 3 := by omega
  have A2 : Hid (Aw w w4 (fun _ => False) t cc p r S2 m) := ⟨K2, rt, by have := F2.cu; rw [a1, total12] at this; omega, F2.all.trans total12, (F2.has 3 0 (by decide) (by decide)).trans (by decide), (F2.has 3 1 (by decide) (by decide)).trans (by decide)⟩
  clear h1 h2 F2 K2 CF a1 c1 u0 rt
  have CS : Hid (Calls _ _ _ _ _) := A2.out.ts.set A2.out.rt (pg := 1) (by decide) true false false false false false 9 (by decide) A2.out.l0
  go_wp2_with fail
  refine CS.out.mono ?_
  rintro e w5 ⟨rfl, S3, D3, K3, _⟩
  have A3 : Hid (Aw w w5 (fun _ => False) t cc p r S3 m ∧ pw (wd S3.1.m) r 1 = N.lo true false false false false false + 9 * 256) := by
    have hp : ∀ d k, d ≤ 3 → pr (wd S3.1.m) r d k = pr (wd S2.1.m) r d k := fun d k hd => by unfold pr; rw [D3.tb r A2.out.rt d k hd]
    exact ⟨⟨K3, A2.out.rt, by rw [D3.us]; exact A2.out.cu, (cn_ext (fun d k _ hd => hp d k hd)).trans A2.out.al, (hp 3 0 (by decide)).trans A2.out.l0, (hp 3 1 (by decide)).trans A2.out.l1⟩, by rw [D3.pw r 1 A2.out.rt, if_pos ⟨rfl, rfl⟩]⟩
  clear D3 K3 A2 CS
  have CG : Hid (Calls Tryz.prog 32 #[.pointer (some ⟨t, 0, none⟩), .int .i64 (r : Nat), .int .i64 1] w5 fun e w' => e = .returned (.tuple #[.agg #[.bool true, .bool false, .bool false, .bool false, .bool false, .bool false, .int .i64 9], .int .i64 0]) ∧ Aw w w' (fun _ => False) t cc p r S3 m) := by
    refine (A3.out.1.ts.get A3.out.1.rt (pg := 1) (by decide)).mono ?_
    rintro e w' ⟨rfl, T, _⟩
    rw [A3.out.2, ec_9]
    exact ⟨rfl, A3.out.1.sm T⟩
  clear A3
  go_wp2_with fail
  refine CG.out.mono ?_
  rintro e w6 ⟨rfl, A4'⟩
  have A4 : Hid (Aw w w6 (fun _ => False) t cc p r S3 m) := A4'
  clear A4' CG
  go_wp2_with fail
  have A5 : Hid (Aw w (w6.alloc (.cells #[.bool true, .bool false, .bool false, .bool false, .bool false, .bool false, .int .i64 9] 38)) (fun k => k = w6.heap.size) t cc p r S3 m ∧ C.Blk (w6.alloc (.cells #[.bool true, .bool false, .bool false, .bool false, .bool false, .bool false, .int .i64 9] 38)) w6.heap.size 38 [.bool true, .bool false, .bool false, .bool false, .bool false, .bool false, .int .i64 9]) := ⟨⟨(A4.out.ts.make _).1.less (fun _ q => Or.inr q), A4.out.rt, A4.out.cu, A4.out.al, A4.out.l0, A4.out.l1⟩, C.blk_new _ _ _⟩
  generalize hg : w6.alloc (.cells #[.bool true, .bool false, .bool false, .bool false, .bool false, .bool false, .int .i64 9] 38) = w6' at *
  clear hg A4
  generalize w6.heap.size = g at *
  refine (A5.out.1.ts.set_no A5.out.1.rt (pg := 32) (by decide) true false false false false false 9 (by decide) A5.out.1.l1).mono ?_
  rintro e w7 ⟨rfl, K7, s7⟩
  have A7 : Hid (Aw w w7 (fun k => k = g) t cc p r S3 m ∧ C.Blk w7 g 38 [.bool true, .bool false, .bool false, .bool false, .bool false, .bool false, .int .i64 9]) := ⟨A5.out.1.sm K7, A5.out.2.of_eq (s7 g rfl)⟩
  clear K7 s7 A5
  have CM : Hid (Calls _ _ _ _ _) := A7.out.1.ts.fit3_mem A7.out.1.rt 32 1 1024 1 2048 1 (by decide) (by unfold A.fits; decide) (by rw [A7.out.1.cu, A7.out.1.al, q1]; have := total_3; omega)
  go_wp2_with fail
  refine CM.out.mono ?_
  rintro e w8 ⟨rfl, K8, s8⟩
  have A8 : Hid (Aw w w8 (fun k => k = g) t cc p r S3 m ∧ C.Blk w8 g 38 [.bool true, .bool false, .bool false, .bool false, .bool false, .bool false, .int .i64 9]) := ⟨A7.out.1.sm K8, A7.out.2.of_eq (s8 g rfl)⟩
  clear K8 s8 A7 CM
  have CD : Hid (Calls Tryz.prog 33 #[.pointer (some ⟨t, 0, none⟩), .int .i64 (r : Nat)] w8 fun e w' => e = .returned (.tuple #[.int .i64 4, .int .i64 0]) ∧ C.Blk w' g 38 [.bool true, .bool false, .bool false, .bool false, .bool false, .bool false, .int .i64 9] ∧ Below w.heap.size w w' ∧ Calls Tryz.prog 14 #[.pointer (some ⟨p, 0, none⟩)] w' fun e w'' => ∃ x0 x1 x2 x4 x5 x6 : Nat, e = .returned (.agg #[.int .i64 (x0 : Nat), .int .i64 (x1 : Nat), .int .i64 (x2 : Nat), .int .i64 0, .int .i64 (x4 : Nat), .int .i64 (x5 : Nat), .int .i64 (x6 : Nat)]) ∧ Below w.heap.size w w'') := by
    refine (A8.out.1.ts.drop A8.out.1.rt).mono ?_
    rintro e w' ⟨rfl, S4, D, K, s⟩
    have z : cU S4.2 3 4096 = 0 := by have := D.cu; rw [A8.out.1.cu, A8.out.1.al] at this; omega
    refine ⟨by rw [A8.out.1.al]; rfl, A8.out.2.of_eq (s g rfl), K.zt.be, K.counts.mono ?_⟩
    rintro e w'' ⟨x0, x1, x2, x4, x5, x6, rfl, K', _⟩
    rw [z]
    exact ⟨x0, x1, x2, x4, x5, x6, rfl, K'.zt.be⟩
  clear A8
  go_wp2_with fail
  refine CD.out.mono ?_
  rintro e w9 ⟨rfl, b9, be9, C9⟩
  have x0 : w9.cell? ⟨g, 0, none⟩ = some (.bool true) := b9.cell 0
  have x1 : w9.cell? ⟨g, 1, none⟩ = some (.bool false) := b9.cell 1
  have x2 : w9.cell? ⟨g, 2, none⟩ = some (.bool false) := b9.cell 2
  have x3 : w9.cell? ⟨g, 3, none⟩ = some (.bool false) := b9.cell 3
  have x4 : w9.cell? ⟨g, 4, none⟩ = some (.bool false) := b9.cell 4
  have x5 : w9.cell? ⟨g, 5, none⟩ = some (.bool false) := b9.cell 5
  have x6 : w9.cell? ⟨g, 6, none⟩ = some (.int .i64 9) := b9.cell 6
  have HC9 : Hid (Calls _ _ _ _ _) := C9
  have es := N.eqE_self true false false false false false 9
  clear b9 be9 C9 CD
  go_wp2_with (go_at_call 14; refine HC9.out.mono ?_; rintro e wz ⟨x0, x1, x2, x4, x5, x6, rfl, be⟩; have HB : Hid (Below w.heap.size w wz) := be; clear be)
  go_ret
  exact ⟨rfl, HB.out⟩
end Go.Proofs.YtiegcncpgjnpbaaGreat.Pg
