/- How SlabPlays is opened: both pools with their images taken, two slabs of each; no condition but those that each theorem names. -/
import Derived.Test.YtdempgjhjcjklaaGreatVYt
import Derived.Test.YtdempgjhjcjklaaGreatVFb
namespace Go.Proofs.YtdempgjhjcjklaaGreat.P
open B Go.ChangeShapes Go.WideShapes Go.ChangeAt Go.RowKit
set_option linter.unusedVariables false
set_option maxRecDepth 8192

def mk0 : Nat → Ms := fun _ _ => 0
theorem put_mk0 (m : Nat) : put mk0 m (fun _ => 0) = mk0 := by
  funext j
  by_cases e : j = m
  · rw [e, put_same]; rfl
  · rw [put_other _ _ _ _ e]
def twoM (p q : Nat) (s r : Nat → Nat) (m : Nat) : List Value := [.pointer (some ⟨p, 0, none⟩), .pointer (some ⟨q, 0, none⟩), .pointer (if 0 < m then some ⟨s 0, 0, none⟩ else none), .pointer (if 1 < m then some ⟨s 1, 0, none⟩ else none), .pointer (if 0 < m then some ⟨r 0, 0, none⟩ else none), .pointer (if 1 < m then some ⟨r 1, 0, none⟩ else none), .slice none 0 0, .slice none 0 0]
theorem twoM_set (p q : Nat) (s r : Nat → Nat) {m : Nat} (hm : m < 2) (s' r' : Nat) : ((twoM p q s r m).set (2 + m) (.pointer (some ⟨s', 0, none⟩))).set (4 + m) (.pointer (some ⟨r', 0, none⟩)) = twoM p q (put s m s') (put r m r') (m + 1) := by
  rcases (show m = 0 ∨ m = 1 by omega) with rfl | rfl <;> simp [twoM, put]
theorem twoM_get (p q : Nat) (s r : Nat → Nat) {m : Nat} (hm : m < 2) : (twoM p q s r m)[2 + m]? = some (.pointer none) ∧ (twoM p q s r m)[4 + m]? = some (.pointer none) := by
  rcases (show m = 0 ∨ m = 1 by omega) with rfl | rfl <;> simp [twoM]
structure Ty (w0 w : World) (x p q : Nat) (s r u : Nat → Nat) (P : Par) (us : Us) (m : Nat) (FP FQ : Nat → Prop) : Prop where
  be : Below w0.heap.size w0 w
  pr : ∃ b F, SlP w FP p P us m s b u mk0 F
  rr : SlU w FQ q P us m r u mk0
  bx : Blk w x 83 (twoM p q s r m)
  x0 : w0.heap.size ≤ x
  lp : ∀ y, FP y → w0.heap.size ≤ y
  lq : ∀ y, FQ y → w0.heap.size ≤ y
  d : ∀ y, FP y → ¬ FQ y
  dx : ¬ FP x ∧ ¬ FQ x
theorem Ty.tz {w0 w : World} {x p q : Nat} {s r u : Nat → Nat} {P : Par} {us : Us} {FP FQ : Nat → Prop} (h : Ty w0 w x p q s r u P us 2 FP FQ) : Tz w0 w x p q s r u P us mk0 us mk0 FP FQ (fun _ => .slice none 0 0) (fun _ => []) none :=
  ⟨h.be, h.pr, h.rr, h.bx, fun i hi => Iu.nil _ _, h.x0, h.lp, h.lq, h.d, h.dx, (fun i y hi e => by cases e), (fun i j y hi hj hn e => by cases e), (fun i hi a ha => by cases ha), (fun b L e => by cases e)⟩
theorem Ty.step {w0 w w1 w2 : World} {x p q : Nat} {s r u : Nat → Nat} {P : Par} {us : Us} {m : Nat} {FP FQ : Nat → Prop} (h : Ty w0 w x p q s r u P us m FP FQ) (hm : m < 2) {s' b' r' : Nat} (k1 : Below w.heap.size w w1) (hs : Sl w1 s' b' p (u m) (fun _ => 0)) (l1 : w.heap.size ≤ s') (l2 : w.heap.size ≤ b') (k2 : Below w1.heap.size w1 w2) (hr : Sr w2 r' q (u m) (.slice none 0 0) (.slice none 0 0) (fun _ => 0) (fl (fun _ => 0)) (fun _ => 0)) (l3 : w1.heap.size ≤ r') :
    ∃ FP' FQ', Ty w0 ((w2.setCell ⟨x, 2 + m, none⟩ (.pointer (some ⟨s', 0, none⟩))).setCell ⟨x, 4 + m, none⟩ (.pointer (some ⟨r', 0, none⟩))) x p q (put s m s') (put r m r') u P us (m + 1) FP' FQ' := by
  obtain ⟨b, F, hp⟩ := h.pr
  have hp1 := (hp.add k1 hs l1 l2).below k2
  rw [put_mk0] at hp1
  have k12 : Below w.heap.size w w2 := k1.trans (k2.mono k1.size)
  have hr1 := (h.rr.below k1).add k2 hr l3
  rw [put_mk0] at hr1
  have G := (grown_setCell' w2 x (2 + m) (.pointer (some ⟨s', 0, none⟩))).trans (grown_setCell' _ x (4 + m) (.pointer (some ⟨r', 0, none⟩)))
  have hxl := h.bx.lt
  have s1 := k1.size
  have s2 := k2.size
  have e0 := h.be.size
  have ss := hs.lt
  have sb := hs.mp.lt
  have dx1 : ¬ (FP x ∨ x = s' ∨ x = b') := by
    rintro (z | z | z)
    · exact h.dx.1 z
    · omega
    · omega
  have dx2 : ¬ (FQ x ∨ x = r') := by
    rintro (z | z)
    · exact h.dx.2 z
    · omega
  have ne : ∀ y, y ≠ x → y < w2.heap.size → ((w2.setCell ⟨x, 2 + m, none⟩ (.pointer (some ⟨s', 0, none⟩))).setCell ⟨x, 4 + m, none⟩ (.pointer (some ⟨r', 0, none⟩))).heap[y]? = w2.heap[y]? := fun y hy hl => G.block y hl (some_ne hy)
  refine ⟨_, _, ⟨h.be.trans ((k12.mono e0).trans (below_of G _ (by omega) (fun k hk => by cases hk; exact h.x0))), ⟨_, F, hp1.of_eq G.size (fun y hy => ne y (fun e => dx1 (e ▸ hy)) (hp1.lt y hy))⟩, hr1.of_eq G.size (fun y hy => ne y (fun e => dx2 (e ▸ hy)) (hr1.lt y hy)), ?_, h.x0, ?_, ?_, ?_, ⟨dx1, dx2⟩⟩⟩
  · rw [← twoM_set p q s r hm]
    exact ((h.bx.of_eq (k12.block x h.bx.lt)).set _ _).set _ _
  · rintro y (z | z | z)
    · exact h.lp y z
    · omega
    · omega
  · rintro y (z | z)
    · exact h.lq y z
    · omega
  · rintro y (z | z | z) (z2 | z2)
    · exact h.d y z z2
    · have := hp.lt y z; omega
    · have := h.rr.lt y z2; omega
    · omega
    · have := h.rr.lt y z2; omega
    · omega
theorem below_box' (w : World) (o : Obj) : Below w.heap.size w (w.alloc o) := (Below.refl _ w).alloc (Nat.le_refl _) _
theorem below_k {G : Nat → Prop} {w w' : World} (k : Kp (fun _ => False) G w w') : Below w.heap.size w w' := k.below _ (Nat.le_refl _) (fun _ z => z.elim)
set_option maxHeartbeats 4000000 in
theorem opened_ok {w : World} {a : Ad} {c : Cf} (hc : Cin w a c) (n : Nat) (hm : may c = true) (hn : n < c.pn) (f : Nat) (hf : f < 256) :
    Calls Tryz.prog 6 #[.agg #[.int .i64 c.F, .int .i64 c.C, .int .i64 c.W, .int .i64 c.S, .int .i64 c.V, .int .i64 c.T, .int .u64 c.k.l1, .int .u64 c.k.llc, .int .u64 c.k.mi, .int .u64 c.k.fa, .int .u64 c.k.st, .int .u64 c.k.di, .int .u64 c.sl, .int .u64 c.pd, .int .u64 c.ft, .slice a.ta c.tn a.tc, .slice a.pa c.pn a.pc], .int .i64 n, .int .u8 f] w fun e w' => ∃ x p q s r us FP FQ, e = .returned (.tuple #[.pointer (some ⟨x, 0, none⟩), .bool true]) ∧ Tz w w' x p q s r (fun i => usv f i) (par c n) us mk0 us mk0 FP FQ (fun _ => .slice none 0 0) (fun _ => []) none := by
  have HB0 := cb_new hc
  have CP : Hid (∀ W, Cin W a c → Calls Tryz.prog 7 #[.agg #[.int .i64 c.F, .int .i64 c.C, .int .i64 c.W, .int .i64 c.S, .int .i64 c.V, .int .i64 c.T, .int .u64 c.k.l1, .int .u64 c.k.llc, .int .u64 c.k.mi, .int .u64 c.k.fa, .int .u64 c.k.st, .int .u64 c.k.di, .int .u64 c.sl, .int .u64 c.pd, .int .u64 c.ft, .slice a.ta c.tn a.tc, .slice a.pa c.pn a.pc], .int .i64 n] W fun e w' => ∃ p F, e = .returned (.tuple #[.pointer (some ⟨p, 0, none⟩), .int .i64 0]) ∧ Po w' F p (par c n) (fun _ => none) ∧ B.Kp (fun _ => False) F W w') := fun W hW => New_p hW n hm hn
  have CR : Hid (∀ W, Cin W a c → Calls Tryz.prog 26 #[.agg #[.int .i64 c.F, .int .i64 c.C, .int .i64 c.W, .int .i64 c.S, .int .i64 c.V, .int .i64 c.T, .int .u64 c.k.l1, .int .u64 c.k.llc, .int .u64 c.k.mi, .int .u64 c.k.fa, .int .u64 c.k.st, .int .u64 c.k.di, .int .u64 c.sl, .int .u64 c.pd, .int .u64 c.ft, .slice a.ta c.tn a.tc, .slice a.pa c.pn a.pc], .int .i64 n] W fun e w' => ∃ p F, e = .returned (.tuple #[.pointer (some ⟨p, 0, none⟩), .int .i64 0]) ∧ Ro w' F p (par c n) (fun _ => none) ∧ B.Kp (fun _ => False) F W w') := fun W hW => rNewP_p hW n hm hn
  have hP : (par c n).Ok := par_ok (may_iff.1 hm) hn
  obtain ⟨ai, hai⟩ := (show ∃ a, Nx (opn (par c n) (fun _ => none) 0) (par c n).o a from by
    have h3 := hP.o3
    refine nx_of_wh (q := 0) (by rw [opn_new]; exact B.St.new _) (by omega) ?_
    rw [opn_new, B.wh_op0]
    have := hP.im
    omega)
  have HAI : Hid (Nx (opn (par c n) (fun _ => none) 0) (par c n).o ai) := hai
  have CU : Hid (∀ (i : Nat), i < 2 → ∀ W, Calls Tryz.prog 12 #[.int .u8 f, .int .i64 i] W fun e w' => e = .returned (.int .u8 (usv f i : Nat)) ∧ w' = W) := fun i hi W => use_ok f hf i (by omega) (by omega) W
  clear hc hm hn hP hai
  obtain ⟨PP, hPP⟩ : ∃ PP, par c n = PP := ⟨_, rfl⟩
  rw [hPP] at CP CR HAI ⊢
  clear hPP
  go_enter Tryz.func6, Tryz.ntmps6
  go_upto_region 1 with fail
  obtain ⟨WB, hW, HB⟩ : ∃ WB, (w.alloc (.cells #[.int .i64 c.F, .int .i64 c.C, .int .i64 c.W, .int .i64 c.S, .int .i64 c.V, .int .i64 c.T, .int .u64 c.k.l1, .int .u64 c.k.llc, .int .u64 c.k.mi, .int .u64 c.k.fa, .int .u64 c.k.st, .int .u64 c.k.di, .int .u64 c.sl, .int .u64 c.pd, .int .u64 c.ft, .slice a.ta c.tn a.tc, .slice a.pa c.pn a.pc] 28)) = WB ∧ Hid (Cb w WB w.heap.size a c) := ⟨_, rfl, HB0⟩
  rw [hW]
  clear hW HB0
  have hld := HB.out.bx.ld
  go_wp2_with (refine wpList_load_at rfl 28 (.tmp 3) rfl _ _ rfl hld ?_)
  refine (CP.out _ HB.out.ci).mono ?_
  rintro e w1 ⟨p, F1, rfl, hp1, k1⟩
  have B1 : Hid (Below WB.heap.size WB w1) := below_k k1
  have HP1 : Hid (Po w1 F1 p PP (fun _ => none)) := hp1
  have L1 : Hid (∀ y, F1 y → WB.heap.size ≤ y) := fun y hy => (k1.new y hy).resolve_left (fun z => z)
  have H1 : Hid (Cb w w1 w.heap.size a c) := HB.out.below B1.out
  clear hld hp1 k1 CP
  have hld := H1.out.bx.ld
  go_wp2_with (refine wpList_load_at rfl 28 (.tmp 3) rfl _ _ rfl hld ?_)
  refine (CR.out _ H1.out.ci).mono ?_
  rintro e w2 ⟨q, F2, rfl, hr2, k2⟩
  have B2 : Hid (Below w1.heap.size w1 w2) := below_k k2
  have HR2 : Hid (Ro w2 F2 q PP (fun _ => none)) := hr2
  have HP2 : Hid (Po w2 F1 p PP (fun _ => none)) := HP1.out.below B2.out
  have L2 : Hid (∀ y, F2 y → w1.heap.size ≤ y) := fun y hy => (k2.new y hy).resolve_left (fun z => z)
  have CI : Hid (Calls _ _ _ _ _) := Image_p HP2.out (cU_none _ _) ai HAI.out
  have L12 : Hid (∀ y, F1 y → ¬ F2 y) := fun y h1 h2 => by
    have := HP1.out.lt y h1
    have := L2.out y h2
    omega
  clear hld hr2 k2 CR HP1 H1
  go_wp2_with fail
  refine CI.out.mono ?_
  rintro e w3 ⟨v3, F3, rfl, _, _, hp3, k3⟩
  have HP3 : Hid (Po w3 F3 p PP (mkI PP (fun _ => none) ai (2 ^ PP.o))) := hp3
  have HR3 : Hid (Ro w3 F2 q PP (fun _ => none)) := HR2.out.kept k3 (fun y hy z => L12.out y z hy)
  have B3 : Hid (Below WB.heap.size WB w3) := (B1.out.trans (B2.out.mono B1.out.size)).trans (k3.below _ (Nat.le_trans B1.out.size B2.out.size) L1.out)
  have L3 : Hid (∀ y, F3 y → WB.heap.size ≤ y) := fun y hy => by
    rcases k3.new y hy with z | z
    · exact L1.out y z
    · exact Nat.le_trans (Nat.le_trans B1.out.size B2.out.size) z
  have L32 : Hid (∀ y, F3 y → ¬ F2 y) := fun y h1 h2 => by
    rcases k3.new y h1 with z | z
    · exact L12.out y z h2
    · have := HR2.out.lt y h2; omega
  have RI : Hid (Calls _ _ _ _ _) := rImage_p HR3.out (cU_none _ _) ai HAI.out
  clear hp3 k3 CI HP2 HR2 L1 L12
  go_wp2_with fail
  refine RI.out.mono ?_
  rintro e w4 ⟨v4, rfl, _, hr4, k4⟩
  have L2' : Hid (∀ y, F2 y → WB.heap.size ≤ y) := fun y hy => Nat.le_trans B1.out.size (L2.out y hy)
  have B4 : Hid (Below WB.heap.size WB w4) := B3.out.trans (k4.below _ B3.out.size L2'.out)
  have HP4 : Hid (Po w4 F3 p PP (mkI PP (fun _ => none) ai (2 ^ PP.o))) := HP3.out.of_eq k4.size (fun y hy => k4.block y (HP3.out.lt y hy) (L32.out y hy))
  have HR4 : Hid (Ro w4 F2 q PP (mkI PP (fun _ => none) ai (2 ^ PP.o))) := hr4
  obtain ⟨us, hus⟩ : ∃ us, mkI PP (fun _ => none) ai (2 ^ PP.o) = us := ⟨_, rfl⟩
  rw [hus] at HP4 HR4
  have HWB : Hid (Below w.heap.size w WB) := HB.out.be
  have HY : Hid (Ty w (w4.alloc (.cells #[.pointer (some ⟨p, 0, none⟩), .pointer (some ⟨q, 0, none⟩), .pointer none, .pointer none, .pointer none, .pointer none, .slice none 0 0, .slice none 0 0] 83)) w4.heap.size p q (fun _ => 0) (fun _ => 0) (fun i => usv f i) PP us 0 F3 F2) := by
    have kb : Below w4.heap.size w4 (w4.alloc (.cells #[.pointer (some ⟨p, 0, none⟩), .pointer (some ⟨q, 0, none⟩), .pointer none, .pointer none, .pointer none, .pointer none, .slice none 0 0, .slice none 0 0] 83)) := below_box' _ _
    have hb4 : Below w.heap.size w w4 := HWB.out.trans (B4.out.mono HWB.out.size)
    refine ⟨hb4.trans (kb.mono hb4.size), ⟨fun _ => 0, F3, HP4.out.below kb, (fun i hi => by omega), (fun i hi => by omega), (fun i j g hi => by omega), (fun i hi => by omega), (fun i j hi => by omega), (fun i j hi => by omega), fun y => ⟨fun z => Or.inl z, fun z => by
      rcases z with z | ⟨i, hi, _⟩
      · exact z
      · omega⟩⟩, ⟨F2, fun _ => .slice none 0 0, fun _ => .slice none 0 0, fun _ _ => 0, HR4.out.below kb, (fun i hi => by omega), (fun i hi => by omega), (fun i j hi => by omega), (fun i hi => by omega), (fun i j g hi => by omega), fun y => ⟨fun z => Or.inl z, fun z => by
      rcases z with z | ⟨i, hi, _⟩
      · exact z
      · omega⟩⟩, heap_alloc_last w4 _, hb4.size, fun y hy => Nat.le_trans HWB.out.size (L3.out y hy), fun y hy => Nat.le_trans HWB.out.size (L2'.out y hy), L32.out, fun z => ?_, fun z => ?_⟩
    · have := HP4.out.lt _ z; omega
    · have := HR4.out.lt _ z; omega
  clear hr4 k4 RI HP3 HR3 hus HP4 HR4 L2 L2' L3 L32 B1 B2 B3 B4 HB HAI
  go_wp2
  generalize hWW : (w4.alloc (.cells #[.pointer (some ⟨p, 0, none⟩), .pointer (some ⟨q, 0, none⟩), .pointer none, .pointer none, .pointer none, .pointer none, .slice none 0 0, .slice none 0 0] 83)) = WW at *
  generalize hxx : w4.heap.size = x at *
  clear hWW hxx
  go_loopw [13] (fun z wr => ∃ (m : Nat) (s r : Nat → Nat) (FP FQ : Nat → Prop), z = .int .i64 m ∧ m ≤ 2 ∧ Ty w wr x p q s r (fun i => usv f i) PP us m FP FQ) (fun z _ => 2 - (B.iv z).toNat)
  case atStart => exact ⟨0, _, _, _, _, rfl, by omega, HY.out⟩
  case round =>
    clear HY
    obtain ⟨m, s, r, FP, FQ, rfl, hm, hY⟩ := hrel
    have HY : Hid (Ty w wr x p q s r (fun i => usv f i) PP us m FP FQ) := hY
    clear hY
    by_cases hm2 : m < 2
    · have hmI : (m : Int) < 2 := by omega
      have hm0 : (0 : Int) ≤ (m : Int) := by omega
      obtain ⟨b, F, hp⟩ := HY.out.pr
      have CS : Hid (Calls _ _ _ _ _) := SNew_s hp.po (usv_ok f m)
      have C1 : Hid (∀ W, Calls Tryz.prog 12 #[.int .u8 f, .int .i64 m] W fun e w' => e = .returned (.int .u8 (usv f m : Nat)) ∧ w' = W) := CU.out m hm2
      clear hp
      go_wp2_with fail
      refine (C1.out _).mono ?_
      rintro e w5 ⟨rfl, hw⟩
      obtain rfl := hw.symm
      clear hw
      go_wp2_with fail
      refine CS.out.mono ?_
      rintro e w5 ⟨s', b', rfl, hs5, l1, l2, k5⟩
      have HS5 : Hid (Sl w5 s' b' p (usv f m) (fun _ => 0)) := hs5
      have K5 : Hid (Below wr.heap.size wr w5) := k5
      obtain ⟨FR, hR5⟩ := (HY.out.rr.below k5).ro
      have CN : Hid (Calls _ _ _ _ _) := rsNew_s hR5 (usv_ok f m)
      clear hs5 k5 hR5 CS
      go_wp2_with fail
      refine (C1.out _).mono ?_
      rintro e w6 ⟨rfl, hw⟩
      obtain rfl := hw.symm
      clear hw
      go_wp2_with fail
      refine CN.out.mono ?_
      rintro e w6 ⟨r', rfl, hr6, l3, k6⟩
      obtain ⟨FP', FQ', hst⟩ := HY.out.step hm2 K5.out HS5.out l1 l2 k6 hr6 l3
      have HST : Hid (Ty w _ x p q (put s m s') (put r m r') (fun i => usv f i) PP us (m + 1) FP' FQ') := hst
      have kk6 : Below wr.heap.size wr w6 := K5.out.trans (k6.mono K5.out.size)
      have hbx := HY.out.bx.of_eq (kk6.block x HY.out.bx.lt)
      have z2 := hbx.frozen (2 + m)
      have z4 := hbx.frozen (4 + m)
      have c2 := (hbx.cell (2 + m)).trans (twoM_get p q s r hm2).1
      have c4 := (hbx.cell (4 + m)).trans (twoM_get p q s r hm2).2
      clear hst hr6 l1 l2 l3 k6 kk6 hbx CN C1 HS5 K5 HY
      go_wp2
      go_roundw
      case rel => exact ⟨m + 1, _, _, _, _, by go_num, by omega, HST.out⟩
      case measure => simp [B.iv]; omega
    · obtain rfl : m = 2 := by omega
      have HT : Hid (Tz w wr x p q s r (fun i => usv f i) PP us mk0 us mk0 FP FQ (fun _ => .slice none 0 0) (fun _ => []) none) := HY.out.tz
      rw [show ((2 : Nat) : Int) = 2 from rfl]
      go_wp2
      go_ret2
      exact ⟨x, p, q, s, r, us, FP, FQ, rfl, HT.out⟩
end Go.Proofs.YtdempgjhjcjklaaGreat.P
namespace Go.Proofs.YtdempgjhjcjklaaGreat.P
open B Go.ChangeShapes Go.WideShapes Go.ChangeAt Go.RowKit
set_option linter.unusedVariables false
set_option maxRecDepth 8192

theorem opened_no {w : World} {a : Ad} {c : Cf} (hc : Cin w a c) (n : Int) (f : Nat) (he : fe c n ≠ 0) : Calls Tryz.prog 6 #[.agg #[.int .i64 c.F, .int .i64 c.C, .int .i64 c.W, .int .i64 c.S, .int .i64 c.V, .int .i64 c.T, .int .u64 c.k.l1, .int .u64 c.k.llc, .int .u64 c.k.mi, .int .u64 c.k.fa, .int .u64 c.k.st, .int .u64 c.k.di, .int .u64 c.sl, .int .u64 c.pd, .int .u64 c.ft, .slice a.ta c.tn a.tc, .slice a.pa c.pn a.pc], .int .i64 n, .int .u8 f] w (One (.tuple #[.pointer none, .bool false]) w) := by
  have HB0 := cb_new hc
  have CP : Hid (∀ W, Cin W a c → Calls Tryz.prog 7 #[.agg #[.int .i64 c.F, .int .i64 c.C, .int .i64 c.W, .int .i64 c.S, .int .i64 c.V, .int .i64 c.T, .int .u64 c.k.l1, .int .u64 c.k.llc, .int .u64 c.k.mi, .int .u64 c.k.fa, .int .u64 c.k.st, .int .u64 c.k.di, .int .u64 c.sl, .int .u64 c.pd, .int .u64 c.ft, .slice a.ta c.tn a.tc, .slice a.pa c.pn a.pc], .int .i64 n] W fun e w' => e = .returned (.tuple #[.pointer none, .int .i64 (fe c n)]) ∧ Below W.heap.size W w') := fun W hW => New_no hW n he
  have CR : Hid (∀ W, Cin W a c → Calls Tryz.prog 26 #[.agg #[.int .i64 c.F, .int .i64 c.C, .int .i64 c.W, .int .i64 c.S, .int .i64 c.V, .int .i64 c.T, .int .u64 c.k.l1, .int .u64 c.k.llc, .int .u64 c.k.mi, .int .u64 c.k.fa, .int .u64 c.k.st, .int .u64 c.k.di, .int .u64 c.sl, .int .u64 c.pd, .int .u64 c.ft, .slice a.ta c.tn a.tc, .slice a.pa c.pn a.pc], .int .i64 n] W fun e w' => e = .returned (.tuple #[.pointer none, .int .i64 (fe c n)]) ∧ Below W.heap.size W w') := fun W hW => rNewP_no hW n he
  have heB : (fe c n != 0) = true := by simp [he]
  generalize hfe : fe c n = e0 at *
  clear hc hfe
  go_enter Tryz.func6, Tryz.ntmps6
  go_upto_region 1 with fail
  obtain ⟨WB, hW, HB⟩ : ∃ WB, (w.alloc (.cells #[.int .i64 c.F, .int .i64 c.C, .int .i64 c.W, .int .i64 c.S, .int .i64 c.V, .int .i64 c.T, .int .u64 c.k.l1, .int .u64 c.k.llc, .int .u64 c.k.mi, .int .u64 c.k.fa, .int .u64 c.k.st, .int .u64 c.k.di, .int .u64 c.sl, .int .u64 c.pd, .int .u64 c.ft, .slice a.ta c.tn a.tc, .slice a.pa c.pn a.pc] 28)) = WB ∧ Hid (Cb w WB w.heap.size a c) := ⟨_, rfl, HB0⟩
  rw [hW]
  clear hW HB0
  have hld := HB.out.bx.ld
  go_wp2_with (refine wpList_load_at rfl 28 (.tmp 3) rfl _ _ rfl hld ?_)
  refine (CP.out _ HB.out.ci).mono ?_
  rintro e w1 ⟨rfl, k1⟩
  have H1 : Hid (Cb w w1 w.heap.size a c) := HB.out.below k1
  clear hld k1 CP HB
  have hld := H1.out.bx.ld
  go_wp2_with (refine wpList_load_at rfl 28 (.tmp 3) rfl _ _ rfl hld ?_)
  refine (CR.out _ H1.out.ci).mono ?_
  rintro e w2 ⟨rfl, k2⟩
  have H2 : Hid (Below w.heap.size w w2) := (H1.out.below k2).be
  clear hld k2 CR H1
  go_wp2
  go_ret2
  exact ⟨rfl, H2.out⟩
set_option maxHeartbeats 4000000 in
theorem plays_no {w : World} {a : Ad} {c : Cf} (hc : Cin w a c) (n : Int) (f : Nat) (he : fe c n ≠ 0) {la : Option Addr} {len lc : Nat} : Calls Tryz.prog 3 #[.agg #[.int .i64 c.F, .int .i64 c.C, .int .i64 c.W, .int .i64 c.S, .int .i64 c.V, .int .i64 c.T, .int .u64 c.k.l1, .int .u64 c.k.llc, .int .u64 c.k.mi, .int .u64 c.k.fa, .int .u64 c.k.st, .int .u64 c.k.di, .int .u64 c.sl, .int .u64 c.pd, .int .u64 c.ft, .slice a.ta c.tn a.tc, .slice a.pa c.pn a.pc, .int .i64 n, .int .u8 f], .slice la len lc] w (One (.bool true) w) := by
  have HB0 : Hid (Bp (w.alloc (.cells #[.int .i64 c.F, .int .i64 c.C, .int .i64 c.W, .int .i64 c.S, .int .i64 c.V, .int .i64 c.T, .int .u64 c.k.l1, .int .u64 c.k.llc, .int .u64 c.k.mi, .int .u64 c.k.fa, .int .u64 c.k.st, .int .u64 c.k.di, .int .u64 c.sl, .int .u64 c.pd, .int .u64 c.ft, .slice a.ta c.tn a.tc, .slice a.pa c.pn a.pc, .int .i64 n, .int .u8 f] 30)) w.heap.size a c n f) := bp_new hc n f
  have HW0 : Hid (Below w.heap.size w (w.alloc (.cells #[.int .i64 c.F, .int .i64 c.C, .int .i64 c.W, .int .i64 c.S, .int .i64 c.V, .int .i64 c.T, .int .u64 c.k.l1, .int .u64 c.k.llc, .int .u64 c.k.mi, .int .u64 c.k.fa, .int .u64 c.k.st, .int .u64 c.k.di, .int .u64 c.sl, .int .u64 c.pd, .int .u64 c.ft, .slice a.ta c.tn a.tc, .slice a.pa c.pn a.pc, .int .i64 n, .int .u8 f] 30))) := below_box' _ _
  have C0 : Hid (∀ W, Calls Tryz.prog 8 #[] W (One (.bool true) W)) := works_any
  have CO : Hid (∀ W, Cin W a c → Calls Tryz.prog 6 #[.agg #[.int .i64 c.F, .int .i64 c.C, .int .i64 c.W, .int .i64 c.S, .int .i64 c.V, .int .i64 c.T, .int .u64 c.k.l1, .int .u64 c.k.llc, .int .u64 c.k.mi, .int .u64 c.k.fa, .int .u64 c.k.st, .int .u64 c.k.di, .int .u64 c.sl, .int .u64 c.pd, .int .u64 c.ft, .slice a.ta c.tn a.tc, .slice a.pa c.pn a.pc], .int .i64 n, .int .u8 f] W (One (.tuple #[.pointer none, .bool false]) W)) := fun W hW => opened_no hW n f he
  have CN : Hid (∀ W, Cin W a c → Calls Tryz.prog 7 #[.agg #[.int .i64 c.F, .int .i64 c.C, .int .i64 c.W, .int .i64 c.S, .int .i64 c.V, .int .i64 c.T, .int .u64 c.k.l1, .int .u64 c.k.llc, .int .u64 c.k.mi, .int .u64 c.k.fa, .int .u64 c.k.st, .int .u64 c.k.di, .int .u64 c.sl, .int .u64 c.pd, .int .u64 c.ft, .slice a.ta c.tn a.tc, .slice a.pa c.pn a.pc], .int .i64 n] W fun e w' => e = .returned (.tuple #[.pointer none, .int .i64 (fe c n)]) ∧ Below W.heap.size W w') := fun W hW => New_no hW n he
  have heB : (fe c n != 0) = true := by simp [he]
  generalize hfe : fe c n = e0 at *
  clear hc hfe
  go_enter Tryz.func3, Tryz.ntmps3
  go_upto_region 1 with fail
  obtain ⟨WB, hW, HB, HWB⟩ : ∃ WB, (w.alloc (.cells #[.int .i64 c.F, .int .i64 c.C, .int .i64 c.W, .int .i64 c.S, .int .i64 c.V, .int .i64 c.T, .int .u64 c.k.l1, .int .u64 c.k.llc, .int .u64 c.k.mi, .int .u64 c.k.fa, .int .u64 c.k.st, .int .u64 c.k.di, .int .u64 c.sl, .int .u64 c.pd, .int .u64 c.ft, .slice a.ta c.tn a.tc, .slice a.pa c.pn a.pc, .int .i64 n, .int .u8 f] 30)) = WB ∧ Hid (Bp WB w.heap.size a c n f) ∧ Hid (Below w.heap.size w WB) := ⟨_, rfl, HB0, HW0⟩
  rw [hW]
  clear hW HB0 HW0
  have hld := HB.out.sv.ld
  have hcn := HB.out.cn
  have hcf := HB.out.cf
  go_wp2_with (refine wpList_load_at rfl 28 (.tmp 11) rfl _ _ rfl hld ?_)
  refine (CO.out _ HB.out.ci).mono ?_
  rintro e w1 ⟨rfl, k1⟩
  have B1 : Hid (Bp w1 w.heap.size a c n f) := HB.out.below k1
  have H1 : Hid (Below w.heap.size w w1) := HWB.out.trans (k1.mono HWB.out.size)
  clear hld hcn hcf k1 HB CO
  have hld := B1.out.sv.ld
  have hcn := B1.out.cn
  go_wp2_with (refine wpList_load_at rfl 28 (.tmp 23) rfl _ _ rfl hld ?_)
  refine (CN.out _ B1.out.ci).mono ?_
  rintro e w2 ⟨rfl, k2⟩
  have H2 : Hid (Below w.heap.size w w2) := H1.out.trans (k2.mono H1.out.size)
  clear hld hcn k2 CN B1 H1
  go_wp2_with fail
  refine (C0.out _).mono ?_
  rintro e w3 ⟨rfl, k3⟩
  have H3 : Hid (Below w.heap.size w w3) := H2.out.trans (k3.mono H2.out.size)
  clear k3 H2 C0
  go_wp2
  go_ret
  exact ⟨rfl, H3.out⟩
set_option maxHeartbeats 4000000 in
theorem plays_may {w : World} {a : Ad} {c : Cf} (hc : Cin w a c) (n : Nat) (hm : may c = true) (hn : n < c.pn) (f : Nat) (hf : f < 256) {la : Option Addr} {len lc : Nat} {K W A : Nat → Int} (hl : len ≤ 9223372036854775807) (hd : Dol w la len K W A) :
    Calls Tryz.prog 3 #[.agg #[.int .i64 c.F, .int .i64 c.C, .int .i64 c.W, .int .i64 c.S, .int .i64 c.V, .int .i64 c.T, .int .u64 c.k.l1, .int .u64 c.k.llc, .int .u64 c.k.mi, .int .u64 c.k.fa, .int .u64 c.k.st, .int .u64 c.k.di, .int .u64 c.sl, .int .u64 c.pd, .int .u64 c.ft, .slice a.ta c.tn a.tc, .slice a.pa c.pn a.pc, .int .i64 n, .int .u8 f], .slice la len lc] w (One (.bool true) w) := by
  have HB0 : Hid (Bp (w.alloc (.cells #[.int .i64 c.F, .int .i64 c.C, .int .i64 c.W, .int .i64 c.S, .int .i64 c.V, .int .i64 c.T, .int .u64 c.k.l1, .int .u64 c.k.llc, .int .u64 c.k.mi, .int .u64 c.k.fa, .int .u64 c.k.st, .int .u64 c.k.di, .int .u64 c.sl, .int .u64 c.pd, .int .u64 c.ft, .slice a.ta c.tn a.tc, .slice a.pa c.pn a.pc, .int .i64 n, .int .u8 f] 30)) w.heap.size a c n f) := bp_new hc n f
  have HW0 : Hid (Below w.heap.size w (w.alloc (.cells #[.int .i64 c.F, .int .i64 c.C, .int .i64 c.W, .int .i64 c.S, .int .i64 c.V, .int .i64 c.T, .int .u64 c.k.l1, .int .u64 c.k.llc, .int .u64 c.k.mi, .int .u64 c.k.fa, .int .u64 c.k.st, .int .u64 c.k.di, .int .u64 c.sl, .int .u64 c.pd, .int .u64 c.ft, .slice a.ta c.tn a.tc, .slice a.pa c.pn a.pc, .int .i64 n, .int .u8 f] 30))) := below_box' _ _
  have C0 : Hid (∀ W, Calls Tryz.prog 8 #[] W (One (.bool true) W)) := works_any
  have HD : Hid (Dol w la len K W A) := hd
  have CO : Hid (∀ W, Cin W a c → Calls Tryz.prog 6 #[.agg #[.int .i64 c.F, .int .i64 c.C, .int .i64 c.W, .int .i64 c.S, .int .i64 c.V, .int .i64 c.T, .int .u64 c.k.l1, .int .u64 c.k.llc, .int .u64 c.k.mi, .int .u64 c.k.fa, .int .u64 c.k.st, .int .u64 c.k.di, .int .u64 c.sl, .int .u64 c.pd, .int .u64 c.ft, .slice a.ta c.tn a.tc, .slice a.pa c.pn a.pc], .int .i64 n, .int .u8 f] W fun e w' => ∃ x p q s r us FP FQ, e = .returned (.tuple #[.pointer (some ⟨x, 0, none⟩), .bool true]) ∧ Tz W w' x p q s r (fun i => usv f i) (par c n) us mk0 us mk0 FP FQ (fun _ => .slice none 0 0) (fun _ => []) none) := fun W hW => opened_ok hW n hm hn f hf
  clear hc hm hn hd
  go_enter Tryz.func3, Tryz.ntmps3
  go_upto_region 1 with fail
  obtain ⟨WB, hW, HB, HWB⟩ : ∃ WB, (w.alloc (.cells #[.int .i64 c.F, .int .i64 c.C, .int .i64 c.W, .int .i64 c.S, .int .i64 c.V, .int .i64 c.T, .int .u64 c.k.l1, .int .u64 c.k.llc, .int .u64 c.k.mi, .int .u64 c.k.fa, .int .u64 c.k.st, .int .u64 c.k.di, .int .u64 c.sl, .int .u64 c.pd, .int .u64 c.ft, .slice a.ta c.tn a.tc, .slice a.pa c.pn a.pc, .int .i64 n, .int .u8 f] 30)) = WB ∧ Hid (Bp WB w.heap.size a c n f) ∧ Hid (Below w.heap.size w WB) := ⟨_, rfl, HB0, HW0⟩
  rw [hW]
  clear hW HB0 HW0
  have hld := HB.out.sv.ld
  have hcn := HB.out.cn
  have hcf := HB.out.cf
  go_wp2_with (refine wpList_load_at rfl 28 (.tmp 11) rfl _ _ rfl hld ?_)
  refine (CO.out _ HB.out.ci).mono ?_
  rintro e w1 ⟨x, p, q, s, r, us1, FP1, FQ1, rfl, h1⟩
  have H1 : Hid (Tz WB w1 x p q s r (fun i => usv f i) (par c n) us1 mk0 us1 mk0 FP1 FQ1 (fun _ => .slice none 0 0) (fun _ => []) none) := h1
  clear hld hcn hcf h1 CO HB
  obtain ⟨PP, hPP⟩ : ∃ PP, par c n = PP := ⟨_, rfl⟩
  rw [hPP] at H1
  clear hPP
  go_wp2
  go_loopw [9] (fun z wr => ∃ (k : Nat) (us : Us) (mk : Nat → Ms) (FP FQ : Nat → Prop) (v : Nat → Value) (l : Nat → List Int), z = .int .i64 k ∧ k ≤ len ∧ k ≤ 100 ∧ Tz WB wr x p q s r (fun i => usv f i) PP us mk us mk FP FQ v l none ∧ ∀ i, i < 2 → (l i).length ≤ k) (fun z _ => 100 - (B.iv z).toNat)
  case atStart => exact ⟨0, _, _, _, _, _, _, rfl, by omega, by omega, H1.out, fun i hi => by simp⟩
  case round =>
    clear H1
    obtain ⟨k, us, mk, FP, FQ, v, l, rfl, hk1, hk2, h1, h2⟩ := hrel
    have HT : Hid (Tz WB wr x p q s r (fun i => usv f i) PP us mk us mk FP FQ v l none) := h1
    have HL : Hid (∀ i, i < 2 → (l i).length ≤ k) := h2
    clear h1 h2
    by_cases hkl : k < len ∧ k < 100
    · obtain ⟨hkl1, hkl2⟩ := hkl
      have hkI : (k : Int) < (len : Int) := by omega
      have hkI2 : (k : Int) < 100 := by omega
      obtain ⟨db, doff, rfl, dc0, dc1, dc2⟩ := HD.out.at' (HWB.out.trans (HT.out.be.mono HWB.out.size)) hkl1
      obtain ⟨r1, r2, r3, r4, r5, r6⟩ := HD.out.r k
      generalize K k = kk at *
      generalize W k = ww at *
      generalize hAA : A k = aa at *
      obtain ⟨aa, rfl⟩ := Int.eq_ofNat_of_zero_le r5
      have CD : Hid (Calls _ _ _ _ _) := done_ok HT.out (N := k) (by omega) HL.out kk ww aa r1 r2 r3 r4 (by omega)
      clear r1 r2 r3 r4 r5 r6 HT HL hAA
      go_wp2_with fail
      refine CD.out.mono ?_
      rintro e w2 ⟨rfl, us2, mk2, FP2, FQ2, v2, l2, h3, h4⟩
      have HT2 : Hid (Tz WB w2 x p q s r (fun i => usv f i) PP us2 mk2 us2 mk2 FP2 FQ2 v2 l2 none) := h3
      have HL2 : Hid (∀ i, i < 2 → (l2 i).length ≤ k + 1) := h4
      have CS : Hid (Calls _ _ _ _ _) := stand_ok h3
      clear h3 h4 CD dc0 dc1 dc2
      go_wp2_with fail
      refine CS.out.mono ?_
      rintro e w3 ⟨rfl, k3⟩
      have HT3 : Hid (Tz WB w3 x p q s r (fun i => usv f i) PP us2 mk2 us2 mk2 FP2 FQ2 v2 l2 none) := HT2.out.of_eq k3
      clear k3 CS HT2
      go_wp2
      go_roundw
      case rel => exact ⟨k + 1, _, _, _, _, _, _, by go_num, by omega, by omega, HT3.out, HL2.out⟩
      case measure => simp [B.iv]; omega
    · have HBW : Hid (Below w.heap.size w wr) := HWB.out.trans (HT.out.be.mono HWB.out.size)
      by_cases hkl1 : k < len
      · have hkI : (k : Int) < (len : Int) := by omega
        have hkI2 : ¬ (k : Int) < 100 := by omega
        go_wp2_with fail
        refine (C0.out _).mono ?_
        rintro e w3 ⟨rfl, k3⟩
        have H3 : Hid (Below w.heap.size w w3) := HBW.out.trans (k3.mono HBW.out.size)
        clear k3
        go_wp2
        go_ret
        exact ⟨rfl, H3.out⟩
      · have hkI : ¬ (k : Int) < (len : Int) := by omega
        go_wp2_with fail
        refine (C0.out _).mono ?_
        rintro e w3 ⟨rfl, k3⟩
        have H3 : Hid (Below w.heap.size w w3) := HBW.out.trans (k3.mono HBW.out.size)
        clear k3
        go_wp2
        go_ret
        exact ⟨rfl, H3.out⟩
theorem SlabPlays_walk {w : World} {a : Ad} {c : Cf} (hc : Cin w a c) (n : Int) (f : Nat) (hf : f < 256) {la : Option Addr} {len lc : Nat} {K W A : Nat → Int} (hl : len ≤ 9223372036854775807) (hd : Dol w la len K W A) :
    Calls Tryz.prog 3 #[.agg #[.int .i64 c.F, .int .i64 c.C, .int .i64 c.W, .int .i64 c.S, .int .i64 c.V, .int .i64 c.T, .int .u64 c.k.l1, .int .u64 c.k.llc, .int .u64 c.k.mi, .int .u64 c.k.fa, .int .u64 c.k.st, .int .u64 c.k.di, .int .u64 c.sl, .int .u64 c.pd, .int .u64 c.ft, .slice a.ta c.tn a.tc, .slice a.pa c.pn a.pc, .int .i64 n, .int .u8 f], .slice la len lc] w (One (.bool true) w) := by
  by_cases he : fe c n = 0
  · obtain ⟨hm, m, rfl, hmn⟩ := fe_zero he
    exact plays_may hc m hm hmn f hf hl hd
  · exact plays_no hc n f he
end Go.Proofs.YtdempgjhjcjklaaGreat.P
