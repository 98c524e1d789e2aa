/- What the document's core's calls give back and leave; no condition but those named. -/
import Derived.Test.YtokaohlgncmoaaaGreatWJf
import Derived.Test.YtokaohlgncmoaaaGreatWRx
import Derived.Test.YtokaohlgncmoaaaGreatWWa
namespace Go.Proofs.YtokaohlgncmoaaaGreat.E
open Go.ChangeShapes Go.WideShapes Go.ChangeAt Go.RowKit
set_option linter.unusedVariables false
set_option maxRecDepth 8192

theorem Cr.e0 {L : Nat → Value} {w : World} {X : Nat → Prop} {p : Nat} {h : Hw} {s : Sc} (K : Cr (rK L) w X p h s) : w.cell? ⟨p, 0, none⟩ = some (.int .i64 h.n) ∧ p < w.heap.size := by
  obtain ⟨G, P, c, rfl, rfl⟩ := K
  exact ⟨c.d0, c.st.lt⟩
theorem there_ok {L : Nat → Value} {w : World} {X : Nat → Prop} {p : Nat} {h : Hw} {s : Sc} (K : Cr (rK L) w X p h s) (pa : Nat) (hp : pa < 18446744073709551616) :
    Calls Tryz.prog 80 #[.pointer (some ⟨p, 0, none⟩), .int .u64 pa] w fun e w' => e = .returned (.bool (decide (pa < h.n * 256))) ∧ w' = w := by
  have hn := K.ok.n2
  obtain ⟨c0, _⟩ := K.e0
  obtain ⟨M, hM⟩ : ∃ M, h.n * 256 = M := ⟨_, rfl⟩
  have hM1 : (h.n : Int) * 256 = (M : Int) := by omega
  rw [hM]
  clear K
  go_enter Tryz.func80, Tryz.ntmps80
  go_wp2
  go_ret
  exact ⟨ret_bool (by simp), rfl⟩
theorem frame_any {L : Nat → Value} {w : World} {X : Nat → Prop} {p : Nat} {h : Hw} {s : Sc} (K : Cr (rK L) w X p h s) (a : Int) :
    Calls Tryz.prog 82 #[.pointer (some ⟨p, 0, none⟩), .int .i64 a] w fun e w' => e = .returned (.bool (decide (0 ≤ a ∧ a < h.n))) ∧ w' = w := by
  obtain ⟨c0, _⟩ := K.e0
  clear K
  by_cases h0 : 0 ≤ a
  · go_enter Tryz.func82, Tryz.ntmps82
    go_wp2
    go_ret
    exact ⟨ret_bool (by simp [h0]), rfl⟩
  · go_enter Tryz.func82, Tryz.ntmps82
    go_wp2
    go_ret
    exact ⟨ret_bool (by simp; omega), rfl⟩
theorem rSettle_ok {L : Nat → Value} {w : World} {X : Nat → Prop} {p : Nat} {h : Hw} {s : Sc} (K : Cr (rK L) w X p h s) :
    Calls Tryz.prog 12 #[.pointer (some ⟨p, 0, none⟩)] w fun e w' => e = .returned (.tuple #[.int .u64 s.z, .int .i64 0]) ∧ Gv (rK L) w X p h { s with z := 0 } w' := by
  obtain ⟨G, P, c, rfl, rfl⟩ := K
  have cz := c.d22
  have fz := c.st.frozen 22
  have FIN : Hid (Gv (rK L) w (un G) P.h h { s with z := 0 } (w.setCell ⟨P.h, 22, none⟩ (.int .u64 0))) := by
    obtain ⟨c', k'⟩ := c.t0 0 (by decide) (by decide)
    exact c'.gv k'
  clear c
  go_enter Tryz.func12, Tryz.ntmps12
  go_wp2
  go_ret2
  exact ⟨rfl, FIN.out⟩
theorem rCharge_big {w : World} (p : Nat) (n : Int) (hn : 4294967296 < n) :
    Calls Tryz.prog 45 #[.pointer (some ⟨p, 0, none⟩), .int .u64 n] w fun e w' => e = .returned (.int .i64 2) ∧ w' = w := by
  go_enter Tryz.func45, Tryz.ntmps45
  go_wp2
  go_ret
  exact ⟨rfl, rfl⟩
theorem rCharge_ok {L : Nat → Value} {w : World} {X : Nat → Prop} {p : Nat} {h : Hw} {s : Sc} (K : Cr (rK L) w X p h s) (n : Int) (h0 : 0 ≤ n) (hn : n ≤ 4294967296) :
    Calls Tryz.prog 45 #[.pointer (some ⟨p, 0, none⟩), .int .u64 n] w fun e w' => e = .returned (.int .i64 0) ∧ Gv (rK L) w X p h { s with z := IntKind.u64.wrap (s.z + n) } w' := by
  obtain ⟨G, P, c, rfl, rfl⟩ := K
  have cz := c.d22
  have fz := c.st.frozen 22
  have FIN : Hid (Gv (rK L) w (un G) P.h h { s with z := IntKind.u64.wrap (s.z + n) } (w.setCell ⟨P.h, 22, none⟩ (.int .u64 (IntKind.u64.wrap (s.z + n))))) := by
    obtain ⟨c', k'⟩ := c.t0 (IntKind.u64.wrap (s.z + n)) (wrap_u64 _).1 (wrap_u64 _).2
    exact c'.gv k'
  clear c
  go_enter Tryz.func45, Tryz.ntmps45
  go_wp2
  go_ret
  exact ⟨rfl, FIN.out⟩
theorem rLeave_ok {L : Nat → Value} {w : World} {X : Nat → Prop} {p : Nat} {h : Hw} {s : Sc} (K : Cr (rK L) w X p h s) :
    Calls Tryz.prog 46 #[.pointer (some ⟨p, 0, none⟩)] w fun e w' => e = .returned (.tuple #[.int .u64 (lvC h s), .int .i64 0]) ∧ Gv (rK L) w X p h (lft s) w' := by
  obtain ⟨G, P, c, rfl, rfl⟩ := K
  have hok := c.ok
  have c3 := c.d20
  have HC : Hid (Calls _ _ _ _ _) := C.rFlush_ok c.l1
  obtain ⟨bb, V, hP⟩ := c.l1.parts
  have hcnt := hP.c.cnt h.s (Nat.le_refl _)
  obtain ⟨v, hPt⟩ := c.tl
  have hlen := hPt.c.len
  have HLV : Hid (lvC h s = ((C.cnt s.a h.s : Int) + s.l.length) * h.co.st) := rfl
  have HCw : Hid (Cw (rK L) w G P h s) := c
  have hok' := hok.t2
  have HO : Hid (okC h.co = true) := hok.co
  clear c hP hPt hok
  generalize C.cnt s.a h.s = n1 at *
  obtain ⟨n2, hn2⟩ : ∃ n2, s.l.length = n2 := ⟨_, rfl⟩
  have HN2 : Hid (s.l.length = n2) := hn2
  rw [hn2] at HLV hlen
  clear hn2
  go_enter Tryz.func46, Tryz.ntmps46
  go_wp2_with (first
    | (go_at_call 85; refine HC.out.mono ?_; rintro e w1 ⟨rfl, X1, ca1, kp1⟩; obtain ⟨G1, cw1, kg1⟩ := HCw.out.t4 ca1 kp1; have H1 : Hid (Cw (rK L) w1 G1 P h { s with a := fun _ => [] }) := cw1; have K1 : Hid (C.Kp (un G) (un G1) _ w1) := kg1; have d1 := cw1.d18; clear ca1 kp1 cw1 kg1)
    | (go_at_call 86; refine (T.REmpty_ok H1.out.tl).mono ?_; rw [show ({ s with a := fun _ => [] } : Sc).l.length = n2 from HN2.out]; rintro e w2 ⟨rfl, lv2⟩; obtain ⟨G2, cw2, kg2⟩ := H1.out.t2 lv2; have H2 : Hid (Cw (rK L) w2 G2 P h (lft s)) := cw2; have K2 : Hid (C.Kp (un G) (un G2) _ w2) := K1.out.trans kg2; obtain ⟨e7, e8, e9, e10, e11, e12⟩ := cw2.dc; clear lv2 cw2 kg2)
    | (go_at_call 87; refine (rSwitch_ok h.co HO.out (n1 : Int) (n2 : Int) (by unfold okL; simp [inB]; omega) _).mono ?_; rintro e w3 ⟨rfl, k3⟩; have H3 : Hid (Gv (rK L) _ (un G) P.h h (lft s) w3) := (H2.out.gv K2.out).below k3))
  go_ret2
  exact ⟨by rw [HLV.out]; rfl, H3.out⟩
theorem rLines_ok {L : Nat → Value} {w : World} {X : Nat → Prop} {p : Nat} {h : Hw} {s : Sc} (K : Cr (rK L) w X p h s) :
    Calls Tryz.prog 15 #[.pointer (some ⟨p, 0, none⟩)] w fun e w' => ∃ v, e = .returned v ∧ C.Lns w.heap.size w' v (C.lns s.b (h.c * 16)) ∧ Below w.heap.size w w' := by
  obtain ⟨G, P, c, rfl, rfl⟩ := K
  have c4 := c.d21
  have HC : Hid (Calls _ _ _ _ _) := C.rLines_ok c.ll
  clear c
  go_enter Tryz.func15, Tryz.ntmps15
  go_wp2_with (first | (go_at_call 61; refine HC.out.mono ?_; rintro e w1 ⟨v, rfl, hl, hb⟩; have HL : Hid (C.Lns _ w1 v (C.lns s.b (h.c * 16))) := hl; have HB : Hid (Below _ _ w1) := hb; clear hl hb))
  go_ret
  exact ⟨v, rfl, HL.out, HB.out⟩
theorem Gv.rone {L : Nat → Value} {w w1 : World} {X : Nat → Prop} {p : Nat} {h : Hw} {s : Sc} (K : Gv (rK L) w X p h s w1) (pa : Nat) (hp : pa < h.n * 256) :
    Calls Tryz.prog 81 #[.pointer (some ⟨p, 0, none⟩), .int .u64 pa] w1 fun e w' => e = .returned (.agg #[.bool (hA h s pa), .bool (hB h s pa)]) ∧ Gv (rK L) w X p h (tou h s pa) w' := by
  obtain ⟨X1, c, k⟩ := K
  refine (one_ok c pa hp).mono ?_
  rintro e w' ⟨rfl, g⟩
  exact ⟨rfl, g.pre k⟩
theorem sw1_eq (h : Hw) (s : Sc) (a : Nat) : sw1 h s a = tw h s (fun i => a * 256 + i * 16) 16 := tw_congr (fun i _ => by unfold swF; simp)
theorem Cr.rmemt {L : Nat → Value} {w : World} {X : Nat → Prop} {p : Nat} {h : Hw} {s : Sc} (K : Cr (rK L) w X p h s) : ∃ pm gm, w.cell? ⟨p, 17, none⟩ = some (.pointer (some ⟨pm, 0, none⟩)) ∧ F.Mem w pm gm h.n s.m ∧ X gm ∧ ∀ w' m', F.Mem w' pm gm h.n m' → w.grownBy w' (some gm) → Gv (rK L) w X p h { s with m := m' } w' := by
  obtain ⟨G, P, c, rfl, rfl⟩ := K
  refine ⟨_, _, c.d17, c.mm, ⟨1, c.gg⟩, fun w' m' hM hg => ?_⟩
  obtain ⟨c', k'⟩ := c.t1 hM hg
  exact c'.gv k'
set_option maxHeartbeats 1000000 in
theorem rBring_ok {L : Nat → Value} {w : World} {X : Nat → Prop} {p : Nat} {h : Hw} {s : Sc} (K : Cr (rK L) w X p h s) (a : Nat) (ha : a < h.n) (b off cap : Nat) (u : Nat → Int) (hr : F.Rd w b off 256 u) (hu : F.okB 256 u) (hX : ¬ X b) :
    Calls Tryz.prog 43 #[.pointer (some ⟨p, 0, none⟩), .int .i64 (a : Nat), .slice (some ⟨b, off, none⟩) 256 cap] w fun e w' => e = .returned (.int .i64 0) ∧ Gv (rK L) w X p h (sw1 h { s with m := F.lay s.m (a * 256) 256 u } a) w' := by
  have hn := K.ok.n2
  obtain ⟨pm, gm, c0, hM, hg, ht⟩ := K.rmemt
  have CZ : Hid (Calls _ _ _ _ _) := F.rPut_ok hM hn a ha b off cap u hr hu (fun e => hX (e ▸ hg))
  have HT : Hid (∀ w' m', F.Mem w' pm gm h.n m' → w.grownBy w' (some gm) → Gv (rK L) w X p h { s with m := m' } w') := ht
  have CFr : Hid (Calls _ _ _ _ _) := frame_any K (a : Int)
  have hd : decide ((0 : Int) ≤ (a : Int) ∧ (a : Int) < (h.n : Int)) = true := by rw [decide_eq_true_eq]; omega
  rw [hd] at CFr
  rw [sw1_eq]
  clear K hM ht hr hX hg hd
  go_enter Tryz.func43, Tryz.ntmps43
  go_wp2_with (first
    | (go_at_call 82; refine CFr.out.mono ?_; rintro e w' ⟨rfl, hww⟩; obtain rfl := hww.symm)
    | (go_at_call 84; refine CZ.out.mono ?_; rintro e w1 ⟨rfl, m1, g1⟩; have H1 : Hid (Gv (rK L) _ X p h { s with m := F.lay s.m (a * 256) 256 u } w1) := HT.out _ _ m1 g1; clear m1 g1))
  clear CZ CFr HT c0
  obtain ⟨s1, hs1⟩ : ∃ s1 : Sc, { s with m := F.lay s.m (a * 256) 256 u } = s1 := ⟨_, rfl⟩
  have HS1 : Hid ({ s with m := F.lay s.m (a * 256) 256 u } = s1) := hs1
  rw [hs1] at H1
  clear hs1
  go_loopw [7] (fun i wr => ∃ k : Nat, k ≤ 16 ∧ i = .int .i64 k ∧ Gv (rK L) w X p h (tw h s1 (fun i => a * 256 + i * 16) k) wr) (fun i _ => 16 - (D.iv i).toNat)
  case atStart => exact ⟨0, by omega, rfl, H1.out⟩
  case round =>
    obtain ⟨k, hk, rfl, hG⟩ := hrel
    have HG : Hid (Gv (rK L) w X p h (tw h s1 (fun i => a * 256 + i * 16) k) wr) := hG
    clear hG H1
    by_cases hlt : k < 16
    case' pos =>
      have hd : decide ((k : Int) < 16) = true := by rw [decide_eq_true_eq]; omega
      have HSW : Hid (tw h s1 (fun i => a * 256 + i * 16) (k + 1) = tou h (tw h s1 (fun i => a * 256 + i * 16) k) (a * 256 + k * 16)) := rfl
      have CT : Hid (Calls _ _ _ _ _) := HG.out.rone (a * 256 + k * 16) (by omega)
      rw [← HSW.out] at CT
      generalize hA h (tw h s1 (fun i => a * 256 + i * 16) k) (a * 256 + k * 16) = xa at *
      generalize hB h (tw h s1 (fun i => a * 256 + i * 16) k) (a * 256 + k * 16) = xb at *
      obtain ⟨pa, hpa⟩ : ∃ pa, a * 256 + k * 16 = pa := ⟨_, rfl⟩
      have hpa1 : (a : Int) * 256 + (k : Int) * 16 = (pa : Int) := by omega
      have hpa2 : pa < 1048576 := by omega
      rw [hpa] at CT
      clear hpa HSW
      go_wp2_with (first
        | (go_at_call 81; refine CT.out.mono ?_; rintro e w3 ⟨rfl, hg⟩; have HG3 : Hid (Gv (rK L) w X p h (tw h s1 (fun i => a * 256 + i * 16) (k + 1)) w3) := hg; clear hg))
      go_roundw
      case rel => exact ⟨k + 1, by omega, by go_num, HG3.out⟩
      case measure => simp [D.iv]; omega
    case' neg =>
      obtain rfl : k = 16 := by omega
      go_wp2
      go_ret
      exact ⟨rfl, by rw [HS1.out]; exact HG.out⟩
theorem rBring_no {L : Nat → Value} {w : World} {X : Nat → Prop} {p : Nat} {h : Hw} {s : Sc} (K : Cr (rK L) w X p h s) (a : Int) (ao : Option Addr) (l cap : Nat) (hl : l ≤ maxLen) (ha : ¬ ((0 ≤ a ∧ a < h.n) ∧ l = 256)) :
    Calls Tryz.prog 43 #[.pointer (some ⟨p, 0, none⟩), .int .i64 a, .slice ao l cap] w fun e w' => e = .returned (.int .i64 2) ∧ w' = w := by
  have CFr : Hid (Calls _ _ _ _ _) := frame_any K a
  unfold maxLen at hl
  by_cases h1 : 0 ≤ a ∧ a < h.n
  · have hd : decide ((0 : Int) ≤ a ∧ a < (h.n : Int)) = true := by rw [decide_eq_true_eq]; exact h1
    have hl2 : ((l : Int) != 256) = true := by simp; omega
    rw [hd] at CFr
    clear K ha hd h1
    go_enter Tryz.func43, Tryz.ntmps43
    go_wp2_with (go_at_call 82; refine CFr.out.mono ?_; rintro e w' ⟨rfl, rfl⟩)
    go_ret
    exact ⟨rfl, rfl⟩
  · have hd : decide ((0 : Int) ≤ a ∧ a < (h.n : Int)) = false := by rw [decide_eq_false_iff_not]; exact h1
    rw [hd] at CFr
    clear K ha hd h1
    go_enter Tryz.func43, Tryz.ntmps43
    go_wp2_with (go_at_call 82; refine CFr.out.mono ?_; rintro e w' ⟨rfl, rfl⟩)
    go_ret
    exact ⟨rfl, rfl⟩
theorem rZero_ok {L : Nat → Value} {w : World} {X : Nat → Prop} {p : Nat} {h : Hw} {s : Sc} (K : Cr (rK L) w X p h s) (a : Nat) (ha : a < h.n) :
    Calls Tryz.prog 41 #[.pointer (some ⟨p, 0, none⟩), .int .i64 (a : Nat)] w fun e w' => e = .returned (.int .i64 0) ∧ Gv (rK L) w X p h (sw1 h { s with m := F.lay s.m (a * 256) 256 (fun _ => 0) } a) w' := by
  have m6 : ∀ w, (Instr.makeSlice 41 (.int .i64 256) (.int .i64 256)).run Tryz.prog w = .ok (.slice (some ⟨w.heap.size, 0, none⟩) 256 256) (w.alloc (.cells (F.vals 256 (fun _ => 0)).toArray 5)) := fun w => F.make_run 256 (by omega) w
  have hb : Below w.heap.size w (w.alloc (.cells (F.vals 256 (fun _ => 0)).toArray 5)) := (Below.refl _ _).alloc (Nat.le_refl _) _
  have CB : Hid (Calls _ _ _ _ _) := rBring_ok (K.below hb) a ha w.heap.size 0 256 (fun _ => 0) (F.new_By (w := w) (m := 256) (h := fun _ => 0) (t := 5)).rd (fun i hi => by simp) (fun z => by have := K.lt _ z; omega)
  have HBE : Hid (Below w.heap.size w (w.alloc (.cells (F.vals 256 (fun _ => 0)).toArray 5))) := hb
  have m7 := m6 w
  clear K hb m6
  generalize (w.alloc (.cells (F.vals 256 (fun _ => 0)).toArray 5)) = w1 at *
  go_enter Tryz.func41, Tryz.ntmps41
  go_wp2_with (go_at_call 43; refine CB.out.mono ?_; rintro e w2 ⟨rfl, hg⟩; have H2 : Hid (Gv (rK L) w X p h (sw1 h { s with m := F.lay s.m (a * 256) 256 (fun _ => 0) } a) w2) := hg.pre (kp_of_below _ HBE.out); clear hg)
  go_ret
  exact ⟨rfl, H2.out⟩
theorem rZero_no {L : Nat → Value} {w : World} {X : Nat → Prop} {p : Nat} {h : Hw} {s : Sc} (K : Cr (rK L) w X p h s) (a : Int) (ha : ¬ (0 ≤ a ∧ a < h.n)) :
    Calls Tryz.prog 41 #[.pointer (some ⟨p, 0, none⟩), .int .i64 a] w fun e w' => e = .returned (.int .i64 2) ∧ Below w.heap.size w w' := by
  have m7 : (Instr.makeSlice 41 (.int .i64 256) (.int .i64 256)).run Tryz.prog w = .ok (.slice (some ⟨w.heap.size, 0, none⟩) 256 256) (w.alloc (.cells (F.vals 256 (fun _ => 0)).toArray 5)) := F.make_run 256 (by omega) w
  have hb : Below w.heap.size w (w.alloc (.cells (F.vals 256 (fun _ => 0)).toArray 5)) := (Below.refl _ _).alloc (Nat.le_refl _) _
  have CB : Hid (Calls _ _ _ _ _) := rBring_no (K.below hb) a (some ⟨w.heap.size, 0, none⟩) 256 256 (by decide) (fun z => ha z.1)
  have HBE : Hid (Below w.heap.size w (w.alloc (.cells (F.vals 256 (fun _ => 0)).toArray 5))) := hb
  clear K hb ha
  generalize (w.alloc (.cells (F.vals 256 (fun _ => 0)).toArray 5)) = w1 at *
  go_enter Tryz.func41, Tryz.ntmps41
  go_wp2_with (go_at_call 43; refine CB.out.mono ?_; rintro e w2 ⟨rfl, hww⟩; obtain rfl := hww.symm)
  go_ret
  exact ⟨rfl, HBE.out⟩
theorem rCopy_no {L : Nat → Value} {w : World} {X : Nat → Prop} {p : Nat} {h : Hw} {s : Sc} (K : Cr (rK L) w X p h s) (a b : Int) (ha : ¬ (0 ≤ a ∧ a < h.n ∧ 0 ≤ b ∧ b < h.n)) :
    Calls Tryz.prog 42 #[.pointer (some ⟨p, 0, none⟩), .int .i64 a, .int .i64 b] w fun e w' => e = .returned (.int .i64 2) ∧ w' = w := by
  have CA : Hid (Calls _ _ _ _ _) := frame_any K a
  have CB : Hid (Calls _ _ _ _ _) := frame_any K b
  by_cases h1 : 0 ≤ a ∧ a < h.n
  · have hd : decide ((0 : Int) ≤ a ∧ a < (h.n : Int)) = true := by rw [decide_eq_true_eq]; exact h1
    have hd2 : decide ((0 : Int) ≤ b ∧ b < (h.n : Int)) = false := by rw [decide_eq_false_iff_not]; exact fun z => ha ⟨h1.1, h1.2, z.1, z.2⟩
    rw [hd] at CA
    rw [hd2] at CB
    clear K ha hd h1 hd2
    go_enter Tryz.func42, Tryz.ntmps42
    go_wp2_with fail
    refine CA.out.mono ?_
    rintro e w' ⟨rfl, rfl⟩
    go_wp2_with fail
    refine CB.out.mono ?_
    rintro e w'' ⟨rfl, hww⟩
    obtain rfl := hww.symm
    go_wp2
    go_ret
    exact ⟨rfl, rfl⟩
  · have hd : decide ((0 : Int) ≤ a ∧ a < (h.n : Int)) = false := by rw [decide_eq_false_iff_not]; exact h1
    rw [hd] at CA
    clear K ha hd h1 CB
    go_enter Tryz.func42, Tryz.ntmps42
    go_wp2_with (go_at_call 82; refine CA.out.mono ?_; rintro e w' ⟨rfl, rfl⟩)
    go_ret
    exact ⟨rfl, rfl⟩
theorem sw2_eq (h : Hw) (s : Sc) (a b k : Nat) : tw h s (swF (fun i => if i = 0 then a else b) 2) ((k + 1) * 2) = tou h (tou h (tw h s (swF (fun i => if i = 0 then a else b) 2) (k * 2)) (a * 256 + k * 16)) (b * 256 + k * 16) := by
  have e1 : swF (fun i => if i = 0 then a else b) 2 (k * 2 + 0) = a * 256 + k * 16 := by rw [swF_at _ (by omega)]; rfl
  have e2 : swF (fun i => if i = 0 then a else b) 2 (k * 2 + 1) = b * 256 + k * 16 := by rw [swF_at _ (by omega)]; rfl
  rw [← e1, ← e2]
  rw [show (k + 1) * 2 = k * 2 + 1 + 1 by omega]
  rfl
set_option maxHeartbeats 1000000 in
theorem rCopy_ok {L : Nat → Value} {w : World} {X : Nat → Prop} {p : Nat} {h : Hw} {s : Sc} (K : Cr (rK L) w X p h s) (a b : Nat) (ha : a < h.n) (hb : b < h.n) :
    Calls Tryz.prog 42 #[.pointer (some ⟨p, 0, none⟩), .int .i64 (a : Nat), .int .i64 (b : Nat)] w fun e w' => e = .returned (.int .i64 0) ∧ Gv (rK L) w X p h (sw2 h { s with m := F.lay s.m (a * 256) 256 (fun i => s.m (b * 256 + i)) } b a) w' := by
  have hn := K.ok.n2
  obtain ⟨pm, gm, c0, hM, hg, ht⟩ := K.rmemt
  have CZ : Hid (Calls _ _ _ _ _) := F.rCopy_ok hM hn a b ha hb
  have HT : Hid (∀ w' m', F.Mem w' pm gm h.n m' → w.grownBy w' (some gm) → Gv (rK L) w X p h { s with m := m' } w') := ht
  have CA : Hid (Calls _ _ _ _ _) := frame_any K (a : Int)
  have CB : Hid (Calls _ _ _ _ _) := frame_any K (b : Int)
  have hd : decide ((0 : Int) ≤ (a : Int) ∧ (a : Int) < (h.n : Int)) = true := by rw [decide_eq_true_eq]; omega
  have hd2 : decide ((0 : Int) ≤ (b : Int) ∧ (b : Int) < (h.n : Int)) = true := by rw [decide_eq_true_eq]; omega
  rw [hd] at CA
  rw [hd2] at CB
  clear K hM ht hg hd hd2
  go_enter Tryz.func42, Tryz.ntmps42
  go_wp2_with fail
  refine CA.out.mono ?_
  rintro e w' ⟨rfl, hww⟩
  obtain rfl := hww.symm
  go_wp2_with fail
  refine CB.out.mono ?_
  rintro e w' ⟨rfl, hww⟩
  obtain rfl := hww.symm
  go_wp2_with fail
  refine CZ.out.mono ?_
  rintro e w1 ⟨rfl, m1, g1⟩
  have H1 : Hid (Gv (rK L) w X p h { s with m := F.lay s.m (a * 256) 256 (fun i => s.m (b * 256 + i)) } w1) := HT.out _ _ m1 g1
  clear CZ CA CB HT c0 m1 g1
  obtain ⟨s1, hs1⟩ : ∃ s1 : Sc, { s with m := F.lay s.m (a * 256) 256 (fun i => s.m (b * 256 + i)) } = s1 := ⟨_, rfl⟩
  have HS1 : Hid ({ s with m := F.lay s.m (a * 256) 256 (fun i => s.m (b * 256 + i)) } = s1) := hs1
  rw [hs1] at H1
  clear hs1
  go_wp2_with fail
  go_loopw [7] (fun i wr => ∃ k : Nat, k ≤ 16 ∧ i = .int .i64 k ∧ Gv (rK L) w X p h (tw h s1 (swF (fun i => if i = 0 then b else a) 2) (k * 2)) wr) (fun i _ => 16 - (D.iv i).toNat)
  case atStart => exact ⟨0, by omega, rfl, H1.out⟩
  case round =>
    obtain ⟨k, hk, rfl, hG⟩ := hrel
    have HG : Hid (Gv (rK L) w X p h (tw h s1 (swF (fun i => if i = 0 then b else a) 2) (k * 2)) wr) := hG
    clear hG H1
    by_cases hlt : k < 16
    case' pos =>
      have hd : decide ((k : Int) < 16) = true := by rw [decide_eq_true_eq]; omega
      have HSW : Hid (tw h s1 (swF (fun i => if i = 0 then b else a) 2) ((k + 1) * 2) = tou h (tou h (tw h s1 (swF (fun i => if i = 0 then b else a) 2) (k * 2)) (b * 256 + k * 16)) (a * 256 + k * 16)) := sw2_eq h s1 b a k
      generalize tw h s1 (swF (fun i => if i = 0 then b else a) 2) (k * 2) = s3 at *
      have hpb : b * 256 + k * 16 < h.n * 256 := by omega
      have hpa : a * 256 + k * 16 < h.n * 256 := by omega
      obtain ⟨pb, epb⟩ : ∃ pb, b * 256 + k * 16 = pb := ⟨_, rfl⟩
      obtain ⟨pa, epa⟩ : ∃ pa, a * 256 + k * 16 = pa := ⟨_, rfl⟩
      have epb1 : (b : Int) * 256 + (k : Int) * 16 = (pb : Int) := by omega
      have epa1 : (a : Int) * 256 + (k : Int) * 16 = (pa : Int) := by omega
      have epb2 : pb < 1048576 := by omega
      have epa2 : pa < 1048576 := by omega
      rw [epb, epa] at HSW
      rw [epb] at hpb
      rw [epa] at hpa
      clear epb epa
      go_wp2_with fail
      refine (HG.out.rone pb hpb).mono ?_
      rintro e w3 ⟨rfl, hg⟩
      have HG3 : Hid (Gv (rK L) w X p h (tou h s3 pb) w3) := hg
      clear hg HG
      generalize hA h s3 pb = xa at *
      generalize hB h s3 pb = xb at *
      go_wp2_with fail
      refine (HG3.out.rone pa hpa).mono ?_
      rintro e w4 ⟨rfl, hg⟩
      have HG4 : Hid (Gv (rK L) w X p h (tw h s1 (swF (fun i => if i = 0 then b else a) 2) ((k + 1) * 2)) w4) := by rw [HSW.out]; exact hg
      clear hg HG3
      generalize hA h (tou h s3 pb) pa = ya at *
      generalize hB h (tou h s3 pb) pa = yb at *
      go_wp2
      go_roundw
      case rel => exact ⟨k + 1, by omega, by go_num, HG4.out⟩
      case measure => simp [D.iv]; omega
    case' neg =>
      obtain rfl : k = 16 := by omega
      go_wp2
      go_ret
      exact ⟨rfl, by unfold sw2; rw [HS1.out]; exact HG.out⟩
end Go.Proofs.YtokaohlgncmoaaaGreat.E
namespace Go.Proofs.YtokaohlgncmoaaaGreat.E
open Go.ChangeShapes Go.WideShapes Go.ChangeAt Go.RowKit
set_option linter.unusedVariables false
set_option maxRecDepth 8192

theorem res_rhit {tmps : Array Value} {w : World} {r : Nat} {x y : Bool} {e : Int} (hp : tmps.getD 4 undef = .pointer (some ⟨r, 0, none⟩)) (he : tmps.getD 5 undef = .int .i64 e) (hb : C.Blk w r 59 [.bool x, .bool y]) :
    (results Tryz.f40 tmps).run Tryz.prog w = .ok (.tuple #[.agg #[.bool x, .bool y], .int .i64 e]) w := by
  rw [results_cell_tmp Tryz.results40 tmps Tryz.prog w, hp, he]
  have hl : (loadVar 59 ⟨r, 0, none⟩).run Tryz.prog w = .ok (.agg #[.bool x, .bool y]) w := run_loadVar_row w r 59 59 _ (0, 0) _ hb Tryz.underlying59 rfl Tryz.infoH
  simp [asAddr, hl, Result.andThen]
set_option maxHeartbeats 1000000 in
theorem rTouch_ok {L : Nat → Value} {w : World} {X : Nat → Prop} {p : Nat} {h : Hw} {s : Sc} (K : Cr (rK L) w X p h s) {ao : Option Addr} {l c : Nat} {f : Nat → Nat} (hl : l ≤ maxLen) (ha : AU w ao l f) (hX : 0 < l → ∀ b off, ao = some ⟨b, off, none⟩ → ¬ X b) (hin : ∀ i, i < l → f i < h.n * 256) :
    Calls Tryz.prog 40 #[.pointer (some ⟨p, 0, none⟩), .slice ao l c] w fun e w' => e = .returned (.tuple #[.agg #[.bool (lh h s f l).1, .bool (lh h s f l).2], .int .i64 0]) ∧ Gv (rK L) w X p h (tw h s f l) w' := by
  have hn := K.ok.n2
  have hplt := K.e0.2
  have B1 : Below w.heap.size w (w.alloc (.cells #[.bool false, .bool false] 59)) := (Below.refl _ _).alloc (Nat.le_refl _) _
  have b1 := C.blk_new w [.bool false, .bool false] 59
  have HK1 : Hid (Cr (rK L) (w.alloc (.cells #[.bool false, .bool false] 59)) X p h s) := K.below B1
  have HA1 : Hid (AU (w.alloc (.cells #[.bool false, .bool false] 59)) ao l f) := ha.below B1
  have HB1 : Hid (Below w.heap.size w (w.alloc (.cells #[.bool false, .bool false] 59))) := B1
  have HR1 : Hid (C.Blk (w.alloc (.cells #[.bool false, .bool false] 59)) w.heap.size 59 [.bool false, .bool false]) := b1
  have HK0 : Hid (Cr (rK L) w X p h s) := K
  have HA0 : Hid (AU w ao l f) := ha
  have HIN : Hid (∀ i, i < l → f i < h.n * 256) := hin
  have HX : Hid (0 < l → ∀ b off, ao = some ⟨b, off, none⟩ → ¬ X b) := hX
  unfold maxLen at hl
  clear K ha B1 b1 hin hX
  go_enter Tryz.func40, Tryz.ntmps40
  go_wp2_with fail
  generalize hw1 : w.alloc (.cells #[.bool false, .bool false] 59) = w1 at *
  clear hw1
  go_loop [6] (fun i => ∃ k : Nat, k ≤ l ∧ i = .int .i64 k) (fun i => l - (D.iv i).toNat)
  case atStart => exact ⟨0, by omega, rfl⟩
  case round =>
    obtain ⟨k, hk, rfl⟩ := hrel
    by_cases hlt : k < l
    case' pos =>
      obtain ⟨b, off, rfl, hc⟩ := HA1.out.at' hlt
      have hf := HIN.out k hlt
      generalize f k = pa at *
      have CT : Hid (Calls _ _ _ _ _) := there_ok HK1.out pa (by omega)
      have hd : decide (pa < h.n * 256) = true := by rw [decide_eq_true_eq]; exact hf
      rw [hd] at CT
      clear hd
      go_wp2_with (go_at_call 80; refine CT.out.mono ?_; rintro e w' ⟨rfl, hww⟩; obtain rfl := hww.symm)
      go_round
      case rel => exact ⟨k + 1, by omega, by go_num⟩
      case measure => simp [D.iv]; omega
    case' neg =>
      obtain rfl : k = l := by omega
      go_wp2_with fail
      have HT0 : Hid (Uk L X w (w1.alloc (.cells #[.bool false, .bool false] 59)) p h s w.heap.size w1.heap.size false false) := by
        have b2 : Below w1.heap.size w1 (w1.alloc (.cells #[.bool false, .bool false] 59)) := (Below.refl _ _).alloc (Nat.le_refl _) _
        have hs1 := HB1.out.size
        have hr1 := HR1.out.lt
        refine ⟨⟨X, HK1.out.below b2, kp_of_below _ (HB1.out.trans (b2.mono hs1)), fun q => ?_, fun q => ?_⟩, HR1.out.of_eq (b2.block _ hr1), C.blk_new w1 [.bool false, .bool false] 59, by omega, Nat.le_refl _, hs1⟩
        · have := HK0.out.lt _ q; omega
        · have := HK0.out.lt _ q; omega
      generalize hw2 : w1.alloc (.cells #[.bool false, .bool false] 59) = w2 at *
      clear hw2 HK1 HA1 HB1 HR1
      generalize w1.heap.size = m at *
      go_loopw [8] (fun i wr => ∃ j : Nat, j ≤ k ∧ i = .int .i64 j ∧ Uk L X w wr p h (tw h s f j) w.heap.size m (lh h s f j).1 (lh h s f j).2) (fun i _ => k - (D.iv i).toNat)
      case atStart => exact ⟨0, by omega, rfl, HT0.out⟩
      case round =>
        obtain ⟨j, hj, rfl, hT⟩ := hrel
        have HT : Hid (Uk L X w wr p h (tw h s f j) w.heap.size m (lh h s f j).1 (lh h s f j).2) := hT
        clear hT
        by_cases hjk : j < k
        case' pos =>
          obtain ⟨b, off, rfl, hc⟩ := (HT.out.au HA0.out (HX.out (by omega))).at' hjk
          have hf := HIN.out j hjk
          have HTW : Hid (tw h s f (j + 1) = tou h (tw h s f j) (f j)) := rfl
          go_wp2_with fail
          refine (HT.out.one (f j) hf).mono ?_
          rintro e w3 ⟨rfl, hT3⟩
          rw [← HTW.out] at hT3
          have e1 : hA h (tw h s f j) (f j) = (lh h s f (j + 1)).1 := rfl
          have e2 : hB h (tw h s f j) (f j) = (lh h s f (j + 1)).2 := rfl
          rw [e1, e2]
          have HT3 : Hid (Uk L X w w3 p h (tw h s f (j + 1)) w.heap.size m (lh h s f j).1 (lh h s f j).2) := hT3
          have m0 : w3.cell? ⟨m, 0, none⟩ = some (.bool (lh h s f j).1) := hT3.bm.cell 0
          have m1 : w3.cell? ⟨m, 1, none⟩ = some (.bool (lh h s f j).2) := hT3.bm.cell 1
          have q0 := hT3.bm.frozen 0
          have q1 := hT3.bm.frozen 1
          clear hT3 e1 e2 HTW
          generalize (lh h s f j).1 = x0 at *
          generalize (lh h s f j).2 = y0 at *
          have HT4 : Hid (Uk L X w ((w3.setCell ⟨m, 0, none⟩ (.bool (lh h s f (j + 1)).1)).setCell ⟨m, 1, none⟩ (.bool (lh h s f (j + 1)).2)) p h (tw h s f (j + 1)) w.heap.size m (lh h s f (j + 1)).1 (lh h s f (j + 1)).2) :=
            (HT3.out.met 0 _ (lh h s f (j + 1)).1 y0 rfl).met 1 _ (lh h s f (j + 1)).1 (lh h s f (j + 1)).2 rfl
          clear HT3 HT HT0
          go_wp2
          go_roundw
          case rel => exact ⟨j + 1, by omega, by go_num, HT4.out⟩
          case measure => simp [D.iv]; omega
        case' neg =>
          obtain rfl : j = k := by omega
          have m0 : wr.cell? ⟨m, 0, none⟩ = some (.bool (lh h s f j).1) := HT.out.bm.cell 0
          have m1 : wr.cell? ⟨m, 1, none⟩ = some (.bool (lh h s f j).2) := HT.out.bm.cell 1
          have r0 : wr.cell? ⟨w.heap.size, 0, none⟩ = some (.bool false) := HT.out.br.cell 0
          have r1 : wr.cell? ⟨w.heap.size, 1, none⟩ = some (.bool false) := HT.out.br.cell 1
          have q0 := HT.out.br.frozen 0
          have q1 := HT.out.br.frozen 1
          have hrm := HT.out.rm
          go_wp2
          obtain ⟨hB9, hG9⟩ := HT.out.fin (lh h s f j).1 (lh h s f j).2 rfl
          exact bodyPost_ret (res_rhit rfl rfl hB9) rfl ⟨rfl, hG9⟩
set_option maxHeartbeats 1000000 in
theorem rTouch_no {L : Nat → Value} {w : World} {X : Nat → Prop} {p : Nat} {h : Hw} {s : Sc} (K : Cr (rK L) w X p h s) {ao : Option Addr} {l c : Nat} {f : Nat → Nat} (hl : l ≤ maxLen) (ha : AU w ao l f) (hf : ∀ i, i < l → f i < 18446744073709551616) (hbad : ∃ i, i < l ∧ ¬ f i < h.n * 256) :
    Calls Tryz.prog 40 #[.pointer (some ⟨p, 0, none⟩), .slice ao l c] w fun e w' => e = .returned (.tuple #[.agg #[.bool false, .bool false], .int .i64 10]) ∧ Below w.heap.size w w' := by
  have B1 : Below w.heap.size w (w.alloc (.cells #[.bool false, .bool false] 59)) := (Below.refl _ _).alloc (Nat.le_refl _) _
  have b1 := C.blk_new w [.bool false, .bool false] 59
  have HK1 : Hid (Cr (rK L) (w.alloc (.cells #[.bool false, .bool false] 59)) X p h s) := K.below B1
  have HA1 : Hid (AU (w.alloc (.cells #[.bool false, .bool false] 59)) ao l f) := ha.below B1
  have HB1 : Hid (Below w.heap.size w (w.alloc (.cells #[.bool false, .bool false] 59))) := B1
  have HR1 : Hid (C.Blk (w.alloc (.cells #[.bool false, .bool false] 59)) w.heap.size 59 [.bool false, .bool false]) := b1
  have HF : Hid (∀ i, i < l → f i < 18446744073709551616) := hf
  have HBAD : Hid (∃ i, i < l ∧ ¬ f i < h.n * 256) := hbad
  unfold maxLen at hl
  clear K ha B1 b1 hf hbad
  go_enter Tryz.func40, Tryz.ntmps40
  go_wp2_with fail
  generalize hw1 : w.alloc (.cells #[.bool false, .bool false] 59) = w1 at *
  clear hw1
  go_loop [6] (fun i => ∃ k : Nat, k ≤ l ∧ i = .int .i64 k ∧ ∀ j, j < k → f j < h.n * 256) (fun i => l - (D.iv i).toNat)
  case atStart => exact ⟨0, by omega, rfl, fun j hj => by omega⟩
  case round =>
    obtain ⟨k, hk, rfl, hgood⟩ := hrel
    have HGD : Hid (∀ j, j < k → f j < h.n * 256) := hgood
    clear hgood
    by_cases hlt : k < l
    case' pos =>
      obtain ⟨b, off, rfl, hc⟩ := HA1.out.at' hlt
      have hf := HF.out k hlt
      have HFK : Hid (∀ j, j < k + 1 → f k < h.n * 256 → f j < h.n * 256) := fun j hj hh => by
        by_cases e : j < k
        · exact HGD.out j e
        · obtain rfl : j = k := by omega
          exact hh
      obtain ⟨pa, hpa⟩ : ∃ pa, f k = pa := ⟨_, rfl⟩
      rw [hpa] at hc hf HFK
      clear hpa
      have CT : Hid (Calls _ _ _ _ _) := there_ok HK1.out pa (by omega)
      by_cases hin : pa < h.n * 256
      case' pos =>
        have hd : decide (pa < h.n * 256) = true := by rw [decide_eq_true_eq]; exact hin
        rw [hd] at CT
        clear hd
        go_wp2_with (go_at_call 80; refine CT.out.mono ?_; rintro e w' ⟨rfl, hww⟩; obtain rfl := hww.symm)
        go_round
        case rel => exact ⟨k + 1, by omega, by go_num, fun j hj => HFK.out j hj hin⟩
        case measure => simp [D.iv]; omega
      case' neg =>
        have hd : decide (pa < h.n * 256) = false := by rw [decide_eq_false_iff_not]; exact hin
        rw [hd] at CT
        clear hd
        have r0 : w1.cell? ⟨w.heap.size, 0, none⟩ = some (.bool false) := HR1.out.cell 0
        have r1 : w1.cell? ⟨w.heap.size, 1, none⟩ = some (.bool false) := HR1.out.cell 1
        have q0 := HR1.out.frozen 0
        have q1 := HR1.out.frozen 1
        have FIN : Hid (Below w.heap.size w ((w1.setCell ⟨w.heap.size, 0, none⟩ (.bool false)).setCell ⟨w.heap.size, 1, none⟩ (.bool false))) := HB1.out.grown ((C.grown_setCell' _ _ _ _).trans (C.grown_setCell' _ _ _ _)) HB1.out.size (fun j hj => by cases hj; exact Nat.le_refl _)
        have HB9 : Hid (C.Blk ((w1.setCell ⟨w.heap.size, 0, none⟩ (.bool false)).setCell ⟨w.heap.size, 1, none⟩ (.bool false)) w.heap.size 59 [.bool false, .bool false]) := (HR1.out.set 0 (.bool false)).set 1 (.bool false)
        go_wp2_with (go_at_call 80; refine CT.out.mono ?_; rintro e w' ⟨rfl, hww⟩; obtain rfl := hww.symm)
        exact bodyPost_ret (res_rhit rfl rfl HB9.out) rfl ⟨rfl, FIN.out⟩
    case' neg =>
      obtain rfl : k = l := by omega
      obtain ⟨i, hi, hn'⟩ := HBAD.out
      exact absurd (HGD.out i hi) hn'
end Go.Proofs.YtokaohlgncmoaaaGreat.E
