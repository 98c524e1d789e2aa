/- What plan's sliceSuffices, slicingWrong and the closure that notes faults give back; no condition but those named. -/
import Derived.Test.YtkbpnkjjmipjfaaGreatVPr
import Derived.Test.YtkbpnkjjmipjfaaGreatVCa
import Derived.Deep.AppendLies
import Derived.Laws.AppendOwnNone
namespace Go.Proofs.YtkbpnkjjmipjfaaGreat
open Go.ChangeShapes Go.WideShapes Go.ChangeAt Go.RowKit
set_option linter.unusedVariables false

structure Ce (w0 w : World) (g e : Nat) (a : Ad) (c : Cf) (L : List Value) : Prop where
  be : Below w0.heap.size w0 w
  bx : Sev w g a c
  ci : Cin w a c
  er : Blk w e 33 L
theorem Ce.below {w0 w w' : World} {g e : Nat} {a : Ad} {c : Cf} {L : List Value} (h : Ce w0 w g e a c L) (k : Below w.heap.size w w') : Ce w0 w' g e a c L :=
  ⟨h.be.trans (k.mono h.be.size), h.bx.below k, h.ci.below k, h.er.below k⟩
set_option maxRecDepth 20000 in
set_option maxHeartbeats 2000000 in
theorem sliceSuffices_ok {w : World} {a : Ad} {c : Cf} {e n : Nat} (hc : Cin w a c) (hk : okC c.k = true) (hn : n ≤ c.pn) (hn8 : n ≤ 8) (he : Blk w e 33 (pbL c n n)) :
    Calls Tryz.prog 216 #[.agg #[.int .i64 c.F, .int .i64 c.C, .int .i64 c.W, .int .i64 c.S, .int .i64 c.V, .int .i64 c.T, .int .u64 c.k.l1, .int .u64 c.k.llc, .int .u64 c.k.mi, .int .u64 c.k.fa, .int .u64 c.k.st, .int .u64 c.k.di, .int .u64 c.sl, .int .u64 c.pd, .int .u64 c.ft, .slice a.ta c.tn a.tc, .slice a.pa c.pn a.pc], .slice (some ⟨e, 0, none⟩) n n] w (One (.bool (allS c n)) w) := by
  have HB0 := cb_new hc
  have he1 := he.below (below_new w (.cells #[.int .i64 c.F, .int .i64 c.C, .int .i64 c.W, .int .i64 c.S, .int .i64 c.V, .int .i64 c.T, .int .u64 c.k.l1, .int .u64 c.k.llc, .int .u64 c.k.mi, .int .u64 c.k.fa, .int .u64 c.k.st, .int .u64 c.k.di, .int .u64 c.sl, .int .u64 c.pd, .int .u64 c.ft, .slice a.ta c.tn a.tc, .slice a.pa c.pn a.pc] 28))
  have hpl := hc.pl
  have SH : Hid (∀ p w', pBad c p = 0 → Calls Tryz.prog 239 #[.agg #[.slice (a.ca p) (c.pf p).n (a.cc p), .int .i64 (c.pf p).o, .int .i64 (c.pf p).u, .int .i64 (c.pf p).t, .int .i64 (c.pf p).s, .int .i64 (c.pf p).r, .int .i64 (c.pf p).d, .int .i64 (c.pf p).z]] w' (One (.agg #[.int .i64 (shp (c.pf p)).im, .int .i64 (shp (c.pf p)).us, .int .i64 (shp (c.pf p)).li, .int .i64 (shp (c.pf p)).no]) w')) := fun p w' h => by
    have k := pBad_iff.1 h
    exact shape_ok k.o0 k.o1 (by have := k.u0; omega) k.u1 (by have := k.z0; omega) k.z1 (by have := k.d0; omega) k.d1
  have MS : Hid (∀ p w', pBad c p = 0 → Calls Tryz.prog 238 #[.agg #[.int .u64 c.k.l1, .int .u64 c.k.llc, .int .u64 c.k.mi, .int .u64 c.k.fa, .int .u64 c.k.st, .int .u64 c.k.di], .agg #[.int .i64 (shp (c.pf p)).im, .int .i64 (shp (c.pf p)).us, .int .i64 (shp (c.pf p)).li, .int .i64 (shp (c.pf p)).no]] w' (Two (mx c.k (shp (c.pf p)) 11) 0 w')) := fun p w' h => Most_ok c.k (shp (c.pf p)) (okC_iff.1 hk) (pBad_iff.1 h).shape w'
  have HFS : Hid (∀ p, allS c (p + 1) = (allS c p && (!decide (pBad c p = 0) || decide (mx c.k (shp (c.pf p)) 11 ≤ c.sl)))) := fun p => rfl
  have HNo : Hid (∀ p, p < n → fitS c p = false → allS c n = false) := fun p hp h => by
    cases e : allS c n
    · rfl
    · rw [allS_iff.1 e p hp] at h; cases h
  have HNf : Hid (∀ p, fitS c p = (!decide (pBad c p = 0) || decide (mx c.k (shp (c.pf p)) 11 ≤ c.sl))) := fun p => rfl
  clear hc hk he
  go_enter Tryz.func216, Tryz.ntmps216
  go_wp2
  obtain ⟨W, hW, HB⟩ : ∃ W, (w.alloc (.cells #[.int .i64 c.F, .int .i64 c.C, .int .i64 c.W, .int .i64 c.S, .int .i64 c.V, .int .i64 c.T, .int .u64 c.k.l1, .int .u64 c.k.llc, .int .u64 c.k.mi, .int .u64 c.k.fa, .int .u64 c.k.st, .int .u64 c.k.di, .int .u64 c.sl, .int .u64 c.pd, .int .u64 c.ft, .slice a.ta c.tn a.tc, .slice a.pa c.pn a.pc] 28)) = W ∧ Hid (Ce w W w.heap.size e a c (pbL c n n)) := ⟨_, rfl, ⟨HB0.be, HB0.bx, HB0.ci, he1⟩⟩
  rw [hW]
  clear hW HB0 he1
  go_loopw [11] (fun i wr => ∃ k : Nat, k ≤ n ∧ i = .int .i64 k ∧ allS c k = true ∧ Ce w wr w.heap.size e a c (pbL c n n)) (fun i _ => n - (intOf i).toNat)
  case atStart => exact ⟨0, by omega, rfl, rfl, HB.out⟩
  case round =>
    clear HB
    obtain ⟨k, hk, rfl, hs, hB⟩ := hrel
    have HS : Hid (allS c k = true) := hs
    have HB : Hid (Ce w wr w.heap.size e a c (pbL c n n)) := hB
    clear hs hB
    by_cases hlt : k < n
    · have d1 : wr.cell? ⟨e, k, none⟩ = some (.int .i64 (pBad c k)) := by rw [HB.out.er.cell k, pbL_get hlt]; simp [hlt]
      have HF1 : Hid (allS c (k + 1) = (allS c k && (!decide (pBad c k = 0) || decide (mx c.k (shp (c.pf k)) 11 ≤ c.sl)))) := HFS.out k
      have HN1 : Hid ((!decide (pBad c k = 0) || decide (mx c.k (shp (c.pf k)) 11 ≤ c.sl)) = false → allS c n = false) := fun h => HNo.out k hlt (by rw [HNf.out]; exact h)
      have SHk : Hid (∀ w', pBad c k = 0 → Calls Tryz.prog 239 #[.agg #[.slice (a.ca k) (c.pf k).n (a.cc k), .int .i64 (c.pf k).o, .int .i64 (c.pf k).u, .int .i64 (c.pf k).t, .int .i64 (c.pf k).s, .int .i64 (c.pf k).r, .int .i64 (c.pf k).d, .int .i64 (c.pf k).z]] w' (One (.agg #[.int .i64 (shp (c.pf k)).im, .int .i64 (shp (c.pf k)).us, .int .i64 (shp (c.pf k)).li, .int .i64 (shp (c.pf k)).no]) w')) := fun w' h => SH.out k w' h
      have MSk : Hid (∀ w', pBad c k = 0 → Calls Tryz.prog 238 #[.agg #[.int .u64 c.k.l1, .int .u64 c.k.llc, .int .u64 c.k.mi, .int .u64 c.k.fa, .int .u64 c.k.st, .int .u64 c.k.di], .agg #[.int .i64 (shp (c.pf k)).im, .int .i64 (shp (c.pf k)).us, .int .i64 (shp (c.pf k)).li, .int .i64 (shp (c.pf k)).no]] w' (Two (mx c.k (shp (c.pf k)) 11) 0 w')) := fun w' h => MS.out k w' h
      clear HFS HNo HNf SH MS
      generalize pBad c k = pb at *
      have hkn : (k : Int) < (c.pn : Int) := by omega
      have hk0 : (0 : Int) ≤ (k : Int) := by omega
      by_cases hp : pb = 0
      · subst hp
        generalize mx c.k (shp (c.pf k)) 11 = M at *
        generalize shp (c.pf k) = s at *
        obtain ⟨b, off, hq, HEg⟩ := HB.out.ci.p.at' (show k < c.pn by omega)
        have HQ : Hid (a.pa = some ⟨b, off, none⟩) := hq
        have hF6 : ∀ i : Idx (fun W => Ce w W w.heap.size e a c (pbL c n n) ∧ Eig W b (off + k * 8) (a.ca k) (a.cc k) (c.pf k)), i.W.cell? ⟨w.heap.size, 6, none⟩ = some (.int .u64 c.k.l1) := fun i => i.h.1.bx.c6
        have hF7 : ∀ i : Idx (fun W => Ce w W w.heap.size e a c (pbL c n n) ∧ Eig W b (off + k * 8) (a.ca k) (a.cc k) (c.pf k)), i.W.cell? ⟨w.heap.size, 7, none⟩ = some (.int .u64 c.k.llc) := fun i => i.h.1.bx.c7
        have hF8 : ∀ i : Idx (fun W => Ce w W w.heap.size e a c (pbL c n n) ∧ Eig W b (off + k * 8) (a.ca k) (a.cc k) (c.pf k)), i.W.cell? ⟨w.heap.size, 8, none⟩ = some (.int .u64 c.k.mi) := fun i => i.h.1.bx.c8
        have hF9 : ∀ i : Idx (fun W => Ce w W w.heap.size e a c (pbL c n n) ∧ Eig W b (off + k * 8) (a.ca k) (a.cc k) (c.pf k)), i.W.cell? ⟨w.heap.size, 9, none⟩ = some (.int .u64 c.k.fa) := fun i => i.h.1.bx.c9
        have hF10 : ∀ i : Idx (fun W => Ce w W w.heap.size e a c (pbL c n n) ∧ Eig W b (off + k * 8) (a.ca k) (a.cc k) (c.pf k)), i.W.cell? ⟨w.heap.size, 10, none⟩ = some (.int .u64 c.k.st) := fun i => i.h.1.bx.c10
        have hF11 : ∀ i : Idx (fun W => Ce w W w.heap.size e a c (pbL c n n) ∧ Eig W b (off + k * 8) (a.ca k) (a.cc k) (c.pf k)), i.W.cell? ⟨w.heap.size, 11, none⟩ = some (.int .u64 c.k.di) := fun i => i.h.1.bx.c11
        have hF16 : ∀ i : Idx (fun W => Ce w W w.heap.size e a c (pbL c n n) ∧ Eig W b (off + k * 8) (a.ca k) (a.cc k) (c.pf k)), i.W.cell? ⟨w.heap.size, 16, none⟩ = some (.slice (some ⟨b, off, none⟩) c.pn a.pc) := fun i => by rw [← HQ.out]; exact i.h.1.bx.c16
        have hE0 : ∀ i : Idx (fun W => Ce w W w.heap.size e a c (pbL c n n) ∧ Eig W b (off + k * 8) (a.ca k) (a.cc k) (c.pf k)), i.W.cell? ⟨b, off + k * 8, none⟩ = some (.slice (a.ca k) (c.pf k).n (a.cc k)) := fun i => i.h.2.c0
        have hE1 : ∀ i : Idx (fun W => Ce w W w.heap.size e a c (pbL c n n) ∧ Eig W b (off + k * 8) (a.ca k) (a.cc k) (c.pf k)), i.W.cell? ⟨b, off + k * 8 + 1, none⟩ = some (.int .i64 (c.pf k).o) := fun i => i.h.2.c1
        have hE2 : ∀ i : Idx (fun W => Ce w W w.heap.size e a c (pbL c n n) ∧ Eig W b (off + k * 8) (a.ca k) (a.cc k) (c.pf k)), i.W.cell? ⟨b, off + k * 8 + 2, none⟩ = some (.int .i64 (c.pf k).u) := fun i => i.h.2.c2
        have hE3 : ∀ i : Idx (fun W => Ce w W w.heap.size e a c (pbL c n n) ∧ Eig W b (off + k * 8) (a.ca k) (a.cc k) (c.pf k)), i.W.cell? ⟨b, off + k * 8 + 3, none⟩ = some (.int .i64 (c.pf k).t) := fun i => i.h.2.c3
        have hE4 : ∀ i : Idx (fun W => Ce w W w.heap.size e a c (pbL c n n) ∧ Eig W b (off + k * 8) (a.ca k) (a.cc k) (c.pf k)), i.W.cell? ⟨b, off + k * 8 + 4, none⟩ = some (.int .i64 (c.pf k).s) := fun i => i.h.2.c4
        have hE5 : ∀ i : Idx (fun W => Ce w W w.heap.size e a c (pbL c n n) ∧ Eig W b (off + k * 8) (a.ca k) (a.cc k) (c.pf k)), i.W.cell? ⟨b, off + k * 8 + 5, none⟩ = some (.int .i64 (c.pf k).r) := fun i => i.h.2.c5
        have hE6 : ∀ i : Idx (fun W => Ce w W w.heap.size e a c (pbL c n n) ∧ Eig W b (off + k * 8) (a.ca k) (a.cc k) (c.pf k)), i.W.cell? ⟨b, off + k * 8 + 6, none⟩ = some (.int .i64 (c.pf k).d) := fun i => i.h.2.c6
        have hE7 : ∀ i : Idx (fun W => Ce w W w.heap.size e a c (pbL c n n) ∧ Eig W b (off + k * 8) (a.ca k) (a.cc k) (c.pf k)), i.W.cell? ⟨b, off + k * 8 + 7, none⟩ = some (.int .i64 (c.pf k).z) := fun i => i.h.2.c7
        have hne : Nonempty (Idx (fun W => Ce w W w.heap.size e a c (pbL c n n) ∧ Eig W b (off + k * 8) (a.ca k) (a.cc k) (c.pf k))) := ⟨⟨wr, HB.out, HEg⟩⟩
        go_upto_region 5 with fail
        refine wp_region_cls (fun W => Ce w W w.heap.size e a c (pbL c n n) ∧ Eig W b (off + k * 8) (a.ca k) (a.cc k) (c.pf k)) (by kernel_rfl) (by kernel_rfl) ⟨HB.out.below (below_drew _ _), HEg.below (below_drew _ _)⟩ ?_
        repeat (go_big_quiet_step (first | (go_at_call 239; exact Calls.cls (SHk.out _ rfl) (fun _ _ h k => ⟨h.1.below k, h.2.below k⟩)) | (go_at_call 238; exact Calls.cls (MSk.out _ rfl) (fun _ _ h k => ⟨h.1.below k, h.2.below k⟩))))
        refine wpQuiet_nil ?_
        rintro w3 ⟨⟨_, hS3⟩, rfl⟩
        have HB3 : Hid (Ce w w3 w.heap.size e a c (pbL c n n)) := hS3.1
        have c12 := hS3.1.bx.c12
        clear hS3 hF6 hF7 hF8 hF9 hF10 hF11 hF16 hE0 hE1 hE2 hE3 hE4 hE5 hE6 hE7 hne SHk MSk HB HEg hq d1
        by_cases hM : c.sl < M
        · have hM2 : (!decide ((0 : Int) = 0) || decide (M ≤ c.sl)) = false := by simp; omega
          go_wp2
          go_ret
          exact ⟨ret_bool (HN1.out hM2).symm, HB3.out.be⟩
        · have hM2 : (!decide ((0 : Int) = 0) || decide (M ≤ c.sl)) = true := by simp; omega
          go_wp2
          go_roundw
          case rel => exact ⟨k + 1, by omega, by go_num, by rw [HF1.out, HS.out, hM2]; rfl, HB3.out⟩
          case measure => simp [intOf]; omega
      · have hp1 : decide (pb = 0) = false := by simp [hp]
        go_wp2
        go_roundw
        case rel => exact ⟨k + 1, by omega, by go_num, by rw [HF1.out, HS.out, hp1]; rfl, HB.out⟩
        case measure => simp [intOf]; omega
    · obtain rfl : k = n := by omega
      go_wp2
      go_ret
      exact ⟨ret_bool HS.out.symm, HB.out.be⟩
end Go.Proofs.YtkbpnkjjmipjfaaGreat
namespace Go.Proofs.YtkbpnkjjmipjfaaGreat
open Go.ChangeShapes Go.WideShapes Go.ChangeAt Go.RowKit
set_option linter.unusedVariables false

theorem s0k_ways (c : Cf) : s0k c = false ∧ (c.sl < 1 ∨ (¬ c.sl < 1 ∧ 4194304 < c.sl) ∨ (¬ c.sl < 1 ∧ ¬ 4194304 < c.sl ∧ 4194304 < c.pd) ∨ (¬ c.sl < 1 ∧ ¬ 4194304 < c.sl ∧ ¬ 4194304 < c.pd ∧ ¬ c.ft < 1099511627776))
    ∨ s0k c = true ∧ ¬ c.sl < 1 ∧ ¬ 4194304 < c.sl ∧ ¬ 4194304 < c.pd ∧ c.ft < 1099511627776 := by
  simp only [s0k, inB]
  by_cases h1 : c.sl < 1
  · left
    exact ⟨by simp; omega, Or.inl h1⟩
  by_cases h2 : 4194304 < c.sl
  · left
    exact ⟨by simp; omega, Or.inr (Or.inl ⟨h1, h2⟩)⟩
  by_cases h3 : 4194304 < c.pd
  · left
    exact ⟨by simp; omega, Or.inr (Or.inr (Or.inl ⟨h1, h2, h3⟩))⟩
  by_cases h4 : c.ft < 1099511627776
  · right
    exact ⟨by simp; omega, h1, h2, h3, h4⟩
  · left
    exact ⟨by simp; omega, Or.inr (Or.inr (Or.inr ⟨h1, h2, h3, h4⟩))⟩
set_option maxRecDepth 20000 in
set_option maxHeartbeats 1000000 in
theorem slicingWrong_any {w : World} {a : Ad} {c : Cf} {e n : Nat} (hc : Cin w a c) (hn : n = min c.pn 8) (he : Blk w e 33 (pbL c n n)) :
    Calls Tryz.prog 169 #[.agg #[.int .i64 c.F, .int .i64 c.C, .int .i64 c.W, .int .i64 c.S, .int .i64 c.V, .int .i64 c.T, .int .u64 c.k.l1, .int .u64 c.k.llc, .int .u64 c.k.mi, .int .u64 c.k.fa, .int .u64 c.k.st, .int .u64 c.k.di, .int .u64 c.sl, .int .u64 c.pd, .int .u64 c.ft, .slice a.ta c.tn a.tc, .slice a.pa c.pn a.pc], .bool (mOk c && okC c.k), .slice (some ⟨e, 0, none⟩) n n] w (One (.int .i64 (un (sOk c) 113)) w) := by
  have HB0 := cb_new hc
  have he1 := he.below (below_new w (.cells #[.int .i64 c.F, .int .i64 c.C, .int .i64 c.W, .int .i64 c.S, .int .i64 c.V, .int .i64 c.T, .int .u64 c.k.l1, .int .u64 c.k.llc, .int .u64 c.k.mi, .int .u64 c.k.fa, .int .u64 c.k.st, .int .u64 c.k.di, .int .u64 c.sl, .int .u64 c.pd, .int .u64 c.ft, .slice a.ta c.tn a.tc, .slice a.pa c.pn a.pc] 28))
  have HC0 : Ce w (w.alloc (.cells #[.int .i64 c.F, .int .i64 c.C, .int .i64 c.W, .int .i64 c.S, .int .i64 c.V, .int .i64 c.T, .int .u64 c.k.l1, .int .u64 c.k.llc, .int .u64 c.k.mi, .int .u64 c.k.fa, .int .u64 c.k.st, .int .u64 c.k.di, .int .u64 c.sl, .int .u64 c.pd, .int .u64 c.ft, .slice a.ta c.tn a.tc, .slice a.pa c.pn a.pc] 28)) w.heap.size e a c (pbL c n n) := ⟨HB0.be, HB0.bx, HB0.ci, he1⟩
  have PS : Hid (∀ w', mOk c = true → okC c.k = true → Calls Tryz.prog 215 #[.agg #[.int .i64 c.F, .int .i64 c.C, .int .i64 c.W, .int .i64 c.S, .int .i64 c.V, .int .i64 c.T, .int .u64 c.k.l1, .int .u64 c.k.llc, .int .u64 c.k.mi, .int .u64 c.k.fa, .int .u64 c.k.st, .int .u64 c.k.di, .int .u64 c.sl, .int .u64 c.pd, .int .u64 c.ft, .slice a.ta c.tn a.tc, .slice a.pa c.pn a.pc]] w' (One (.bool (decide (pdM c ≤ c.pd))) w')) := fun w' h1 h2 => padSuffices_ok (mOk_iff.1 h1) h2
  have SS : Hid (∀ w', Ce w w' w.heap.size e a c (pbL c n n) → okC c.k = true → Calls Tryz.prog 216 #[.agg #[.int .i64 c.F, .int .i64 c.C, .int .i64 c.W, .int .i64 c.S, .int .i64 c.V, .int .i64 c.T, .int .u64 c.k.l1, .int .u64 c.k.llc, .int .u64 c.k.mi, .int .u64 c.k.fa, .int .u64 c.k.st, .int .u64 c.k.di, .int .u64 c.sl, .int .u64 c.pd, .int .u64 c.ft, .slice a.ta c.tn a.tc, .slice a.pa c.pn a.pc], .slice (some ⟨e, 0, none⟩) n n] w' (One (.bool (allS c n)) w')) := fun w' h h2 => sliceSuffices_ok h.ci h2 (by omega) (by omega) h.er
  have HSO : Hid (sOk c = (s0k c && (!(mOk c && okC c.k) || (decide (pdM c ≤ c.pd) && allS c c.pn)))) := rfl
  have HNP : Hid (mOk c = true → c.pn = n) := fun h => by have := (mOk_iff.1 h).p2; omega
  clear hc he HB0 he1 hn
  rcases s0k_ways c with ⟨h0, hw⟩ | ⟨h0, h1, h2, h3, h4⟩
  · have HR : Hid (sOk c = false) := by unfold Hid; rw [HSO.out, h0]; rfl
    clear h0 HSO PS SS HNP
    generalize (mOk c && okC c.k) = rk
    rcases hw with h | ⟨h1, h⟩ | ⟨h1, h2, h⟩ | ⟨h1, h2, h3, h⟩
    all_goals
      go_enter Tryz.func169, Tryz.ntmps169
      go_wp2_with (go_at_call 211; refine (unless_any _ _ _).mono ?_; rintro e w' ⟨rfl, rfl⟩)
      go_ret
      exact ⟨ret_int (by rw [HR.out]; rfl), HC0.be⟩
  rw [h0] at HSO
  clear h0
  cases hr : (mOk c && okC c.k)
  · have HR : Hid (sOk c = true) := by unfold Hid; rw [HSO.out, hr]; rfl
    clear hr HSO PS SS HNP
    go_enter Tryz.func169, Tryz.ntmps169
    go_wp2_with (go_at_call 211; refine (unless_any _ _ _).mono ?_; rintro e w' ⟨rfl, rfl⟩)
    go_ret
    exact ⟨ret_int (by rw [HR.out]; rfl), HC0.be⟩
  · rw [hr] at HSO
    obtain ⟨hm, hk⟩ : mOk c = true ∧ okC c.k = true := by simpa using hr
    have hpn := HNP.out hm
    have PS1 : Hid (∀ w', Calls Tryz.prog 215 #[.agg #[.int .i64 c.F, .int .i64 c.C, .int .i64 c.W, .int .i64 c.S, .int .i64 c.V, .int .i64 c.T, .int .u64 c.k.l1, .int .u64 c.k.llc, .int .u64 c.k.mi, .int .u64 c.k.fa, .int .u64 c.k.st, .int .u64 c.k.di, .int .u64 c.sl, .int .u64 c.pd, .int .u64 c.ft, .slice a.ta c.tn a.tc, .slice a.pa c.pn a.pc]] w' (One (.bool (decide (pdM c ≤ c.pd))) w')) := fun w' => PS.out w' hm hk
    have SS1 : Hid (∀ w', Ce w w' w.heap.size e a c (pbL c n n) → Calls Tryz.prog 216 #[.agg #[.int .i64 c.F, .int .i64 c.C, .int .i64 c.W, .int .i64 c.S, .int .i64 c.V, .int .i64 c.T, .int .u64 c.k.l1, .int .u64 c.k.llc, .int .u64 c.k.mi, .int .u64 c.k.fa, .int .u64 c.k.st, .int .u64 c.k.di, .int .u64 c.sl, .int .u64 c.pd, .int .u64 c.ft, .slice a.ta c.tn a.tc, .slice a.pa c.pn a.pc], .slice (some ⟨e, 0, none⟩) n n] w' (One (.bool (allS c n)) w')) := fun w' h => SS.out w' h hk
    have HR : Hid (sOk c = (decide (pdM c ≤ c.pd) && allS c n)) := by unfold Hid; rw [HSO.out, hpn]; rfl
    clear hr hm hk HSO PS SS HNP hpn
    generalize decide (pdM c ≤ c.pd) = b1 at *
    generalize allS c n = b2 at *
    go_enter Tryz.func169, Tryz.ntmps169
    go_wp2_with fail
    obtain ⟨W, hW, HB⟩ : ∃ W, (w.alloc (.cells #[.int .i64 c.F, .int .i64 c.C, .int .i64 c.W, .int .i64 c.S, .int .i64 c.V, .int .i64 c.T, .int .u64 c.k.l1, .int .u64 c.k.llc, .int .u64 c.k.mi, .int .u64 c.k.fa, .int .u64 c.k.st, .int .u64 c.k.di, .int .u64 c.sl, .int .u64 c.pd, .int .u64 c.ft, .slice a.ta c.tn a.tc, .slice a.pa c.pn a.pc] 28)) = W ∧ Hid (Ce w W w.heap.size e a c (pbL c n n)) := ⟨_, rfl, HC0⟩
    rw [hW]
    clear hW HC0
    refine (PS1.out _).mono ?_
    rintro e' w1 ⟨rfl, k1⟩
    have HB1 : Hid (Ce w w1 w.heap.size e a c (pbL c n n)) := HB.out.below k1
    clear k1 HB PS1
    cases b1
    · go_wp2_with (go_at_call 211; refine (unless_any _ _ _).mono ?_; rintro e w' ⟨rfl, rfl⟩)
      go_ret
      exact ⟨ret_int (by rw [HR.out]; rfl), HB1.out.be⟩
    · obtain ⟨_, c0, c1, c2, c3, c4, c5, c6, c7, c8, c9, c10, c11, c12, c13, c14, c15, c16⟩ := HB1.out.bx
      go_wp2_with fail
      refine (SS1.out _ HB1.out).mono ?_
      rintro e' w2 ⟨rfl, k2⟩
      have FIN : Hid (Below w.heap.size w w2) := HB1.out.be.trans (k2.mono HB1.out.be.size)
      clear k2 HB1 SS1 c0 c1 c2 c3 c4 c5 c6 c7 c8 c9 c10 c11 c12 c13 c14 c15 c16
      go_wp2_with (go_at_call 211; refine (unless_any _ _ _).mono ?_; rintro e w' ⟨rfl, rfl⟩)
      go_ret
      exact ⟨ret_int (by rw [HR.out]; rfl), FIN.out⟩
theorem Tryz.infoF : (Tryz.prog.info? 172).map (fun i => (i.zero, i.size, i.bytes)) = some (some (.agg #[.int .i64 0, .int .i64 0]), 2, 16) := by kernel_rfl
def enF : List (Int × Int) → List Value
  | [] => []
  | x :: l => .int .i64 x.1 :: .int .i64 x.2 :: enF l
theorem enF_append (L M : List (Int × Int)) : enF (L ++ M) = enF L ++ enF M := by
  induction L with
  | nil => rfl
  | cons x l ih => simp only [List.cons_append, enF, ih]
def Fs (w : World) (base : Nat) (v : Value) (L : List (Int × Int)) : Prop := w.ownsRow base 172 2 v L.length (enF L)
theorem Fs.nil (w : World) (base : Nat) : Fs w base (.slice none 0 0) [] := World.ownsRow_nil _ _ _ _
theorem cell_two_new (w : World) (u v : Value) (t : TypeId) : ∀ j x, [u, v][j]? = some x → (w.alloc (.cells #[u, v] t)).cell? ((⟨w.heap.size, 0, none⟩ : Addr).add j) = some x := by
  intro j x hx
  rw [Go.WideShapes.add_plain, cell_of_row _ _ (0 + j) _ t (0, 0) (heap_alloc_last w _), Nat.zero_add]
  simpa using hx
structure Nt (w w' : World) (base g : Nat) (L : List (Int × Int)) : Prop where
  ex : ∃ v, w'.cell? ⟨g, 0, none⟩ = some v ∧ w'.frozen? ⟨g, 0, none⟩ = false ∧ Fs w' base v L ∧ (∀ t, v.ownBlock = some t → base ≤ t ∧ t ≠ g)
  be : Below g w w'
end Go.Proofs.YtkbpnkjjmipjfaaGreat
namespace Go.Proofs.YtkbpnkjjmipjfaaGreat
open Go.ChangeShapes Go.WideShapes Go.ChangeAt Go.RowKit
set_option linter.unusedVariables false

structure Nb (W : World) (g : Nat) (v : Value) (L : List (Int × Int)) : Prop where
  bx : Blk W g 95 [v]
  fs : Fs W (g + 1) v L
structure Kn (w w' : World) (g : Nat) (r : Option Nat) : Prop where
  os : w'.os = w.os
  tape : w'.tape = w.tape
  output : w'.output = w.output
  size : w.heap.size ≤ w'.heap.size
  block : ∀ i, i < w.heap.size → i ≠ g → some i ≠ r → w'.heap[i]? = w.heap[i]?
theorem fs_shape {w : World} {base : Nat} {v : Value} {L : List (Int × Int)} (h : Fs w base v L) : ∃ a n c, v = .slice a n c := by
  rcases h with ⟨_, ⟨rfl, _⟩ | ⟨g, cap, cur, rfl, _⟩⟩
  · exact ⟨_, _, _, rfl⟩
  · exact ⟨_, _, _, rfl⟩
theorem owns_of_eq {w w' : World} {base : Nat} {e : TypeId} {s : Nat} {v : Value} {n : Nat} {L : List Value} (h : w.ownsRow base e s v n L) (k : ∀ t, v.ownBlock = some t → w'.heap[t]? = w.heap[t]?) : w'.ownsRow base e s v n L := by
  rcases h with ⟨h0, h⟩
  refine ⟨h0, ?_⟩
  rcases h with h | ⟨g, cap, cur, h1, h2, h3, h4⟩
  · exact Or.inl h
  · exact Or.inr ⟨g, cap, cur, h1, h2, (k g (by rw [h1]; rfl)).trans h3, h4⟩
set_option maxRecDepth 20000 in
set_option maxHeartbeats 1000000 in
theorem note_any {W : World} {g : Nat} {v : Value} {L : List (Int × Int)} (h : Nb W g v L) (hL : L.length ≤ 12) (at' e : Int) :
    Calls Tryz.prog 165 #[.int .i64 at', .int .i64 e, .pointer (some ⟨g, 0, none⟩)] W fun x W' => x = .returned (.tuple #[]) ∧ ∃ v', Nb W' g v' (L ++ fl e at') ∧ Kn W W' g v.ownBlock ∧ (∀ t, v'.ownBlock = some t → v.ownBlock = some t ∨ W.heap.size ≤ t) := by
  by_cases he : e = 0
  · subst he
    have FIN : Hid (Nb W g v (L ++ fl 0 at')) := by unfold Hid; rw [fl_zero, List.append_nil]; exact h
    clear h
    go_enter Tryz.func165, Tryz.ntmps165
    go_wp2
    go_end0
    exact ⟨rfl, v, FIN.out, ⟨rfl, rfl, rfl, Nat.le_refl _, fun _ _ _ _ => rfl⟩, fun t ht => Or.inl ht⟩
  · obtain ⟨i0, hi0, hz0, hz1, hz2⟩ := info_parts Tryz.infoF
    obtain ⟨va, vn, vc, rfl⟩ := fs_shape h.fs
    have hlt := h.bx.lt
    have c0 : W.cell? ⟨g, 0, none⟩ = some (.slice va vn vc) := h.bx.cell 0
    have he2 : (e != 0) = true := by simp [he]
    have HF : Hid (fl e at' = [(e, at')]) := by unfold Hid fl; rw [if_neg he]
    have HN : Hid (Nb W g (.slice va vn vc) L) := h
    have HA : Hid ((W.alloc (.cells #[.int .i64 e, .int .i64 at'] 172)).ownsRow (g + 1) 172 2 (.slice va vn vc) L.length (enF L)) := h.fs.alloc _
    clear h
    go_enter Tryz.func165, Tryz.ntmps165
    go_wp2_with (at_builtin; refine wpList_append_lies _ rfl (.tmp 7) (.tmp 11) 95 rfl (g + 1) 172 i0 _ 2 16 Tryz.underlying95 hi0 hz0 hz1 hz2 rfl (by decide) _ L.length (enF L) rfl HA.out ⟨W.heap.size, 0, none⟩ 1 1 [.int .i64 e, .int .i64 at'] rfl rfl (cell_two_new _ _ _ _) (by intro u hu; simp at hu; rcases hu with rfl | rfl <;> rfl) (by omega) (by unfold maxLen; omega) (by omega) (by simp; omega) (W.heap.size + 1) (by simp) ?_; intro g3 k3 w3 o3 gr3 at3 lt3; have HB3 : Hid (Blk w3 g 95 [.slice va vn vc]) := ((HN.out.bx.alloc _).of_eq (gr3.block g (by simp; omega) (fun e => by have := (HN.out.fs.lt g e.symm).1; omega))); have z0 : w3.cell? ⟨g, 0, none⟩ = some (.slice va vn vc) := HB3.out.cell 0; have z1 : w3.frozen? ⟨g, 0, none⟩ = false := HB3.out.frozen 0; have HGR : Hid ((W.alloc (.cells #[.int .i64 e, .int .i64 at'] 172)).grownBy w3 (Value.slice va vn vc).ownBlock) := gr3; have HO3 : Hid (w3.ownsRow (g + 1) 172 2 (.slice (some ⟨g3, 0, none⟩) (L.length + 1) k3) (L.length + 1) (enF L ++ [.int .i64 e, .int .i64 at'])) := o3; clear gr3 o3 c0 HA)
    go_end0
    have hg3 : g + 1 ≤ g3 := (HO3.out.lt g3 rfl).1
    refine ⟨rfl, .slice (some ⟨g3, 0, none⟩) (L.length + 1) k3, ⟨HB3.out.set 0 _, ?_⟩, ⟨HGR.out.os, HGR.out.tape, HGR.out.output, ?_, ?_⟩, ?_⟩
    · rw [HF.out]
      unfold Fs
      rw [List.length_append, enF_append]
      have hne : ∀ t, (Value.slice (some ⟨g3, 0, none⟩) (L.length + 1) k3).ownBlock = some t → t ≠ g := fun t ht => by
        obtain rfl : g3 = t := by simpa [Value.ownBlock] using ht
        omega
      exact owns_of_eq HO3.out (fun t ht => heap_set_ne (hne t ht) _ _)
    · have h1 := HGR.out.size
      have h2 : (W.alloc (.cells #[.int .i64 e, .int .i64 at'] 172)).heap.size = W.heap.size + 1 := by simp
      have h3 : w3.heap.size ≤ (w3.setCell ⟨g, 0, none⟩ (.slice (some ⟨g3, 0, none⟩) (L.length + 1) k3)).heap.size := (grown_setCell' w3 g 0 _).size
      omega
    · intro i hi hne hr
      rw [heap_set_ne hne]
      exact (HGR.out.block i (by simp; omega) hr).trans ((below_new W _).block i hi)
    · intro t ht
      obtain rfl : g3 = t := by simpa [Value.ownBlock] using ht
      rcases at3 with h | h
      · exact Or.inl h
      · exact Or.inr (by omega)
structure Sc (w0 w : World) (a : Ad) (c : Cf) (v : Value) (L : List (Int × Int)) : Prop where
  be : Below w0.heap.size w0 w
  bx : Sev w w0.heap.size a c
  ci0 : Cin w0 a c
  nb : Nb w (w0.heap.size + 1) v L
theorem Sc.ci {w0 w : World} {a : Ad} {c : Cf} {v : Value} {L : List (Int × Int)} (h : Sc w0 w a c v L) : Cin w a c := h.ci0.below h.be
theorem Nb.below {w w' : World} {g : Nat} {v : Value} {L : List (Int × Int)} (h : Nb w g v L) (k : Below w.heap.size w w') : Nb w' g v L :=
  ⟨h.bx.below k, owns_of_eq h.fs fun t ht => k.block t (h.fs.lt t ht).2⟩
theorem Sc.below {w0 w w' : World} {a : Ad} {c : Cf} {v : Value} {L : List (Int × Int)} (h : Sc w0 w a c v L) (k : Below w.heap.size w w') : Sc w0 w' a c v L :=
  ⟨h.be.trans (k.mono h.be.size), h.bx.below k, h.ci0, h.nb.below k⟩
theorem Sev.of_eq {w w' : World} {g : Nat} {a : Ad} {c : Cf} (h : Sev w g a c) (e : w'.heap[g]? = w.heap[g]?) (hs : g < w'.heap.size) : Sev w' g a c := by
  have hc : ∀ i, w'.cell? ⟨g, i, none⟩ = w.cell? ⟨g, i, none⟩ := fun i => World.cell?_of_block e
  exact ⟨hs, (hc 0).trans h.c0, (hc 1).trans h.c1, (hc 2).trans h.c2, (hc 3).trans h.c3, (hc 4).trans h.c4, (hc 5).trans h.c5, (hc 6).trans h.c6, (hc 7).trans h.c7, (hc 8).trans h.c8, (hc 9).trans h.c9, (hc 10).trans h.c10, (hc 11).trans h.c11, (hc 12).trans h.c12, (hc 13).trans h.c13, (hc 14).trans h.c14, (hc 15).trans h.c15, (hc 16).trans h.c16⟩
theorem Sc.noted {w0 w w' : World} {a : Ad} {c : Cf} {v v' : Value} {L L' : List (Int × Int)} (h : Sc w0 w a c v L) (k : Kn w w' (w0.heap.size + 1) v.ownBlock) (n : Nb w' (w0.heap.size + 1) v' L') : Sc w0 w' a c v' L' := by
  refine ⟨h.be.trans ⟨k.os, k.tape, k.output, k.size, fun i hi => k.block i (Nat.lt_of_lt_of_le hi h.be.size) (by omega) (fun e => by have := (h.nb.fs.lt i e.symm).1; omega)⟩, ?_, h.ci0, n⟩
  exact h.bx.of_eq (k.block _ h.bx.lt (by omega) (fun e => by have := (h.nb.fs.lt _ e.symm).1; omega)) (Nat.lt_of_lt_of_le h.bx.lt k.size)
theorem Kn.blk {w w' : World} {g e : Nat} {r : Option Nat} {ty : TypeId} {M : List Value} (k : Kn w w' g r) (h : Blk w e ty M) (h1 : e ≠ g) (h2 : some e ≠ r) : Blk w' e ty M := h.of_eq (k.block e h.lt h1 h2)
theorem sc_new {w : World} {a : Ad} {c : Cf} (h : Cin w a c) : Sc w ((w.alloc (.cells #[.int .i64 c.F, .int .i64 c.C, .int .i64 c.W, .int .i64 c.S, .int .i64 c.V, .int .i64 c.T, .int .u64 c.k.l1, .int .u64 c.k.llc, .int .u64 c.k.mi, .int .u64 c.k.fa, .int .u64 c.k.st, .int .u64 c.k.di, .int .u64 c.sl, .int .u64 c.pd, .int .u64 c.ft, .slice a.ta c.tn a.tc, .slice a.pa c.pn a.pc] 28)).alloc (.cells #[.slice none 0 0] 95)) a c (.slice none 0 0) [] :=
  ⟨below_two _ _ _, (sev_new w a c).below (below_new _ _), h, ⟨by simpa using blk_new (w.alloc (.cells #[.int .i64 c.F, .int .i64 c.C, .int .i64 c.W, .int .i64 c.S, .int .i64 c.V, .int .i64 c.T, .int .u64 c.k.l1, .int .u64 c.k.llc, .int .u64 c.k.mi, .int .u64 c.k.fa, .int .u64 c.k.st, .int .u64 c.k.di, .int .u64 c.sl, .int .u64 c.pd, .int .u64 c.ft, .slice a.ta c.tn a.tc, .slice a.pa c.pn a.pc] 28)) [.slice none 0 0] 95, Fs.nil _ _⟩⟩
def Chk (c : Cf) (w : World) (x : Ending) (w' : World) : Prop := ∃ v, x = .returned v ∧ Fs w' w.heap.size v (chk c) ∧ Below w.heap.size w w'
theorem fs_less {w : World} {b b' : Nat} {v : Value} {L : List (Int × Int)} (h : Fs w b v L) (hb : b' ≤ b) : Fs w b' v L := by
  rcases h with ⟨h0, h⟩
  refine ⟨h0, ?_⟩
  rcases h with h | ⟨g, cap, cur, h1, h2, h3⟩
  · exact Or.inl h
  · exact Or.inr ⟨g, cap, cur, h1, Nat.le_trans hb h2, h3⟩
end Go.Proofs.YtkbpnkjjmipjfaaGreat
