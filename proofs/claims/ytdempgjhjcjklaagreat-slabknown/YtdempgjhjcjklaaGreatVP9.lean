/- What plan's sliceSuffices, slicingWrong and the closure that notes faults give back; no condition but those named. -/
import Derived.Test.YtdempgjhjcjklaaGreatVP8
import Derived.Test.YtdempgjhjcjklaaGreatVCa
import Derived.Deep.AppendLies
import Derived.Laws.AppendOwnNone
namespace Go.Proofs.YtdempgjhjcjklaaGreat
open Go.ChangeShapes Go.WideShapes Go.ChangeAt Go.RowKit
set_option linter.unusedVariables false

/-- A configuration's box and a row of errnos that came in, beside what was there. -/
structure Ce (w0 w : World) (g e : Nat) (a : Ad) (c : Cf) (L : List Value) : Prop where
  be : Below w0.heap.size w0 w
  bx : Sev w g a c
  ci : Cin w a c
  er : Blk w e 36 L
theorem Ce.below {w0 w w' : World} {g e : Nat} {a : Ad} {c : Cf} {L : List Value} (h : Ce w0 w g e a c L) (k : Below w.heap.size w w') : Ce w0 w' g e a c L :=
  ⟨h.be.trans (k.mono h.be.size), h.bx.below k, h.ci.below k, h.er.below k⟩
set_option maxRecDepth 20000 in
set_option maxHeartbeats 2000000 in
theorem sliceSuffices_ok {w : World} {a : Ad} {c : Cf} {e n : Nat} (hc : Cin w a c) (hk : okC c.k = true) (hn : n ≤ c.pn) (hn8 : n ≤ 8) (he : Blk w e 36 (pbL c n n)) :
    Calls Tryz.prog 163 #[.agg #[.int .i64 c.F, .int .i64 c.C, .int .i64 c.W, .int .i64 c.S, .int .i64 c.V, .int .i64 c.T, .int .u64 c.k.l1, .int .u64 c.k.llc, .int .u64 c.k.mi, .int .u64 c.k.fa, .int .u64 c.k.st, .int .u64 c.k.di, .int .u64 c.sl, .int .u64 c.pd, .int .u64 c.ft, .slice a.ta c.tn a.tc, .slice a.pa c.pn a.pc], .slice (some ⟨e, 0, none⟩) n n] w (One (.bool (allS c n)) w) := by
  have HB0 := cb_new hc
  have he1 := he.below (below_new w (.cells #[.int .i64 c.F, .int .i64 c.C, .int .i64 c.W, .int .i64 c.S, .int .i64 c.V, .int .i64 c.T, .int .u64 c.k.l1, .int .u64 c.k.llc, .int .u64 c.k.mi, .int .u64 c.k.fa, .int .u64 c.k.st, .int .u64 c.k.di, .int .u64 c.sl, .int .u64 c.pd, .int .u64 c.ft, .slice a.ta c.tn a.tc, .slice a.pa c.pn a.pc] 28))
  have hpl := hc.pl
  have SH : Hid (∀ p w', pBad c p = 0 → Calls Tryz.prog 183 #[.agg #[.slice (a.ca p) (c.pf p).n (a.cc p), .int .i64 (c.pf p).o, .int .i64 (c.pf p).u, .int .i64 (c.pf p).t, .int .i64 (c.pf p).s, .int .i64 (c.pf p).r, .int .i64 (c.pf p).d, .int .i64 (c.pf p).z]] w' (One (.agg #[.int .i64 (shp (c.pf p)).im, .int .i64 (shp (c.pf p)).us, .int .i64 (shp (c.pf p)).li, .int .i64 (shp (c.pf p)).no]) w')) := fun p w' h => by
    have k := pBad_iff.1 h
    exact shape_ok k.o0 k.o1 (by have := k.u0; omega) k.u1 (by have := k.z0; omega) k.z1 (by have := k.d0; omega) k.d1
  have MS : Hid (∀ p w', pBad c p = 0 → Calls Tryz.prog 182 #[.agg #[.int .u64 c.k.l1, .int .u64 c.k.llc, .int .u64 c.k.mi, .int .u64 c.k.fa, .int .u64 c.k.st, .int .u64 c.k.di], .agg #[.int .i64 (shp (c.pf p)).im, .int .i64 (shp (c.pf p)).us, .int .i64 (shp (c.pf p)).li, .int .i64 (shp (c.pf p)).no]] w' (Two (mx c.k (shp (c.pf p)) 11) 0 w')) := fun p w' h => Most_ok c.k (shp (c.pf p)) (okC_iff.1 hk) (pBad_iff.1 h).shape w'
  have HFS : Hid (∀ p, allS c (p + 1) = (allS c p && (!decide (pBad c p = 0) || decide (mx c.k (shp (c.pf p)) 11 ≤ c.sl)))) := fun p => rfl
  have HNo : Hid (∀ p, p < n → fitS c p = false → allS c n = false) := fun p hp h => by
    cases e : allS c n
    · rfl
    · rw [allS_iff.1 e p hp] at h; cases h
  have HNf : Hid (∀ p, fitS c p = (!decide (pBad c p = 0) || decide (mx c.k (shp (c.pf p)) 11 ≤ c.sl))) := fun p => rfl
  clear hc hk he
  go_enter Tryz.func163, Tryz.ntmps163
  go_wp2
  obtain ⟨W, hW, HB⟩ : ∃ W, (w.alloc (.cells #[.int .i64 c.F, .int .i64 c.C, .int .i64 c.W, .int .i64 c.S, .int .i64 c.V, .int .i64 c.T, .int .u64 c.k.l1, .int .u64 c.k.llc, .int .u64 c.k.mi, .int .u64 c.k.fa, .int .u64 c.k.st, .int .u64 c.k.di, .int .u64 c.sl, .int .u64 c.pd, .int .u64 c.ft, .slice a.ta c.tn a.tc, .slice a.pa c.pn a.pc] 28)) = W ∧ Hid (Ce w W w.heap.size e a c (pbL c n n)) := ⟨_, rfl, ⟨HB0.be, HB0.bx, HB0.ci, he1⟩⟩
  rw [hW]
  clear hW HB0 he1
  go_loopw [11] (fun i wr => ∃ k : Nat, k ≤ n ∧ i = .int .i64 k ∧ allS c k = true ∧ Ce w wr w.heap.size e a c (pbL c n n)) (fun i _ => n - (intOf i).toNat)
  case atStart => exact ⟨0, by omega, rfl, rfl, HB.out⟩
  case round =>
    clear HB
    obtain ⟨k, hk, rfl, hs, hB⟩ := hrel
    have HS : Hid (allS c k = true) := hs
    have HB : Hid (Ce w wr w.heap.size e a c (pbL c n n)) := hB
    clear hs hB
    by_cases hlt : k < n
    · have d1 : wr.cell? ⟨e, k, none⟩ = some (.int .i64 (pBad c k)) := by rw [HB.out.er.cell k, pbL_get hlt]; simp [hlt]
      have HF1 : Hid (allS c (k + 1) = (allS c k && (!decide (pBad c k = 0) || decide (mx c.k (shp (c.pf k)) 11 ≤ c.sl)))) := HFS.out k
      have HN1 : Hid ((!decide (pBad c k = 0) || decide (mx c.k (shp (c.pf k)) 11 ≤ c.sl)) = false → allS c n = false) := fun h => HNo.out k hlt (by rw [HNf.out]; exact h)
      have SHk : Hid (∀ w', pBad c k = 0 → Calls Tryz.prog 183 #[.agg #[.slice (a.ca k) (c.pf k).n (a.cc k), .int .i64 (c.pf k).o, .int .i64 (c.pf k).u, .int .i64 (c.pf k).t, .int .i64 (c.pf k).s, .int .i64 (c.pf k).r, .int .i64 (c.pf k).d, .int .i64 (c.pf k).z]] w' (One (.agg #[.int .i64 (shp (c.pf k)).im, .int .i64 (shp (c.pf k)).us, .int .i64 (shp (c.pf k)).li, .int .i64 (shp (c.pf k)).no]) w')) := fun w' h => SH.out k w' h
      have MSk : Hid (∀ w', pBad c k = 0 → Calls Tryz.prog 182 #[.agg #[.int .u64 c.k.l1, .int .u64 c.k.llc, .int .u64 c.k.mi, .int .u64 c.k.fa, .int .u64 c.k.st, .int .u64 c.k.di], .agg #[.int .i64 (shp (c.pf k)).im, .int .i64 (shp (c.pf k)).us, .int .i64 (shp (c.pf k)).li, .int .i64 (shp (c.pf k)).no]] w' (Two (mx c.k (shp (c.pf k)) 11) 0 w')) := fun w' h => MS.out k w' h
      clear HFS HNo HNf SH MS
      generalize pBad c k = pb at *
      have hkn : (k : Int) < (c.pn : Int) := by omega
      have hk0 : (0 : Int) ≤ (k : Int) := by omega
      by_cases hp : pb = 0
      · subst hp
        generalize mx c.k (shp (c.pf k)) 11 = M at *
        generalize shp (c.pf k) = s at *
        obtain ⟨b, off, hq, HEg⟩ := HB.out.ci.p.at' (show k < c.pn by omega)
        have HQ : Hid (a.pa = some ⟨b, off, none⟩) := hq
        have hF6 : ∀ i : Idx (fun W => Ce w W w.heap.size e a c (pbL c n n) ∧ Eig W b (off + k * 8) (a.ca k) (a.cc k) (c.pf k)), i.W.cell? ⟨w.heap.size, 6, none⟩ = some (.int .u64 c.k.l1) := fun i => i.h.1.bx.c6
        have hF7 : ∀ i : Idx (fun W => Ce w W w.heap.size e a c (pbL c n n) ∧ Eig W b (off + k * 8) (a.ca k) (a.cc k) (c.pf k)), i.W.cell? ⟨w.heap.size, 7, none⟩ = some (.int .u64 c.k.llc) := fun i => i.h.1.bx.c7
        have hF8 : ∀ i : Idx (fun W => Ce w W w.heap.size e a c (pbL c n n) ∧ Eig W b (off + k * 8) (a.ca k) (a.cc k) (c.pf k)), i.W.cell? ⟨w.heap.size, 8, none⟩ = some (.int .u64 c.k.mi) := fun i => i.h.1.bx.c8
        have hF9 : ∀ i : Idx (fun W => Ce w W w.heap.size e a c (pbL c n n) ∧ Eig W b (off + k * 8) (a.ca k) (a.cc k) (c.pf k)), i.W.cell? ⟨w.heap.size, 9, none⟩ = some (.int .u64 c.k.fa) := fun i => i.h.1.bx.c9
        have hF10 : ∀ i : Idx (fun W => Ce w W w.heap.size e a c (pbL c n n) ∧ Eig W b (off + k * 8) (a.ca k) (a.cc k) (c.pf k)), i.W.cell? ⟨w.heap.size, 10, none⟩ = some (.int .u64 c.k.st) := fun i => i.h.1.bx.c10
        have hF11 : ∀ i : Idx (fun W => Ce w W w.heap.size e a c (pbL c n n) ∧ Eig W b (off + k * 8) (a.ca k) (a.cc k) (c.pf k)), i.W.cell? ⟨w.heap.size, 11, none⟩ = some (.int .u64 c.k.di) := fun i => i.h.1.bx.c11
        have hF16 : ∀ i : Idx (fun W => Ce w W w.heap.size e a c (pbL c n n) ∧ Eig W b (off + k * 8) (a.ca k) (a.cc k) (c.pf k)), i.W.cell? ⟨w.heap.size, 16, none⟩ = some (.slice (some ⟨b, off, none⟩) c.pn a.pc) := fun i => by rw [← HQ.out]; exact i.h.1.bx.c16
        have hE0 : ∀ i : Idx (fun W => Ce w W w.heap.size e a c (pbL c n n) ∧ Eig W b (off + k * 8) (a.ca k) (a.cc k) (c.pf k)), i.W.cell? ⟨b, off + k * 8, none⟩ = some (.slice (a.ca k) (c.pf k).n (a.cc k)) := fun i => i.h.2.c0
        have hE1 : ∀ i : Idx (fun W => Ce w W w.heap.size e a c (pbL c n n) ∧ Eig W b (off + k * 8) (a.ca k) (a.cc k) (c.pf k)), i.W.cell? ⟨b, off + k * 8 + 1, none⟩ = some (.int .i64 (c.pf k).o) := fun i => i.h.2.c1
        have hE2 : ∀ i : Idx (fun W => Ce w W w.heap.size e a c (pbL c n n) ∧ Eig W b (off + k * 8) (a.ca k) (a.cc k) (c.pf k)), i.W.cell? ⟨b, off + k * 8 + 2, none⟩ = some (.int .i64 (c.pf k).u) := fun i => i.h.2.c2
        have hE3 : ∀ i : Idx (fun W => Ce w W w.heap.size e a c (pbL c n n) ∧ Eig W b (off + k * 8) (a.ca k) (a.cc k) (c.pf k)), i.W.cell? ⟨b, off + k * 8 + 3, none⟩ = some (.int .i64 (c.pf k).t) := fun i => i.h.2.c3
        have hE4 : ∀ i : Idx (fun W => Ce w W w.heap.size e a c (pbL c n n) ∧ Eig W b (off + k * 8) (a.ca k) (a.cc k) (c.pf k)), i.W.cell? ⟨b, off + k * 8 + 4, none⟩ = some (.int .i64 (c.pf k).s) := fun i => i.h.2.c4
        have hE5 : ∀ i : Idx (fun W => Ce w W w.heap.size e a c (pbL c n n) ∧ Eig W b (off + k * 8) (a.ca k) (a.cc k) (c.pf k)), i.W.cell? ⟨b, off + k * 8 + 5, none⟩ = some (.int .i64 (c.pf k).r) := fun i => i.h.2.c5
        have hE6 : ∀ i : Idx (fun W => Ce w W w.heap.size e a c (pbL c n n) ∧ Eig W b (off + k * 8) (a.ca k) (a.cc k) (c.pf k)), i.W.cell? ⟨b, off + k * 8 + 6, none⟩ = some (.int .i64 (c.pf k).d) := fun i => i.h.2.c6
        have hE7 : ∀ i : Idx (fun W => Ce w W w.heap.size e a c (pbL c n n) ∧ Eig W b (off + k * 8) (a.ca k) (a.cc k) (c.pf k)), i.W.cell? ⟨b, off + k * 8 + 7, none⟩ = some (.int .i64 (c.pf k).z) := fun i => i.h.2.c7
        have hne : Nonempty (Idx (fun W => Ce w W w.heap.size e a c (pbL c n n) ∧ Eig W b (off + k * 8) (a.ca k) (a.cc k) (c.pf k))) := ⟨⟨wr, HB.out, HEg⟩⟩
        go_upto_region 5 with fail
        refine wp_region_cls (fun W => Ce w W w.heap.size e a c (pbL c n n) ∧ Eig W b (off + k * 8) (a.ca k) (a.cc k) (c.pf k)) (by kernel_rfl) (by kernel_rfl) ⟨HB.out.below (below_drew _ _), HEg.below (below_drew _ _)⟩ ?_
        repeat (go_big_quiet_step (first | (go_at_call 183; exact Calls.cls (SHk.out _ rfl) (fun _ _ h k => ⟨h.1.below k, h.2.below k⟩)) | (go_at_call 182; exact Calls.cls (MSk.out _ rfl) (fun _ _ h k => ⟨h.1.below k, h.2.below k⟩))))
        refine wpQuiet_nil ?_
        rintro w3 ⟨⟨_, hS3⟩, rfl⟩
        have HB3 : Hid (Ce w w3 w.heap.size e a c (pbL c n n)) := hS3.1
        have c12 := hS3.1.bx.c12
        clear hS3 hF6 hF7 hF8 hF9 hF10 hF11 hF16 hE0 hE1 hE2 hE3 hE4 hE5 hE6 hE7 hne SHk MSk HB HEg hq d1
        by_cases hM : c.sl < M
        · have hM2 : (!decide ((0 : Int) = 0) || decide (M ≤ c.sl)) = false := by simp; omega
          go_wp2
          go_ret
          exact ⟨ret_bool (HN1.out hM2).symm, HB3.out.be⟩
        · have hM2 : (!decide ((0 : Int) = 0) || decide (M ≤ c.sl)) = true := by simp; omega
          go_wp2
          go_roundw
          case rel => exact ⟨k + 1, by omega, by go_num, by rw [HF1.out, HS.out, hM2]; rfl, HB3.out⟩
          case measure => simp [intOf]; omega
      · have hp1 : decide (pb = 0) = false := by simp [hp]
        go_wp2
        go_roundw
        case rel => exact ⟨k + 1, by omega, by go_num, by rw [HF1.out, HS.out, hp1]; rfl, HB.out⟩
        case measure => simp [intOf]; omega
    · obtain rfl : k = n := by omega
      go_wp2
      go_ret
      exact ⟨ret_bool HS.out.symm, HB.out.be⟩
end Go.Proofs.YtdempgjhjcjklaaGreat
