/- What New of the document's pool gives back; no condition but those that each theorem names. -/
import Derived.Test.YtdempgjhjcjklaaGreatVXb
import Derived.Test.YtdempgjhjcjklaaGreatVPe
import Derived.Test.YtdempgjhjcjklaaGreatVRx
import Derived.Test.YtdempgjhjcjklaaGreatVWb
import Derived.Deep.CutRange
namespace Go.Proofs.YtdempgjhjcjklaaGreat.P
open Go.ChangeShapes Go.WideShapes Go.ChangeAt Go.RowKit
set_option linter.unusedVariables false
set_option maxRecDepth 8192

theorem Tryz.infoU8 : (Tryz.prog.info? 5).map (fun i => (i.zero, i.size, i.bytes)) = some (some (.int .u8 0), 1, 1) := by kernel_rfl
theorem makeU (n : Nat) (hn : n ≤ 4096) (w : World) : (Instr.makeSlice 115 (.int .i64 n) (.int .i64 n)).run Tryz.prog w = .ok (.slice (some ⟨w.heap.size, 0, none⟩) n n) (w.alloc (.cells (List.replicate n (.int .u8 0)).toArray 5)) := by
  obtain ⟨i0, hi, hz0, hz1, hz2⟩ := info_parts Tryz.infoU8
  have h := run_makeSlice (P := Tryz.prog) w 115 5 i0 (.int .u8 0) Tryz.underlying115 hi hz0 .i64 .i64 n n (by omega) (by omega) (by rw [hz1]; simp; omega) (by rw [hz2]; omega) (by omega)
  rw [h]
  have e : madeCells (Value.int .u8 0).cells ((n : Int).toNat * i0.size) = (List.replicate n (.int .u8 0)).toArray := by
    apply Array.toList_inj.1
    rw [hz1, Int.toNat_natCast]
    show (madeCells #[.int .u8 0] (n * 1)).toList = _
    rw [toList_madeCells_one, Nat.mul_one]
  rw [e, Int.toNat_natCast]
theorem rNewP_no {w : World} {a : Ad} {c : Cf} (hc : Cin w a c) (p : Int) (hf : fe c p ≠ 0) : Calls Tryz.prog 26 #[.agg #[.int .i64 c.F, .int .i64 c.C, .int .i64 c.W, .int .i64 c.S, .int .i64 c.V, .int .i64 c.T, .int .u64 c.k.l1, .int .u64 c.k.llc, .int .u64 c.k.mi, .int .u64 c.k.fa, .int .u64 c.k.st, .int .u64 c.k.di, .int .u64 c.sl, .int .u64 c.pd, .int .u64 c.ft, .slice a.ta c.tn a.tc, .slice a.pa c.pn a.pc], .int .i64 p] w fun e w' => e = .returned (.tuple #[.pointer none, .int .i64 (fe c p)]) ∧ Below w.heap.size w w' := by
  have HB0 := cb_new hc
  have C1 : Hid (∀ w', Cin w' a c → Calls Tryz.prog 59 #[.agg #[.int .i64 c.F, .int .i64 c.C, .int .i64 c.W, .int .i64 c.S, .int .i64 c.V, .int .i64 c.T, .int .u64 c.k.l1, .int .u64 c.k.llc, .int .u64 c.k.mi, .int .u64 c.k.fa, .int .u64 c.k.st, .int .u64 c.k.di, .int .u64 c.sl, .int .u64 c.pd, .int .u64 c.ft, .slice a.ta c.tn a.tc, .slice a.pa c.pn a.pc], .int .i64 p] w' (Ti 0 (fe c p) w')) := fun w' h => rTotal_no h p hf
  have hld := HB0.bx.ld
  clear hc
  generalize fe c p = e0 at *
  go_enter Tryz.func26, Tryz.ntmps26
  go_upto_region 1 with fail
  obtain ⟨W, hW, HB⟩ : ∃ W, (w.alloc (.cells #[.int .i64 c.F, .int .i64 c.C, .int .i64 c.W, .int .i64 c.S, .int .i64 c.V, .int .i64 c.T, .int .u64 c.k.l1, .int .u64 c.k.llc, .int .u64 c.k.mi, .int .u64 c.k.fa, .int .u64 c.k.st, .int .u64 c.k.di, .int .u64 c.sl, .int .u64 c.pd, .int .u64 c.ft, .slice a.ta c.tn a.tc, .slice a.pa c.pn a.pc] 28)) = W ∧ Hid (Cb w W w.heap.size a c) := ⟨_, rfl, HB0⟩
  rw [hW] at hld
  rw [hW]
  clear hW HB0
  go_wp2_with (refine wpList_load_at rfl 28 (.tmp 2) rfl _ _ rfl hld ?_)
  refine (C1.out _ HB.out.ci).mono ?_
  rintro _ w1 ⟨rfl, k1⟩
  have H1 : Hid (Cb w w1 w.heap.size a c) := HB.out.below k1
  clear HB k1 hld C1
  go_wp2
  go_ret2
  exact ⟨rfl, H1.out.be⟩
structure Ns (w wx : World) (a : Ad) (c : Cf) (q' : Option Addr) (m : Nat) (x : Pa) (q gu n : Nat) : Prop where
  cb : Cb w wx w.heap.size a c
  bq : B.Blk wx q 118 [.int .i64 c.F, .int .i64 c.C, .int .i64 c.W, .int .i64 c.S, .int .i64 c.V, .int .i64 c.T, .int .u64 c.k.l1, .int .u64 c.k.llc, .int .u64 c.k.mi, .int .u64 c.k.fa, .int .u64 c.k.st, .int .u64 c.k.di, .int .u64 c.sl, .int .u64 c.pd, .int .u64 c.ft, .slice a.ta c.tn a.tc, .slice a.pa c.pn a.pc, .slice q' x.n m, .int .i64 x.o, .int .i64 x.u, .int .i64 x.t, .int .i64 x.s, .int .i64 x.r, .int .i64 x.d, .int .i64 x.z, .slice none 0 0, .slice (some ⟨gu, 0, none⟩) n n, .bool false, .bool true]
  bu : B.Blk wx gu 5 (List.replicate n (.int .u8 0))
  lq : w.heap.size < q
  lu : w.heap.size < gu
  ne : q ≠ gu
theorem ns_new {w w1 W : World} {a : Ad} {c : Cf} {q' : Option Addr} {m : Nat} {x : Pa} {n : Nat} (h : Cb w w1 w.heap.size a c) (hW : Below w1.heap.size w1 W) : Ns w ((W.alloc (.cells (List.replicate n (.int .u8 0)).toArray 5)).alloc (.cells #[.int .i64 c.F, .int .i64 c.C, .int .i64 c.W, .int .i64 c.S, .int .i64 c.V, .int .i64 c.T, .int .u64 c.k.l1, .int .u64 c.k.llc, .int .u64 c.k.mi, .int .u64 c.k.fa, .int .u64 c.k.st, .int .u64 c.k.di, .int .u64 c.sl, .int .u64 c.pd, .int .u64 c.ft, .slice a.ta c.tn a.tc, .slice a.pa c.pn a.pc, .slice q' x.n m, .int .i64 x.o, .int .i64 x.u, .int .i64 x.t, .int .i64 x.s, .int .i64 x.r, .int .i64 x.d, .int .i64 x.z, .slice none 0 0, .slice (some ⟨W.heap.size, 0, none⟩) n n, .bool false, .bool true] 118)) a c q' m x (W.heap.size + 1) W.heap.size n := by
  have h1 := h.below hW
  have hlt := h1.bx.lt
  have k2 := B.blk_new (W.alloc (.cells (List.replicate n (.int .u8 0)).toArray 5)) [.int .i64 c.F, .int .i64 c.C, .int .i64 c.W, .int .i64 c.S, .int .i64 c.V, .int .i64 c.T, .int .u64 c.k.l1, .int .u64 c.k.llc, .int .u64 c.k.mi, .int .u64 c.k.fa, .int .u64 c.k.st, .int .u64 c.k.di, .int .u64 c.sl, .int .u64 c.pd, .int .u64 c.ft, .slice a.ta c.tn a.tc, .slice a.pa c.pn a.pc, .slice q' x.n m, .int .i64 x.o, .int .i64 x.u, .int .i64 x.t, .int .i64 x.s, .int .i64 x.r, .int .i64 x.d, .int .i64 x.z, .slice none 0 0, .slice (some ⟨W.heap.size, 0, none⟩) n n, .bool false, .bool true] 118
  rw [show (W.alloc (.cells (List.replicate n (.int .u8 0)).toArray 5)).heap.size = W.heap.size + 1 by simp] at k2
  exact ⟨(h1.alloc _).alloc _, k2, (B.blk_new W _ _).of_eq ((below_new _ _).block _ (by simp)), by omega, hlt, by omega⟩
theorem xp_new {W : World} {a : Ad} {c : Cf} {q' : Option Addr} {m : Nat} {x : Pa} {q gu n gc cc : Nat} {P : Par} (eC : c.C = P.C) (eo : x.o = P.o) (e2 : x.u = P.q 2) (e3 : x.t = P.q 3) (e4 : x.s = P.q 4) (e5 : x.r = P.q 5) (e6 : x.d = P.q 6) (en : P.N * P.C = n)
    (hb : B.Blk W q 118 ([.int .i64 c.F, .int .i64 c.C, .int .i64 c.W, .int .i64 c.S, .int .i64 c.V, .int .i64 c.T, .int .u64 c.k.l1, .int .u64 c.k.llc, .int .u64 c.k.mi, .int .u64 c.k.fa, .int .u64 c.k.st, .int .u64 c.k.di, .int .u64 c.sl, .int .u64 c.pd, .int .u64 c.ft, .slice a.ta c.tn a.tc, .slice a.pa c.pn a.pc, .slice q' x.n m, .int .i64 x.o, .int .i64 x.u, .int .i64 x.t, .int .i64 x.s, .int .i64 x.r, .int .i64 x.d, .int .i64 x.z, .slice none 0 0, .slice (some ⟨gu, 0, none⟩) n n, .bool false, .bool true].set 17 (.slice (some ⟨gc, 0, none⟩) P.k cc))) (ho : B.Own W (.slice (some ⟨gc, 0, none⟩) P.k cc) (cols P)) (hu : B.Blk W gu 5 (List.replicate n (.int .u8 0))) (n1 : q ≠ gc) (n2 : q ≠ gu) (n3 : gc ≠ gu) :
    Xp W 0 q gc cc gu (.slice none 0 0) false (fun _ _ => False) (fun _ => 0) P (fun _ _ => false) (fun _ _ => none) (fun _ => none) := by
  refine ⟨by omega, hb.lt, fun i => hb.frozen i, ?_, hb.cell 17, ?_, fun u h1 h2 => ?_, hb.cell 25, ?_, hb.cell 27, hb.cell 28, ho, ?_, World.ownsRow_nil _ _ _ _, fun i hi => by omega, n1, n2, n3, (fun g hg => by cases hg), (fun i hi => by omega), (fun i g hi => by omega), (fun i j y hi => by omega)⟩
  · rw [hb.cell 1, ← eC]; rfl
  · rw [hb.cell 18, ← eo]; rfl
  · rw [hb.cell]
    rcases (show u = 2 ∨ u = 3 ∨ u = 4 ∨ u = 5 ∨ u = 6 by omega) with rfl | rfl | rfl | rfl | rfl
    · rw [← e2]; rfl
    · rw [← e3]; rfl
    · rw [← e4]; rfl
    · rw [← e5]; rfl
    · rw [← e6]; rfl
  · rw [hb.cell 26, en]; rfl
  · rw [uL_none, en]; exact hu
structure Nl (w wr : World) (a : Ad) (c : Cf) (j q gc cc gu : Nat) (vl : Value) (G : Nat → Nat → Prop) (bp : Nat → Nat) (P : Par) (op : Nat → Nat → Bool) (tk : Nat → Nat → Option Nat) : Prop where
  cb : Cb w wr w.heap.size a c
  xp : Xp wr j q gc cc gu vl false G bp P op tk (fun _ => none)
  fo : ∀ x, xfoot j q gc gu vl G x → w.heap.size < x
  nw : ∀ i, i < j → op i = B.op0 P.N ∧ tk i = fun _ => none
theorem row_form {w : World} {v : Value} {j : Nat} {xs : List Value} {t : TypeId} (h : w.ownsRow 0 t 1 v j xs) : ∃ ao cp, v = .slice ao j cp := by
  rcases h.2 with ⟨e, e2⟩ | ⟨g, cap, cur, e, _⟩
  · exact ⟨none, 0, by rw [e, e2]⟩
  · exact ⟨_, _, e⟩
theorem Tryz.infoP : (Tryz.prog.info? 119).map (fun i => (i.zero, i.size, i.bytes)) = some (some (.pointer none), 1, 8) := by kernel_rfl
theorem Nl.more {w wr w5 w6 : World} {a : Ad} {c : Cf} {j q gc cc gu : Nat} {vl : Value} {G : Nat → Nat → Prop} {bp : Nat → Nat} {P : Par} {op : Nat → Nat → Bool} {tk : Nat → Nat → Option Nat} (hc : Cin w a c) (h : Nl w wr a c j q gc cc gu vl G bp P op tk) (hj : j < P.k) {H : Nat → Prop} {b : Nat}
    (k : B.Kp (fun _ => False) H wr w5) (hB : B.Re w5 H b P.N (B.op0 P.N) (fun _ => none)) (g2 : w5.grownBy w6 vl.ownBlock) (gl c2 : Nat) (o2 : w6.ownsRow 0 119 1 (.slice (some ⟨gl, 0, none⟩) (j + 1) c2) (j + 1) (ptrs bp j ++ [.pointer (some ⟨b, 0, none⟩)])) (at2 : vl.ownBlock = some gl ∨ w5.heap.size ≤ gl) :
    Nl w (w6.setCell ⟨q, 25, none⟩ (.slice (some ⟨gl, 0, none⟩) (j + 1) c2)) a c (j + 1) q gc cc gu (.slice (some ⟨gl, 0, none⟩) (j + 1) c2) (B.put G j H) (B.put bp j b) P (B.put op j (B.op0 P.N)) (B.put tk j (fun _ => none)) := by
  have hkg : wr.grownBy w5 none := ⟨k.os, k.tape, k.output, k.size, fun i hi _ => k.block i hi (fun z => z)⟩
  have hq := h.fo q (Or.inl rfl)
  have hlt := h.cb.bx.lt
  refine ⟨Cb.keep hc (Cb.keep hc (Cb.keep hc h.cb hkg (by simp)) g2 (fun y hy => h.fo y (Or.inr (Or.inr (Or.inr (Or.inl hy)))))) (B.grown_setCell' _ _ _ _) (by rintro y e; injection e with e; subst e; exact hq), h.xp.grow hj k hB g2 gl c2 o2 at2, ?_, fun i hi => ?_⟩
  · rintro y (rfl | rfl | rfl | hy | ⟨i, hi, hy⟩)
    · exact hq
    · exact h.fo _ (Or.inr (Or.inl rfl))
    · exact h.fo _ (Or.inr (Or.inr (Or.inl rfl)))
    · obtain rfl : gl = y := by simpa [Value.ownBlock] using hy
      rcases at2 with z | z
      · exact h.fo _ (Or.inr (Or.inr (Or.inr (Or.inl z))))
      · have := k.size
        omega
    · by_cases e2 : i = j
      · subst e2
        rw [B.put_same] at hy
        rcases k.new y hy with z | z
        · exact z.elim
        · omega
      · rw [B.put_other _ _ _ _ e2] at hy
        exact h.fo _ (Or.inr (Or.inr (Or.inr (Or.inr ⟨i, by omega, hy⟩))))
  · by_cases e2 : i = j
    · subst e2
      rw [B.put_same, B.put_same]
      exact ⟨rfl, rfl⟩
    · rw [B.put_other _ _ _ _ e2, B.put_other _ _ _ _ e2]
      exact h.nw i (by omega)
theorem Nl.done {w wr : World} {a : Ad} {c : Cf} {q gc cc gu : Nat} {vl : Value} {G : Nat → Nat → Prop} {bp : Nat → Nat} {P : Par} {op : Nat → Nat → Bool} {tk : Nat → Nat → Option Nat} (hP : P.Ok) (h : Nl w wr a c P.k q gc cc gu vl G bp P op tk) : ∃ F, Ro wr F q P (fun _ => none) ∧ B.Kp (fun _ => False) F w wr := by
  refine ⟨xfoot P.k q gc gu vl G, ⟨hP, va_new P, gc, cc, gu, vl, G, bp, fun _ => B.nwL P.N, tk, ?_, ⟨fun i hi => ?_, fun i x u _ _ h => ?_, fun u => rfl⟩, fun _ => Iff.rfl⟩, ?_⟩
  · rw [cU_none, decide_eq_false (by omega)]
    exact h.xp.congr (fun i hi => by rw [(h.nw i hi).1, opn_new])
  · rw [(h.nw i hi).2, opn_new]
    exact B.St.new _
  · cases h
  · have hb := h.cb.be
    exact ⟨hb.os, hb.tape, hb.output, hb.size, fun i hi _ => hb.block i hi, fun y hy => Or.inr (Nat.le_of_lt (h.fo y hy))⟩
set_option maxHeartbeats 4000000 in
theorem rNewP_p {w : World} {a : Ad} {c : Cf} (hc : Cin w a c) (n : Nat) (hm : may c = true) (hn : n < c.pn) : Calls Tryz.prog 26 #[.agg #[.int .i64 c.F, .int .i64 c.C, .int .i64 c.W, .int .i64 c.S, .int .i64 c.V, .int .i64 c.T, .int .u64 c.k.l1, .int .u64 c.k.llc, .int .u64 c.k.mi, .int .u64 c.k.fa, .int .u64 c.k.st, .int .u64 c.k.di, .int .u64 c.sl, .int .u64 c.pd, .int .u64 c.ft, .slice a.ta c.tn a.tc, .slice a.pa c.pn a.pc], .int .i64 n] w fun e w' => ∃ p F, e = .returned (.tuple #[.pointer (some ⟨p, 0, none⟩), .int .i64 0]) ∧ Ro w' F p (par c n) (fun _ => none) ∧ B.Kp (fun _ => False) F w w' := by
  have HB0 := cb_new hc
  have hO := may_iff.1 hm
  have hP := par_ok hO hn
  have r := prn_of hO hn
  have k := hO.part hn
  have hpl := hc.pl
  have C1 : Hid (∀ w', Cin w' a c → Calls Tryz.prog 59 #[.agg #[.int .i64 c.F, .int .i64 c.C, .int .i64 c.W, .int .i64 c.S, .int .i64 c.V, .int .i64 c.T, .int .u64 c.k.l1, .int .u64 c.k.llc, .int .u64 c.k.mi, .int .u64 c.k.fa, .int .u64 c.k.st, .int .u64 c.k.di, .int .u64 c.sl, .int .u64 c.pd, .int .u64 c.ft, .slice a.ta c.tn a.tc, .slice a.pa c.pn a.pc], .int .i64 n] w' (Ti ((c.pf n).n * (c.F / c.C)) 0 w')) := fun w' h => rTotal_ok h n hm hn
  have hld := HB0.bx.ld
  have hp1 : (n : Int) < (c.pn : Int) := by omega
  have hp0 : (0 : Int) ≤ (n : Int) := by omega
  have HCin : Hid (Cin w a c) := hc
  have HO : Hid c.Ok := hO
  have HP : Hid (par c n).Ok := hP
  have HR : Hid (Prn c n) := r
  have HK : Hid (POk c n) := k
  have hF : c.F = (((par c n).N * (par c n).C : Nat) : Int) := by
    rw [Int.natCast_mul, r.N, r.C, (div_frames hO.m).2]
  have hmk : ∀ W : World, (Instr.makeSlice 115 (.int .i64 c.F) (.int .i64 c.F)).run Tryz.prog W = .ok (.slice (some ⟨W.heap.size, 0, none⟩) ((par c n).N * (par c n).C) ((par c n).N * (par c n).C)) (W.alloc (.cells (List.replicate ((par c n).N * (par c n).C) (.int .u8 0)).toArray 5)) := fun W => by
    rw [hF]
    exact makeU _ hP.NF W
  clear hc hm hO hP r k hF
  go_enter Tryz.func26, Tryz.ntmps26
  go_upto_region 1 with fail
  obtain ⟨W, hW, HB⟩ : ∃ W, (w.alloc (.cells #[.int .i64 c.F, .int .i64 c.C, .int .i64 c.W, .int .i64 c.S, .int .i64 c.V, .int .i64 c.T, .int .u64 c.k.l1, .int .u64 c.k.llc, .int .u64 c.k.mi, .int .u64 c.k.fa, .int .u64 c.k.st, .int .u64 c.k.di, .int .u64 c.sl, .int .u64 c.pd, .int .u64 c.ft, .slice a.ta c.tn a.tc, .slice a.pa c.pn a.pc] 28)) = W ∧ Hid (Cb w W w.heap.size a c) := ⟨_, rfl, HB0⟩
  rw [hW] at hld
  rw [hW]
  clear hW HB0
  go_wp2_with (refine wpList_load_at rfl 28 (.tmp 2) rfl _ _ rfl hld ?_)
  refine (C1.out _ HB.out.ci).mono ?_
  rintro _ w1 ⟨rfl, k1⟩
  have H1 : Hid (Cb w w1 w.heap.size a c) := HB.out.below k1
  clear HB k1 hld C1
  obtain ⟨b, off, hq, HEg⟩ := H1.out.ci.p.at' hn
  have HQA : Hid (a.pa = some ⟨b, off, none⟩) := hq
  have HEG : Hid (Eig w1 b (off + n * 8) (a.ca n) (a.cc n) (c.pf n)) := HEg
  clear HEg
  obtain ⟨x, hx⟩ : ∃ x, c.pf n = x := ⟨_, rfl⟩
  have HX : Hid (c.pf n = x) := hx
  obtain ⟨q, hqe⟩ : ∃ q, a.ca n = q := ⟨_, rfl⟩
  have HQ : Hid (a.ca n = q) := hqe
  rw [hx, hqe] at HEG
  generalize hcc : a.cc n = m at *
  have HCC : Hid (a.cc n = m) := hcc
  rw [hx]
  clear hx hqe hcc
  generalize (x.n : Int) * (c.F / c.C) = T
  obtain ⟨nF, hnF⟩ : ∃ nF, (par c n).N * (par c n).C = nF := ⟨_, rfl⟩
  have HNF : Hid ((par c n).N * (par c n).C = nF) := hnF
  rw [hnF] at hmk
  obtain ⟨R, hR⟩ : ∃ R, R = List.replicate nF (Value.int .u8 0) := ⟨_, rfl⟩
  have HRR : Hid (R = List.replicate nF (Value.int .u8 0)) := hR
  rw [← hR] at hmk
  clear hR hnF
  have HS : Hid (∀ W, Below w1.heap.size w1 W → (W.cell? ⟨w.heap.size, 0, none⟩ = some (.int .i64 c.F) ∧ W.cell? ⟨w.heap.size, 1, none⟩ = some (.int .i64 c.C) ∧ W.cell? ⟨w.heap.size, 2, none⟩ = some (.int .i64 c.W) ∧ W.cell? ⟨w.heap.size, 3, none⟩ = some (.int .i64 c.S) ∧ W.cell? ⟨w.heap.size, 4, none⟩ = some (.int .i64 c.V) ∧ W.cell? ⟨w.heap.size, 5, none⟩ = some (.int .i64 c.T) ∧ W.cell? ⟨w.heap.size, 6, none⟩ = some (.int .u64 c.k.l1) ∧ W.cell? ⟨w.heap.size, 7, none⟩ = some (.int .u64 c.k.llc) ∧ W.cell? ⟨w.heap.size, 8, none⟩ = some (.int .u64 c.k.mi) ∧ W.cell? ⟨w.heap.size, 9, none⟩ = some (.int .u64 c.k.fa) ∧ W.cell? ⟨w.heap.size, 10, none⟩ = some (.int .u64 c.k.st) ∧ W.cell? ⟨w.heap.size, 11, none⟩ = some (.int .u64 c.k.di) ∧ W.cell? ⟨w.heap.size, 12, none⟩ = some (.int .u64 c.sl) ∧ W.cell? ⟨w.heap.size, 13, none⟩ = some (.int .u64 c.pd) ∧ W.cell? ⟨w.heap.size, 14, none⟩ = some (.int .u64 c.ft) ∧ W.cell? ⟨w.heap.size, 15, none⟩ = some (.slice a.ta c.tn a.tc) ∧ W.cell? ⟨w.heap.size, 16, none⟩ = some (.slice (some ⟨b, off, none⟩) c.pn a.pc)) ∧ (W.cell? ⟨b, off + n * 8, none⟩ = some (.slice q x.n m) ∧ W.cell? ⟨b, off + n * 8 + 1, none⟩ = some (.int .i64 x.o) ∧ W.cell? ⟨b, off + n * 8 + 2, none⟩ = some (.int .i64 x.u) ∧ W.cell? ⟨b, off + n * 8 + 3, none⟩ = some (.int .i64 x.t) ∧ W.cell? ⟨b, off + n * 8 + 4, none⟩ = some (.int .i64 x.s) ∧ W.cell? ⟨b, off + n * 8 + 5, none⟩ = some (.int .i64 x.r) ∧ W.cell? ⟨b, off + n * 8 + 6, none⟩ = some (.int .i64 x.d) ∧ W.cell? ⟨b, off + n * 8 + 7, none⟩ = some (.int .i64 x.z))) := fun W hW => by
    obtain ⟨_, e0, e1, e2, e3, e4, e5, e6, e7⟩ := HEG.out.below hW
    obtain ⟨_, c0, c1, c2, c3, c4, c5, c6, c7, c8, c9, c10, c11, c12, c13, c14, c15, c16⟩ := (H1.out.below hW).bx
    rw [HQA.out] at c16
    exact ⟨⟨c0, c1, c2, c3, c4, c5, c6, c7, c8, c9, c10, c11, c12, c13, c14, c15, c16⟩, e0, e1, e2, e3, e4, e5, e6, e7⟩
  have HNS : Hid (∀ W, Below w1.heap.size w1 W → Ns w ((W.alloc (.cells R.toArray 5)).alloc (.cells #[.int .i64 c.F, .int .i64 c.C, .int .i64 c.W, .int .i64 c.S, .int .i64 c.V, .int .i64 c.T, .int .u64 c.k.l1, .int .u64 c.k.llc, .int .u64 c.k.mi, .int .u64 c.k.fa, .int .u64 c.k.st, .int .u64 c.k.di, .int .u64 c.sl, .int .u64 c.pd, .int .u64 c.ft, .slice a.ta c.tn a.tc, .slice a.pa c.pn a.pc, .slice q x.n m, .int .i64 x.o, .int .i64 x.u, .int .i64 x.t, .int .i64 x.s, .int .i64 x.r, .int .i64 x.d, .int .i64 x.z, .slice none 0 0, .slice (some ⟨W.heap.size, 0, none⟩) nF nF, .bool false, .bool true] 118)) a c q m x (W.heap.size + 1) W.heap.size nF) := fun W hW => by
    rw [HRR.out]
    exact ns_new H1.out hW
  rw [hq] at HNS
  clear hq
  go_upto_region 4 with fail
  go_cut [8] from 21 (fun t8 wx => ∃ qb gu, t8 = .pointer (some ⟨qb, 0, none⟩) ∧ Ns w wx a c q m x qb gu nF)
  case first =>
    go_region_held3 (fun W => (W.cell? ⟨w.heap.size, 0, none⟩ = some (.int .i64 c.F) ∧ W.cell? ⟨w.heap.size, 1, none⟩ = some (.int .i64 c.C) ∧ W.cell? ⟨w.heap.size, 2, none⟩ = some (.int .i64 c.W) ∧ W.cell? ⟨w.heap.size, 3, none⟩ = some (.int .i64 c.S) ∧ W.cell? ⟨w.heap.size, 4, none⟩ = some (.int .i64 c.V) ∧ W.cell? ⟨w.heap.size, 5, none⟩ = some (.int .i64 c.T) ∧ W.cell? ⟨w.heap.size, 6, none⟩ = some (.int .u64 c.k.l1) ∧ W.cell? ⟨w.heap.size, 7, none⟩ = some (.int .u64 c.k.llc) ∧ W.cell? ⟨w.heap.size, 8, none⟩ = some (.int .u64 c.k.mi) ∧ W.cell? ⟨w.heap.size, 9, none⟩ = some (.int .u64 c.k.fa) ∧ W.cell? ⟨w.heap.size, 10, none⟩ = some (.int .u64 c.k.st) ∧ W.cell? ⟨w.heap.size, 11, none⟩ = some (.int .u64 c.k.di) ∧ W.cell? ⟨w.heap.size, 12, none⟩ = some (.int .u64 c.sl) ∧ W.cell? ⟨w.heap.size, 13, none⟩ = some (.int .u64 c.pd) ∧ W.cell? ⟨w.heap.size, 14, none⟩ = some (.int .u64 c.ft) ∧ W.cell? ⟨w.heap.size, 15, none⟩ = some (.slice a.ta c.tn a.tc) ∧ W.cell? ⟨w.heap.size, 16, none⟩ = some (.slice (some ⟨b, off, none⟩) c.pn a.pc)) ∧ (W.cell? ⟨b, off + n * 8, none⟩ = some (.slice q x.n m) ∧ W.cell? ⟨b, off + n * 8 + 1, none⟩ = some (.int .i64 x.o) ∧ W.cell? ⟨b, off + n * 8 + 2, none⟩ = some (.int .i64 x.u) ∧ W.cell? ⟨b, off + n * 8 + 3, none⟩ = some (.int .i64 x.t) ∧ W.cell? ⟨b, off + n * 8 + 4, none⟩ = some (.int .i64 x.s) ∧ W.cell? ⟨b, off + n * 8 + 5, none⟩ = some (.int .i64 x.r) ∧ W.cell? ⟨b, off + n * 8 + 6, none⟩ = some (.int .i64 x.d) ∧ W.cell? ⟨b, off + n * 8 + 7, none⟩ = some (.int .i64 x.z)))
      (first | exact HS.out _ (Below.refl _ _).drew | exact HS.out _ ((Below.refl _ _).drew.alloc (Nat.le_refl _) _) | exact HS.out _ (((Below.refl _ _).drew.alloc (Nat.le_refl _) _).alloc (by simp) _))
      (fail)
    go_wp2_with fail
    go_meet
    case rel => exact ⟨_, _, rfl, HNS.out _ (Below.refl _ _).drew⟩
  case rest =>
    clear HNS hmk HRR
    obtain ⟨qb, gu, rfl, hN⟩ := hcut
    have N0 : Hid (Ns w wc a c q m x qb gu nF) := hN
    clear hN HS HEG H1
    have hn0 : 0 < x.n := by have := HK.out.n0; rwa [HX.out] at this
    have hA := N0.out.cb.ci.p.col hn
    obtain ⟨b1, off1, hq1, HE1⟩ := N0.out.cb.ci.p.at' hn
    rw [HQA.out] at hq1
    cases hq1
    have e0 := HE1.c0
    have hbl := HE1.1
    have c16 := N0.out.cb.bx.c16
    rw [HX.out, HQ.out] at hA
    rw [HX.out, HQ.out, HCC.out] at e0
    rw [HQA.out] at c16
    clear HE1
    rcases hA with z | ⟨b2, off2, rfl, hb2, hcells⟩
    · omega
    obtain ⟨P, hPP⟩ : ∃ P, par c n = P := ⟨_, rfl⟩
    have HPP : Hid (par c n = P) := hPP
    rw [hPP] at HP HNF
    have hk : x.n = P.k := by rw [← hPP, ← HX.out]; rfl
    have HV : Hid (B.tv (cols P) = (List.range x.n).map fun i => Value.int .i64 (x.f i)) := by
      show B.tv (cols P) = _
      rw [← hPP, ← map_cols HR.out, HX.out]
      simp [B.tv]
    have hbq := N0.out.bq
    have hbu := N0.out.bu
    have hlw := N0.out.cb.bx.lt
    have o1 : (wc.alloc (.cells #[] 3)).ownsRow wc.heap.size 3 1 (.slice (some ⟨wc.heap.size, 0, none⟩) 0 0) 0 [] := ⟨rfl, Or.inr ⟨wc.heap.size, 0, #[], rfl, Nat.le_refl _, heap_alloc_last _ _, Nat.le_refl _, by unfold maxLen; omega, rfl, rfl⟩⟩
    have HCl : Hid (∀ j u, (B.tv (cols P))[j]? = some u → (wc.alloc (.cells #[] 3)).cell? ((⟨b2, off2, none⟩ : Addr).add j) = some u) := by
      intro j u hu
      rw [HV.out] at hu
      have hj : j < x.n := by have := (List.getElem?_eq_some_iff.1 hu).1; simpa using this
      rw [Go.WideShapes.add_plain, (below_new wc _).cell (p := ⟨b2, off2 + j, none⟩) hb2, hcells j hj]
      simpa [hj] using hu
    have HLn : Hid ((B.tv (cols P)).length = x.n * 1) := by show _ = _; rw [B.tv_len, cols_len, hk]; omega
    have HOn : Hid (∀ u ∈ B.tv (cols P), u.oneCell' = true) := B.tv_one _
    have hx16 : x.n ≤ 16 := by rw [hk]; exact HP.out.k2
    have HFIN : Hid (∀ g6 k6 w6, w6.ownsRow wc.heap.size 3 1 (.slice (some ⟨g6, 0, none⟩) (0 + x.n) k6) (0 + x.n) ([] ++ B.tv (cols P)) → (wc.alloc (.cells #[] 3)).grownBy w6 (some wc.heap.size) → w6.cell? ⟨qb, 17, none⟩ = some (.slice (some ⟨b2, off2, none⟩) x.n m) ∧ w6.frozen? ⟨qb, 17, none⟩ = false ∧ Nl w (w6.setCell ⟨qb, 17, none⟩ (.slice (some ⟨g6, 0, none⟩) x.n k6)) a c 0 qb g6 k6 gu (.slice none 0 0) (fun _ _ => False) (fun _ => 0) P (fun _ _ => false) (fun _ _ => none)) := fun g6 k6 w6 o6 gr6 => by
      rw [Nat.zero_add, List.nil_append] at o6
      have hg6 : wc.heap.size ≤ g6 := by
        rcases o6.2 with ⟨e, _⟩ | ⟨g', cap, cur, e, z, _⟩
        · cases e
        · cases e; exact z
      have hqlt := hbq.lt
      have hulg := hbu.lt
      have kb := below_new wc (.cells #[] 3)
      have hbq6 : B.Blk w6 qb 118 _ := (hbq.of_eq (kb.block _ hqlt)).of_eq (gr6.block _ (Nat.lt_of_lt_of_le hqlt kb.size) (B.some_ne (by omega)))
      have hbu6 : B.Blk w6 gu 5 _ := (hbu.of_eq (kb.block _ hulg)).of_eq (gr6.block _ (Nat.lt_of_lt_of_le hulg kb.size) (B.some_ne (by omega)))
      have hne := N0.out.ne
      have hown : B.Own w6 (.slice (some ⟨g6, 0, none⟩) P.k k6) (cols P) := by
        rw [hk] at o6
        have := Is.own (w := w6) (base := wc.heap.size) (v := .slice (some ⟨g6, 0, none⟩) P.k k6) (l := cols P) (by unfold Is; rw [cols_len]; exact o6)
        exact this
      have hown7 : ∀ {W : World}, w6.grownBy W (some qb) → B.Own W (.slice (some ⟨g6, 0, none⟩) P.k k6) (cols P) := fun gs => hown.of_eq (fun g hg => by
        obtain rfl : g6 = g := by simpa [Value.ownBlock] using hg
        exact gs.block _ (hown.lt g6 rfl) (B.some_ne (by omega)))
      refine ⟨hbq6.cell 17, hbq6.frozen 17, ?_, ?_, ?_, fun i hi => by omega⟩
      · refine Cb.keep HCin.out (Cb.keep HCin.out (N0.out.cb.alloc _) gr6 (by rintro y e; injection e with e; omega)) (B.grown_setCell' _ _ _ _) (by rintro y e; injection e with e; subst e; exact N0.out.lq)
      · have gs := B.grown_setCell' w6 qb 17 (.slice (some ⟨g6, 0, none⟩) x.n k6)
        have hbs := hbq6.set 17 (.slice (some ⟨g6, 0, none⟩) x.n k6)
        rw [hk] at hbs gs ⊢
        refine xp_new (q' := some ⟨b2, off2, none⟩) (m := m) (by rw [← HPP.out]; exact HR.out.C.symm) (by rw [← HX.out, ← HPP.out]; exact HR.out.o.symm) (by rw [← HX.out, ← HPP.out]; exact HR.out.q2.symm) (by rw [← HX.out, ← HPP.out]; exact HR.out.q3.symm) (by rw [← HX.out, ← HPP.out]; exact HR.out.q4.symm) (by rw [← HX.out, ← HPP.out]; exact HR.out.q5.symm) (by rw [← HX.out, ← HPP.out]; exact HR.out.q6.symm) HNF.out hbs (hown7 gs) (hbu6.of_eq (gs.block _ hbu6.lt (B.some_ne (by omega)))) (by omega) (by omega) (by omega)
      · rintro y (rfl | rfl | rfl | hy | ⟨i, hi, hy⟩)
        · exact N0.out.lq
        · omega
        · exact N0.out.lu
        · cases hy
        · omega
    have HKK : Hid (x.n = P.k) := hk
    clear hbq hbu hcells hb2 HV N0 HNF hk hPP
    obtain ⟨i0, hi0, hz0, hz1, hz2⟩ := info_parts B.Tryz.infoI
    go_upto_region 6 with (at_builtin; refine wpList_append_lies _ rfl (.tmp 33) (.tmp 39) 25 rfl wc.heap.size 3 i0 _ 1 8 Tryz.underlying25 hi0 hz0 hz1 hz2 rfl (by decide) _ 0 [] rfl o1 ⟨b2, off2, none⟩ x.n m (B.tv (cols P)) rfl HLn.out HCl.out HOn.out hn0 (by unfold maxLen; omega) (by omega) (by simp) (wc.heap.size + 1) (by simp) ?_; intro g6 k6 w6 o6 gr6 at6 lt6; obtain ⟨y1, y2, hN6⟩ := HFIN.out g6 k6 w6 o6 gr6; have HN6 : Hid (Nl _ _ _ _ _ _ _ _ _ _ _ _ _ _ _) := hN6; clear hN6)
    clear y1 y2 o1 o6 gr6 at6 lt6 HFIN HCl HLn HOn e0 c16
    generalize w6.setCell ⟨qb, 17, none⟩ (.slice (some ⟨g6, 0, none⟩) x.n k6) = w7 at *
    obtain ⟨j0, hj0, hy0, hy1, hy2⟩ := info_parts Tryz.infoP
    have hk2 := HP.out.k2
    have hC0 : ¬ c.C = 0 := by
      have := HO.out.m.C
      rcases this with e | e | e | e | e <;> omega
    have hdiv : c.F.tdiv c.C = (P.N : Nat) := by
      have h1 := HR.out.N
      rw [HPP.out] at h1
      rw [h1, Int.tdiv_eq_ediv_of_nonneg (by have := HO.out.m.F1; omega)]
    have hN2 := HP.out.N2
    have hwr : IntKind.i64.wrap (P.N : Nat) = (P.N : Nat) := IntWalk.i64_in _ (by omega)
    go_wp2
    go_loopw [9] (fun z wr => ∃ j : Nat, j ≤ P.k ∧ z = .int .i64 j ∧ ∃ vl G bp op tk, Nl w wr a c j qb g6 k6 gu vl G bp P op tk) (fun z _ => P.k - (B.iv z).toNat)
    case atStart => exact ⟨0, by omega, rfl, _, _, _, _, _, HN6.out⟩
    case round =>
      clear HN6
      obtain ⟨j, hj, rfl, vl, G, bp, op, tk, hN⟩ := hrel
      have HN : Hid (Nl w wr a c j qb g6 k6 gu vl G bp P op tk) := hN
      have c17 := hN.xp.c7
      have b0 := hN.cb.bx.c0
      have b1 := hN.cb.bx.c1
      clear hN
      by_cases hlt : j < P.k
      · have hjI : (j : Int) < (P.k : Int) := by omega
        have CN : Hid (Calls _ _ _ _ _) := B.rNew_ok P.N HP.out.N2 wr
        go_wp2_with fail
        refine CN.out.mono ?_
        rintro e w8 ⟨H, qn, rfl, hR8, hK8⟩
        obtain ⟨ao, cp, rfl⟩ := row_form HN.out.xp.row
        have hx8 := HN.out.xp.of_eq (w' := w8) hK8.size (fun y hy => hK8.block y (HN.out.xp.flt y hy) (fun z => z))
        have c25 := hx8.cl
        have hrow := hx8.row
        have HRow : Hid ((w8.alloc (.cells #[.pointer (some ⟨qn, 0, none⟩)] 119)).ownsRow 0 119 1 (.slice ao j cp) j (ptrs bp j)) := rw_of_eq hrow (fun g hg => (below_new _ _).block _ (rw_lt hrow g hg))
        have HMore : Hid (∀ g9 k9 w9, w9.ownsRow 0 119 1 (.slice (some ⟨g9, 0, none⟩) (j + 1) k9) (j + 1) (ptrs bp j ++ [.pointer (some ⟨qn, 0, none⟩)]) → (w8.alloc (.cells #[.pointer (some ⟨qn, 0, none⟩)] 119)).grownBy w9 (Value.slice ao j cp).ownBlock → ((Value.slice ao j cp).ownBlock = some g9 ∨ g9 = w8.heap.size + 1) → w9.cell? ⟨qb, 25, none⟩ = some (.slice ao j cp) ∧ w9.frozen? ⟨qb, 25, none⟩ = false ∧ ∃ vl G bp op tk, Nl w (w9.setCell ⟨qb, 25, none⟩ (.slice (some ⟨g9, 0, none⟩) (j + 1) k9)) a c (j + 1) qb g6 k6 gu vl G bp P op tk) := fun g9 k9 w9 o9 gr9 at9 => by
          have gg : w8.grownBy w9 (Value.slice ao j cp).ownBlock := (World.grownBy_alloc _ _ _).trans gr9
          have eq : w9.heap[qb]? = w8.heap[qb]? := gg.block qb hx8.lt (fun z => (hx8.nl qb z.symm).1 rfl)
          exact ⟨(World.cell?_of_block (w := w8) (w' := w9) (a := ⟨qb, 25, none⟩) eq).trans hx8.cl, (World.frozen?_of_block (w := w8) (w' := w9) (a := ⟨qb, 25, none⟩) eq).trans (hx8.fz 25), _, _, _, _, _, HN.out.more HCin.out hlt hK8 hR8 gg g9 k9 o9 (at9.imp id (fun z => by omega))⟩
        clear hx8 hrow CN HN hR8 hK8
        go_upto_region 8 with (at_builtin; refine wpList_append_lies _ rfl (.tmp 70) (.tmp 72) 116 rfl 0 119 j0 _ 1 8 Tryz.underlying116 hj0 hy0 hy1 hy2 rfl (by decide) _ j (ptrs bp j) rfl HRow.out ⟨w8.heap.size, 0, none⟩ 1 1 [.pointer (some ⟨qn, 0, none⟩)] rfl rfl (cell_one_new _ _ _) (by intro u hu; simp at hu; subst hu; rfl) (by omega) (by unfold maxLen; omega) (by omega) (Nat.zero_le _) (w8.heap.size + 1) (by simp) ?_; intro g9 k9 w9 o9 gr9 at9 lt9; obtain ⟨y1, y2, hN9⟩ := HMore.out g9 k9 w9 o9 gr9 at9; have HN9 : Hid (_) := hN9; clear hN9)
        clear y1 y2 o9 gr9 at9 lt9 HMore HRow c25
        generalize w9.setCell ⟨qb, 25, none⟩ (.slice (some ⟨g9, 0, none⟩) (j + 1) k9) = w10 at *
        go_wp2
        go_roundw
        case rel => exact ⟨j + 1, by omega, by go_num, HN9.out⟩
        case measure => simp [B.iv]; omega
      · obtain rfl : j = P.k := by omega
        have HFin : Hid (∃ F, Ro wr F qb (par c n) (fun _ => none) ∧ B.Kp (fun _ => False) F w wr) := by
          rw [HPP.out]
          exact HN.out.done HP.out
        clear HN
        go_wp2
        go_ret2
        obtain ⟨F, f1, f2⟩ := HFin.out
        exact ⟨qb, F, rfl, f1, f2⟩
end Go.Proofs.YtdempgjhjcjklaaGreat.P
namespace Go.Proofs.YtdempgjhjcjklaaGreat.P
open Go.ChangeShapes Go.WideShapes Go.ChangeAt Go.RowKit
set_option linter.unusedVariables false
set_option maxRecDepth 8192

def PoO (w : World) (F : Nat → Prop) (vp : Option Addr) (P : Par) : Option Us → Prop
  | none => vp = none ∧ ∀ x, ¬ F x
  | some us => ∃ p, vp = some ⟨p, 0, none⟩ ∧ Po w F p P us
def lO : Option Us → List Nat
  | none => []
  | some us => B.us 4096 us
theorem lO_len (s : Option Us) : (lO s).length ≤ 4096 := by
  cases s with
  | none => simp [lO]
  | some us => exact us_le us 4096
end Go.Proofs.YtdempgjhjcjklaaGreat.P
namespace Go.Proofs.YtdempgjhjcjklaaGreat.P
open Go.ChangeShapes Go.WideShapes Go.ChangeAt Go.RowKit
set_option linter.unusedVariables false
set_option maxRecDepth 8192

theorem neO' (x y : Int) (W : World) : (binOp .neq 114 (.agg #[.int .i64 x, .int .u8 y]) (.agg #[.int .i64 x, .int .u8 y])).run Tryz.prog W = .ok (.bool false) W := by
  simp only [run_neq_struct]
  rw [run_equalIn_agg W 9999 114 _ _ (by kernel_rfl) Tryz.stoodInHeld114]
  simp [go_sem, Program.fieldsOf, Tryz.underlying114]
theorem quiet_load_o {P : Program} {W : World} {a : Act} {o : Oper} {K : Act → Prop} (t : TypeId) (x : Operand) (ho : o.op = .load t x) (u v : Value) (hx : a.eval x = u)
    (hrun : ∀ n, (Instr.loadAt t u).run P (W.drewN n) = .ok v (W.drewN n)) (hk : K (a.put o.dst v)) : o.quiet P a (fun w' => ∃ n, w' = W.drewN n) K := by
  refine ⟨v, fun w hw => ?_, hk⟩
  obtain ⟨n, rfl⟩ := hw
  unfold Oper.quietAt
  simp [execOp, ho, hx, hrun n, Result.andThen, Oper.quietUpon]
theorem ldO' {w : World} {b k : Nat} {x y : Int} (h1 : w.cell? ⟨b, k, none⟩ = some (.int .i64 x)) (h2 : w.cell? ⟨b, k + 1, none⟩ = some (.int .u8 y)) : (Instr.loadAt 114 (.pointer (some ⟨b, k, none⟩))).run Tryz.prog w = .ok (.agg #[.int .i64 x, .int .u8 y]) w := by
  simp [go_sem, *]
set_option maxHeartbeats 2000000 in
theorem sameOwned_any {w : World} {base base2 : Nat} {v v2 : Value} {us : Us} {l : List Nat} (hl : l.length ≤ 4096) (h : Os w base v us l) (h2 : Os w base2 v2 us l) : Calls Tryz.prog 41 #[v, v2] w (One (.bool true) w) := by
  obtain ⟨a, c, rfl, hA⟩ := h.cell
  obtain ⟨a2, c2, rfl, hA2⟩ := h2.cell
  have H1 : Hid (∀ n i x, l[i]? = some x → ∃ g, a = some ⟨g, 0, none⟩ ∧ (w.drewN n).cell? ⟨g, i * 2, none⟩ = some (.int .i64 (x : Nat)) ∧ (w.drewN n).cell? ⟨g, i * 2 + 1, none⟩ = some (.int .u8 ((us x).getD 0 : Nat))) := fun n i x hi => by
    obtain ⟨g, h1, h2, h3, h4⟩ := hA (w.drewN n) (below_drewN (Below.refl _ _) n) i x hi
    exact ⟨g, h1, h3, h4⟩
  have H2 : Hid (∀ n i x, l[i]? = some x → ∃ g, a2 = some ⟨g, 0, none⟩ ∧ (w.drewN n).cell? ⟨g, i * 2, none⟩ = some (.int .i64 (x : Nat)) ∧ (w.drewN n).cell? ⟨g, i * 2 + 1, none⟩ = some (.int .u8 ((us x).getD 0 : Nat))) := fun n i x hi => by
    obtain ⟨g, h1, h2, h3, h4⟩ := hA2 (w.drewN n) (below_drewN (Below.refl _ _) n) i x hi
    exact ⟨g, h1, h3, h4⟩
  have HX : Hid (∀ i, i < l.length → ∃ x, l[i]? = some x) := fun i hi => ⟨_, List.getElem?_eq_getElem hi⟩
  clear hA hA2 h h2
  generalize l.length = len at *
  go_enter Tryz.func41, Tryz.ntmps41
  go_wp2
  go_loopw [5] (fun i wr => ∃ k : Nat, k ≤ len ∧ i = .int .i64 k ∧ ∃ m, wr = w.drewN m) (fun i _ => len - (B.iv i).toNat)
  case atStart => exact ⟨0, by omega, rfl, 0, rfl⟩
  case round =>
    obtain ⟨k, hk, rfl, m, rfl⟩ := hrel
    by_cases hlt : k < len
    · obtain ⟨x, hx⟩ := HX.out k hlt
      obtain ⟨b, rfl, c1, c2⟩ := H1.out m k x hx
      obtain ⟨b2, rfl, d1, d2⟩ := H2.out m k x hx
      obtain ⟨y, hy⟩ : ∃ y : Int, (((us x).getD 0 : Nat) : Int) = y := ⟨_, rfl⟩
      obtain ⟨xi, hxi⟩ : ∃ y : Int, (x : Int) = y := ⟨_, rfl⟩
      rw [hy] at c2 d2
      rw [hxi] at c1 d1
      have hq := neO' xi y
      clear H1 H2 HX hx hy hxi
      have hl1 : Hid (∀ n, _) := fun n => ldO' (w := (w.drewN m).drewN n) c1 c2
      have hl2 : Hid (∀ n, _) := fun n => ldO' (w := (w.drewN m).drewN n) d1 d2
      clear c1 c2 d1 d2
      go_wp2
      refine wp_region_quiet_lit (by kernel_rfl) (by kernel_rfl) ?_
      repeat (first | (go_big_quiet_want; refine quiet_load_o 114 (.tmp 19) rfl _ _ rfl hl1.out ?_; simp only [Act.put, List.setIfInBounds_toArray, List.set_cons_zero, List.set_cons_succ]; go_big_quiet_on) | (go_big_quiet_want; refine quiet_load_o 114 (.tmp 23) rfl _ _ rfl hl2.out ?_; simp only [Act.put, List.setIfInBounds_toArray, List.set_cons_zero, List.set_cons_succ]; go_big_quiet_on) | go_big_quiet_step (fail))
      refine wpQuiet_nil ?_
      intro _ hw'
      obtain ⟨nq, hw''⟩ := hw'
      subst hw''
      go_wp2
      go_roundw
      case rel => exact ⟨k + 1, by omega, by go_num, m + nq, by first | rfl | simp [World.drewN_drewN]⟩
      case measure => simp [B.iv]; omega
    · obtain rfl : k = len := by omega
      go_wp2
      go_ret
      exact ⟨rfl, below_drewN (Below.refl _ _) m⟩
end Go.Proofs.YtdempgjhjcjklaaGreat.P
