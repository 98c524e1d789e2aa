/- The statements' turned configurations, as data, what is wrong with each first, as blocks in memory, and what turned gives back; no condition. -/
import Derived.Test.YtcmgjinjfaialaaGreatKa
import Derived.Test.YtcmgjinjfaialaaGreatCy
import Derived.Test.YtcmgjinjfaialaaGreatPn
namespace Go.Proofs.YtcmgjinjfaialaaGreat
open Go.ChangeShapes Go.WideShapes Go.ChangeAt Go.RowKit
set_option linter.unusedVariables false

/-- The chapter's configuration with one thing turned. -/
def tcf : Nat → Cf
  | 0 => { us with C := 3 }
  | 1 => { us with F := 66 }
  | 2 => { us with sl := 100 }
  | 3 => { us with tf := fun i => 2 * (i : Int) }
  | 4 => { us with tn := 0 }
  | 5 => { us with tn := 65, tf := fun _ => 0 }
  | 6 => { us with pf := fun i => if i = 0 then us.pf 0 else { us.pf 1 with f := fun _ => 1 } }
  | 7 => { us with pf := fun i => if i = 0 then us.pf 0 else { us.pf 1 with n := 2 } }
  | 8 => { us with pf := fun i => if i = 0 then { us.pf 0 with u := 40 } else us.pf 1 }
  | 9 => { us with pf := fun i => if i = 0 then { us.pf 0 with o := 4 } else us.pf 1 }
  | 10 => { us with pf := fun i => if i = 0 then { us.pf 0 with z := 1022 } else us.pf 1 }
  | 11 => { us with ft := 1099511627776 }
  | 12 => { us with pn := 0 }
  | 13 => { us with pn := 9, pf := fun _ => ⟨0, fun _ => 0, 0, 0, 0, 0, 0, 0, 0⟩ }
  | _ => ⟨0, 0, 0, 0, 0, 0, ⟨0, 0, 0, 0, 0, 0⟩, 0, 0, 0, 0, fun _ => 0, 0, fun _ => ⟨0, fun _ => 0, 0, 0, 0, 0, 0, 0, 0⟩⟩
/-- Where something is wrong first. -/
def at' (i : Nat) : Int := ([0, 0, 2, 3, 3, 3, 5, 5, 4, 4, 5, 2, 0, 0, 0] : List Int)[i]?.getD 0
theorem tcf_first : ∀ i, i < 15 → (chk (tcf i)).head?.map (·.2) = some (at' i) := by decide +kernel
/-- The blocks of a turned configuration. -/
structure Tb (w0 w : World) (g2 g3 n1 n2 n3 n4 : Nat) (L2 L3 P : List Value) : Prop where
  be : Below w0.heap.size w0 w
  o1 : w0.heap.size ≤ g2
  o2 : g2 < n1
  o3 : n1 < n2
  o4 : n2 < n3
  o5 : n3 < n4
  o6 : n4 < g3
  b2 : Blk w g2 28 L2
  b3 : Blk w g3 28 L3
  t : Blk w n1 3 [.int .i64 0, .int .i64 1]
  c0 : Blk w n2 3 [.int .i64 0, .int .i64 1]
  c1 : Blk w n3 3 [.int .i64 2]
  p : Blk w n4 40 P
theorem blk_set_other {w : World} {g b : Nat} {ty : TypeId} {L : List Value} (h : Blk w g ty L) (hne : g ≠ b) (i : Nat) (v : Value) : Blk (w.setCell ⟨b, i, none⟩ v) g ty L := h.of_eq (heap_set_ne hne i v)
theorem Tb.alloc {w0 w : World} {g2 g3 n1 n2 n3 n4 : Nat} {L2 L3 P : List Value} (h : Tb w0 w g2 g3 n1 n2 n3 n4 L2 L3 P) (o : Obj) : Tb w0 (w.alloc o) g2 g3 n1 n2 n3 n4 L2 L3 P :=
  ⟨h.be.alloc h.be.size _, h.o1, h.o2, h.o3, h.o4, h.o5, h.o6, h.b2.alloc _, h.b3.alloc _, h.t.alloc _, h.c0.alloc _, h.c1.alloc _, h.p.alloc _⟩
theorem Tb.set3 {w0 w : World} {g2 g3 n1 n2 n3 n4 : Nat} {L2 L3 P : List Value} (h : Tb w0 w g2 g3 n1 n2 n3 n4 L2 L3 P) (i : Nat) (v : Value) : Tb w0 (w.setCell ⟨g3, i, none⟩ v) g2 g3 n1 n2 n3 n4 L2 (L3.set i v) P := by
  obtain ⟨be, o1, o2, o3, o4, o5, o6, b2, b3, t, c0, c1, p⟩ := h
  exact ⟨be.trans (below_setCell (by omega) be.size i v), o1, o2, o3, o4, o5, o6, blk_set_other b2 (by omega) i v, b3.set i v, blk_set_other t (by omega) i v, blk_set_other c0 (by omega) i v, blk_set_other c1 (by omega) i v, blk_set_other p (by omega) i v⟩
theorem Tb.set4 {w0 w : World} {g2 g3 n1 n2 n3 n4 : Nat} {L2 L3 P : List Value} (h : Tb w0 w g2 g3 n1 n2 n3 n4 L2 L3 P) (i : Nat) (v : Value) : Tb w0 (w.setCell ⟨n4, i, none⟩ v) g2 g3 n1 n2 n3 n4 L2 L3 (P.set i v) := by
  obtain ⟨be, o1, o2, o3, o4, o5, o6, b2, b3, t, c0, c1, p⟩ := h
  exact ⟨be.trans (below_setCell (by omega) be.size i v), o1, o2, o3, o4, o5, o6, blk_set_other b2 (by omega) i v, blk_set_other b3 (by omega) i v, blk_set_other t (by omega) i v, blk_set_other c0 (by omega) i v, blk_set_other c1 (by omega) i v, p.set i v⟩
theorem Tb.row3 {w0 w : World} {g2 g3 n1 n2 n3 n4 : Nat} {L2 L3 P : List Value} (h : Tb w0 w g2 g3 n1 n2 n3 n4 L2 L3 P) (M : List Value) : Tb w0 (w.setRow g3 M.toArray) g2 g3 n1 n2 n3 n4 L2 M P := by
  obtain ⟨be, o1, o2, o3, o4, o5, o6, b2, b3, t, c0, c1, p⟩ := h
  exact ⟨below_row be (by omega), o1, o2, o3, o4, o5, o6, b2.other (by omega), b3.row, t.other (by omega), c0.other (by omega), c1.other (by omega), p.other (by omega)⟩
theorem Tb.row2 {w0 w : World} {g2 g3 n1 n2 n3 n4 : Nat} {L2 L3 P : List Value} (h : Tb w0 w g2 g3 n1 n2 n3 n4 L2 L3 P) (M : List Value) : Tb w0 (w.setRow g2 M.toArray) g2 g3 n1 n2 n3 n4 M L3 P := by
  obtain ⟨be, o1, o2, o3, o4, o5, o6, b2, b3, t, c0, c1, p⟩ := h
  exact ⟨below_row be (by omega), o1, o2, o3, o4, o5, o6, b2.row, b3.other (by omega), t.other (by omega), c0.other (by omega), c1.other (by omega), p.other (by omega)⟩
theorem arg_blk {w : World} {b n : Nat} {L : List Value} {f : Nat → Int} (hb : Blk w b 3 L) (h : ∀ i, i < n → L[i]? = some (.int .i64 (f i))) : Arg w (some ⟨b, 0, none⟩) n f :=
  Or.inr ⟨b, 0, rfl, hb.lt, fun i hi => by rw [hb.cell, Nat.zero_add]; exact h i hi⟩
theorem cin_two {w : World} {a : Ad} {c : Cf} {n4 : Nat} {P : List Value} (hp : Blk w n4 40 P) (hpa : a.pa = some ⟨n4, 0, none⟩) (hpc : a.pc = 2) (hn : c.pn = 2) (hP : P = pC (a.ca 0) (a.cc 0) (c.pf 0) ++ pC (a.ca 1) (a.cc 1) (c.pf 1))
    (hT : Arg w a.ta c.tn c.tf) (h0 : Arg w (a.ca 0) (c.pf 0).n (c.pf 0).f) (h1 : Arg w (a.ca 1) (c.pf 1).n (c.pf 1).f) (tl : c.tn ≤ 65) (l0 : (c.pf 0).n ≤ 2) (l1 : (c.pf 1).n ≤ 2) (tz : a.ta = none → c.tn = 0 ∧ a.tc = 0) (z0 : a.ca 0 ≠ none) (z1 : a.ca 1 ≠ none)
    (C0 : 0 ≤ c.C ∧ c.C ≤ 4) (S0 : 0 ≤ c.S ∧ c.S ≤ 4) : Cin w a c := by
  refine ⟨hT, Or.inr ⟨n4, 0, hpa, hp.lt, fun i hi => ?_⟩, by omega, by omega, fun i hi => ?_, tz, (fun e => by rw [hpa] at e; cases e), (fun i hi e => ?_), by omega, by omega, by omega, by omega, by omega⟩
  · rw [hn] at hi
    have hc : ∀ j, w.cell? ⟨n4, j, none⟩ = (pC (a.ca 0) (a.cc 0) (c.pf 0) ++ pC (a.ca 1) (a.cc 1) (c.pf 1))[j]? := fun j => by rw [hp.cell, hP]
    rcases two_lt hi with rfl | rfl
    · exact ⟨⟨hp.lt, hc _, hc _, hc _, hc _, hc _, hc _, hc _, hc _⟩, h0⟩
    · exact ⟨⟨hp.lt, hc _, hc _, hc _, hc _, hc _, hc _, hc _, hc _⟩, h1⟩
  · rw [hn] at hi
    rcases two_lt hi with rfl | rfl <;> omega
  · rw [hn] at hi
    rcases two_lt hi with rfl | rfl
    · exact absurd e z0
    · exact absurd e z1
/-- What turned gives back. -/
def Trn (i : Nat) (w : World) (e : Ending) (w' : World) : Prop := ∃ (a : Ad) (c : Cf), e = .returned (.agg #[.int .i64 c.F, .int .i64 c.C, .int .i64 c.W, .int .i64 c.S, .int .i64 c.V, .int .i64 c.T, .int .u64 c.k.l1, .int .u64 c.k.llc, .int .u64 c.k.mi, .int .u64 c.k.fa, .int .u64 c.k.st, .int .u64 c.k.di, .int .u64 c.sl, .int .u64 c.pd, .int .u64 c.ft, .slice a.ta c.tn a.tc, .slice a.pa c.pn a.pc]) ∧ c = tcf i ∧ Cin w' a c ∧ Below w.heap.size w w'
def zCl : List Value := [.int .i64 0, .int .i64 0, .int .i64 0, .int .i64 0, .int .i64 0, .int .i64 0, .int .u64 0, .int .u64 0, .int .u64 0, .int .u64 0, .int .u64 0, .int .u64 0, .int .u64 0, .int .u64 0, .int .u64 0, .slice none 0 0, .slice none 0 0]
def uP (n2 n3 : Nat) : List Value := [.slice (some ⟨n2, 0, none⟩) 2 2, .int .i64 1, .int .i64 4, .int .i64 8, .int .i64 1, .int .i64 1, .int .i64 1, .int .i64 3, .slice (some ⟨n3, 0, none⟩) 1 1, .int .i64 0, .int .i64 2, .int .i64 6, .int .i64 1, .int .i64 1, .int .i64 1, .int .i64 3]
theorem tb_new {w w1 : World} {n1 n2 n3 n4 : Nat} (h : Ublk w1 n1 n2 n3 n4) (ho : (w.alloc (.cells #[.int .i64 0, .int .i64 0, .int .i64 0, .int .i64 0, .int .i64 0, .int .i64 0, .int .u64 0, .int .u64 0, .int .u64 0, .int .u64 0, .int .u64 0, .int .u64 0, .int .u64 0, .int .u64 0, .int .u64 0, .slice none 0 0, .slice none 0 0] 28)).heap.size < n1 ∧ n1 < n2 ∧ n2 < n3 ∧ n3 < n4) (k : Below (w.alloc (.cells #[.int .i64 0, .int .i64 0, .int .i64 0, .int .i64 0, .int .i64 0, .int .i64 0, .int .u64 0, .int .u64 0, .int .u64 0, .int .u64 0, .int .u64 0, .int .u64 0, .int .u64 0, .int .u64 0, .int .u64 0, .slice none 0 0, .slice none 0 0] 28)).heap.size (w.alloc (.cells #[.int .i64 0, .int .i64 0, .int .i64 0, .int .i64 0, .int .i64 0, .int .i64 0, .int .u64 0, .int .u64 0, .int .u64 0, .int .u64 0, .int .u64 0, .int .u64 0, .int .u64 0, .int .u64 0, .int .u64 0, .slice none 0 0, .slice none 0 0] 28)) w1) (L : List Value) :
    Tb w (w1.alloc (.cells L.toArray 28)) w.heap.size w1.heap.size n1 n2 n3 n4 zCl L (uP n2 n3) := by
  have k0 := below_new w (.cells #[.int .i64 0, .int .i64 0, .int .i64 0, .int .i64 0, .int .i64 0, .int .i64 0, .int .u64 0, .int .u64 0, .int .u64 0, .int .u64 0, .int .u64 0, .int .u64 0, .int .u64 0, .int .u64 0, .int .u64 0, .slice none 0 0, .slice none 0 0] 28)
  have hs : (w.alloc (.cells #[.int .i64 0, .int .i64 0, .int .i64 0, .int .i64 0, .int .i64 0, .int .i64 0, .int .u64 0, .int .u64 0, .int .u64 0, .int .u64 0, .int .u64 0, .int .u64 0, .int .u64 0, .int .u64 0, .int .u64 0, .slice none 0 0, .slice none 0 0] 28)).heap.size = w.heap.size + 1 := by simp
  have k1 := k0.trans (k.mono k0.size)
  refine ⟨k1.alloc k1.size _, Nat.le_refl _, by omega, ho.2.1, ho.2.2.1, ho.2.2.2, h.p.lt, ?_, blk_new _ _ _, h.t.alloc _, h.c0.alloc _, h.c1.alloc _, h.p.alloc _⟩
  exact ((blk_new w zCl 28).below k).alloc _
theorem Tryz.infoPa : (Tryz.prog.info? 40).map (fun i => (i.zero, i.size, i.bytes)) = some (some (.agg #[.slice none 0 0, .int .i64 0, .int .i64 0, .int .i64 0, .int .i64 0, .int .i64 0, .int .i64 0, .int .i64 0]), 8, 80) := by kernel_rfl
theorem make_parts (w : World) : (Instr.makeSlice 26 (.int .i64 9) (.int .i64 9)).run Tryz.prog w = .ok (.slice (some ⟨w.heap.size, 0, none⟩) 9 9) (w.alloc (.cells (madeCells #[.slice none 0 0, .int .i64 0, .int .i64 0, .int .i64 0, .int .i64 0, .int .i64 0, .int .i64 0, .int .i64 0] 72).toList.toArray 40)) := by
  obtain ⟨i0, hi, hz0, hz1, hz2⟩ := info_parts Tryz.infoPa
  have h := run_makeSlice (P := Tryz.prog) w 26 40 i0 _ Tryz.underlying26 hi hz0 .i64 .i64 9 9 (by omega) (by omega) (by rw [hz1]; simp) (by rw [hz2]; omega) (by omega)
  rw [h, hz1]
  rfl
theorem parts_cell (i j : Nat) (hi : i < 9) (hj : j < 8) : (madeCells #[.slice none 0 0, .int .i64 0, .int .i64 0, .int .i64 0, .int .i64 0, .int .i64 0, .int .i64 0, .int .i64 0] 72).toList[0 + i * 8 + j]? = #[.slice none 0 0, .int .i64 0, .int .i64 0, .int .i64 0, .int .i64 0, .int .i64 0, .int .i64 0, .int .i64 0][j]? := by
  simp only [madeCells]
  have h1 : (0 + i * 8 + j) % 8 = j := by omega
  have h2 : 0 + i * 8 + j < 72 := by omega
  simp only [Array.toList_map, Array.toList_range, List.getElem?_map]
  rw [List.getElem?_range h2]
  simp only [Option.map_some, List.size_toArray, List.length_cons, List.length_nil]
  rw [show (0 + i * 8 + j) % (0 + 1 + 1 + 1 + 1 + 1 + 1 + 1 + 1) = j from h1]
  rcases (by omega : j = 0 ∨ j = 1 ∨ j = 2 ∨ j = 3 ∨ j = 4 ∨ j = 5 ∨ j = 6 ∨ j = 7) with rfl | rfl | rfl | rfl | rfl | rfl | rfl | rfl <;> rfl
set_option maxRecDepth 100000 in
set_option maxHeartbeats 2000000 in
theorem turned_0 (w : World) : Calls Tryz.prog 4 #[.int .i64 0] w (Trn 0 w) := by
  have U : Hid (∀ w, Calls Tryz.prog 9 #[] w (Usd w)) := fun w => usual_any w
  go_enter Tryz.func4, Tryz.ntmps4
  go_wp2_with fail
  refine (U.out _).mono ?_
  rintro _ w1 ⟨n1, n2, n3, n4, b, c, rfl, hc, hb, hU, ho, k1⟩
  have st := stK w1 b c
  have HT0 : Hid (Tb w (w1.alloc (.cells #[.int .i64 c.F, .int .i64 c.C, .int .i64 c.W, .int .i64 c.S, .int .i64 c.V, .int .i64 c.T, .int .u64 c.k.l1, .int .u64 c.k.llc, .int .u64 c.k.mi, .int .u64 c.k.fa, .int .u64 c.k.st, .int .u64 c.k.di, .int .u64 c.sl, .int .u64 c.pd, .int .u64 c.ft, .slice b.ta c.tn b.tc, .slice b.pa c.pn b.pc] 28)) w.heap.size w1.heap.size n1 n2 n3 n4 zCl (kL b c (.slice b.pa c.pn b.pc)) (uP n2 n3)) := tb_new hU ho k1 _
  have HT1 : Hid (Tb w (w1.alloc (.cells #[.int .i64 c.F, .int .i64 c.C, .int .i64 c.W, .int .i64 c.S, .int .i64 c.V, .int .i64 c.T, .int .u64 c.k.l1, .int .u64 c.k.llc, .int .u64 c.k.mi, .int .u64 c.k.fa, .int .u64 c.k.st, .int .u64 c.k.di, .int .u64 c.sl, .int .u64 c.pd, .int .u64 c.ft, .slice b.ta c.tn b.tc, .slice b.pa c.pn b.pc] 28)) w.heap.size w1.heap.size n1 n2 n3 n4 zCl (kL (Ud n1 n2 n3 n4) us (.slice (some ⟨n4, 0, none⟩) 2 2)) (uP n2 n3)) := by rw [hc, hb] at HT0; rw [hc, hb]; exact HT0
  clear hU ho k1 HT0 hc hb
  go_upto_region 2 with (refine wpList_store_at rfl 28 (.tmp 3) (.tmp 4) rfl _ _ rfl rfl st ?_)
  clear st
  go_frame
  obtain ⟨wa, hwa, HT⟩ : ∃ wa, w1.alloc (.cells #[.int .i64 c.F, .int .i64 c.C, .int .i64 c.W, .int .i64 c.S, .int .i64 c.V, .int .i64 c.T, .int .u64 c.k.l1, .int .u64 c.k.llc, .int .u64 c.k.mi, .int .u64 c.k.fa, .int .u64 c.k.st, .int .u64 c.k.di, .int .u64 c.sl, .int .u64 c.pd, .int .u64 c.ft, .slice b.ta c.tn b.tc, .slice b.pa c.pn b.pc] 28) = wa ∧ Hid (Tb w wa w.heap.size w1.heap.size n1 n2 n3 n4 zCl (kL (Ud n1 n2 n3 n4) us (.slice (some ⟨n4, 0, none⟩) 2 2)) (uP n2 n3)) := ⟨_, rfl, HT1⟩
  rw [hwa]
  clear hwa HT1
  generalize w1.heap.size = g3 at *
  have d : wa.cell? ⟨g3, 1, none⟩ = some (.int .i64 4) := HT.out.b3.cell 1
  have fz := HT.out.b3.frozen 1
  go_upto_region 33 with fail
  obtain ⟨a', c', wb, hc', hwb, HT2, HC⟩ : ∃ (a' : Ad) (c' : Cf) (wb : World), c' = tcf 0 ∧ wa.setCell ⟨g3, 1, none⟩ (.int .i64 3) = wb ∧ Hid (Tb w wb w.heap.size g3 n1 n2 n3 n4 zCl (kL a' c' (.slice a'.pa c'.pn a'.pc)) (uP n2 n3)) ∧ Hid (∀ wf, Tb w wf w.heap.size g3 n1 n2 n3 n4 (kL a' c' (.slice a'.pa c'.pn a'.pc)) (kL a' c' (.slice a'.pa c'.pn a'.pc)) (uP n2 n3) → Cin wf a' c') := by
    refine ⟨Ud n1 n2 n3 n4, tcf 0, _, rfl, rfl, HT.out.set3 1 _, fun wf h => ?_⟩
    · obtain ⟨a', ha'⟩ : ∃ a' : Ad, a' = Ud n1 n2 n3 n4 := ⟨_, rfl⟩
      exact cin_two (a := Ud n1 n2 n3 n4) h.p rfl rfl rfl rfl (arg_blk h.t (fun i hi => by rcases two_lt hi with rfl | rfl <;> rfl)) (arg_blk h.c0 (fun i hi => by rcases two_lt hi with rfl | rfl <;> rfl)) (arg_blk h.c1 (fun i hi => by obtain rfl : i = 0 := Nat.lt_one_iff.1 hi; rfl)) (by decide) (by decide) (by decide) (fun e => by cases e) (by intro e; cases e) (by intro e; cases e) (by decide) (by decide)
  rw [hwb]
  clear hwb d fz HT
  have hld := HT2.out.b3.sev.ld
  have st2 : (Instr.storeAt 28 (.pointer (some ⟨w.heap.size, 0, none⟩)) (.agg #[.int .i64 c'.F, .int .i64 c'.C, .int .i64 c'.W, .int .i64 c'.S, .int .i64 c'.V, .int .i64 c'.T, .int .u64 c'.k.l1, .int .u64 c'.k.llc, .int .u64 c'.k.mi, .int .u64 c'.k.fa, .int .u64 c'.k.st, .int .u64 c'.k.di, .int .u64 c'.sl, .int .u64 c'.pd, .int .u64 c'.ft, .slice a'.ta c'.tn a'.tc, .slice a'.pa c'.pn a'.pc])).run Tryz.prog wb = .ok () (wb.setRow w.heap.size (kL a' c' (.slice a'.pa c'.pn a'.pc)).toArray) := stR HT2.out.b2 rfl rfl rfl
  have HF : Hid (Trn 0 w (.returned (.agg #[.int .i64 c'.F, .int .i64 c'.C, .int .i64 c'.W, .int .i64 c'.S, .int .i64 c'.V, .int .i64 c'.T, .int .u64 c'.k.l1, .int .u64 c'.k.llc, .int .u64 c'.k.mi, .int .u64 c'.k.fa, .int .u64 c'.k.st, .int .u64 c'.k.di, .int .u64 c'.sl, .int .u64 c'.pd, .int .u64 c'.ft, .slice a'.ta c'.tn a'.tc, .slice a'.pa c'.pn a'.pc])) (wb.setRow w.heap.size (kL a' c' (.slice a'.pa c'.pn a'.pc)).toArray)) := ⟨a', c', rfl, hc', HC.out _ (HT2.out.row2 _), (HT2.out.row2 _).be⟩
  have HR : Hid ((wb.setRow w.heap.size (kL a' c' (.slice a'.pa c'.pn a'.pc)).toArray).heap[w.heap.size]? = some (.cells #[.int .i64 c'.F, .int .i64 c'.C, .int .i64 c'.W, .int .i64 c'.S, .int .i64 c'.V, .int .i64 c'.T, .int .u64 c'.k.l1, .int .u64 c'.k.llc, .int .u64 c'.k.mi, .int .u64 c'.k.fa, .int .u64 c'.k.st, .int .u64 c'.k.di, .int .u64 c'.sl, .int .u64 c'.pd, .int .u64 c'.ft, .slice a'.ta c'.tn a'.tc, .slice a'.pa c'.pn a'.pc] 28 (0, 0))) := HT2.out.b2.row
  clear HT2 HC hc'
  generalize wb.setRow w.heap.size (kL a' c' (.slice a'.pa c'.pn a'.pc)).toArray = w9 at *
  go_wp2_with (first | refine wpList_load_at rfl 28 (.tmp 3) rfl _ _ rfl hld ?_ | refine wpList_store_at rfl 28 (.tmp 2) (.tmp 71) rfl _ _ rfl rfl st2 ?_)
  refine bodyPost_ret (v := .agg #[.int .i64 c'.F, .int .i64 c'.C, .int .i64 c'.W, .int .i64 c'.S, .int .i64 c'.V, .int .i64 c'.T, .int .u64 c'.k.l1, .int .u64 c'.k.llc, .int .u64 c'.k.mi, .int .u64 c'.k.fa, .int .u64 c'.k.st, .int .u64 c'.k.di, .int .u64 c'.sl, .int .u64 c'.pd, .int .u64 c'.ft, .slice a'.ta c'.tn a'.tc, .slice a'.pa c'.pn a'.pc]) (results_cell_row Tryz.results4 _ w9 w.heap.size 28 _ (0, 0) _ rfl HR.out Tryz.underlying28 rfl Tryz.infoK) rfl HF.out
set_option maxRecDepth 100000 in
set_option maxHeartbeats 2000000 in
theorem turned_1 (w : World) : Calls Tryz.prog 4 #[.int .i64 1] w (Trn 1 w) := by
  have U : Hid (∀ w, Calls Tryz.prog 9 #[] w (Usd w)) := fun w => usual_any w
  go_enter Tryz.func4, Tryz.ntmps4
  go_wp2_with fail
  refine (U.out _).mono ?_
  rintro _ w1 ⟨n1, n2, n3, n4, b, c, rfl, hc, hb, hU, ho, k1⟩
  have st := stK w1 b c
  have HT0 : Hid (Tb w (w1.alloc (.cells #[.int .i64 c.F, .int .i64 c.C, .int .i64 c.W, .int .i64 c.S, .int .i64 c.V, .int .i64 c.T, .int .u64 c.k.l1, .int .u64 c.k.llc, .int .u64 c.k.mi, .int .u64 c.k.fa, .int .u64 c.k.st, .int .u64 c.k.di, .int .u64 c.sl, .int .u64 c.pd, .int .u64 c.ft, .slice b.ta c.tn b.tc, .slice b.pa c.pn b.pc] 28)) w.heap.size w1.heap.size n1 n2 n3 n4 zCl (kL b c (.slice b.pa c.pn b.pc)) (uP n2 n3)) := tb_new hU ho k1 _
  have HT1 : Hid (Tb w (w1.alloc (.cells #[.int .i64 c.F, .int .i64 c.C, .int .i64 c.W, .int .i64 c.S, .int .i64 c.V, .int .i64 c.T, .int .u64 c.k.l1, .int .u64 c.k.llc, .int .u64 c.k.mi, .int .u64 c.k.fa, .int .u64 c.k.st, .int .u64 c.k.di, .int .u64 c.sl, .int .u64 c.pd, .int .u64 c.ft, .slice b.ta c.tn b.tc, .slice b.pa c.pn b.pc] 28)) w.heap.size w1.heap.size n1 n2 n3 n4 zCl (kL (Ud n1 n2 n3 n4) us (.slice (some ⟨n4, 0, none⟩) 2 2)) (uP n2 n3)) := by rw [hc, hb] at HT0; rw [hc, hb]; exact HT0
  clear hU ho k1 HT0 hc hb
  go_upto_region 2 with (refine wpList_store_at rfl 28 (.tmp 3) (.tmp 4) rfl _ _ rfl rfl st ?_)
  clear st
  go_frame
  obtain ⟨wa, hwa, HT⟩ : ∃ wa, w1.alloc (.cells #[.int .i64 c.F, .int .i64 c.C, .int .i64 c.W, .int .i64 c.S, .int .i64 c.V, .int .i64 c.T, .int .u64 c.k.l1, .int .u64 c.k.llc, .int .u64 c.k.mi, .int .u64 c.k.fa, .int .u64 c.k.st, .int .u64 c.k.di, .int .u64 c.sl, .int .u64 c.pd, .int .u64 c.ft, .slice b.ta c.tn b.tc, .slice b.pa c.pn b.pc] 28) = wa ∧ Hid (Tb w wa w.heap.size w1.heap.size n1 n2 n3 n4 zCl (kL (Ud n1 n2 n3 n4) us (.slice (some ⟨n4, 0, none⟩) 2 2)) (uP n2 n3)) := ⟨_, rfl, HT1⟩
  rw [hwa]
  clear hwa HT1
  generalize w1.heap.size = g3 at *
  have d : wa.cell? ⟨g3, 0, none⟩ = some (.int .i64 64) := HT.out.b3.cell 0
  have fz := HT.out.b3.frozen 0
  go_upto_region 33 with fail
  obtain ⟨a', c', wb, hc', hwb, HT2, HC⟩ : ∃ (a' : Ad) (c' : Cf) (wb : World), c' = tcf 1 ∧ wa.setCell ⟨g3, 0, none⟩ (.int .i64 66) = wb ∧ Hid (Tb w wb w.heap.size g3 n1 n2 n3 n4 zCl (kL a' c' (.slice a'.pa c'.pn a'.pc)) (uP n2 n3)) ∧ Hid (∀ wf, Tb w wf w.heap.size g3 n1 n2 n3 n4 (kL a' c' (.slice a'.pa c'.pn a'.pc)) (kL a' c' (.slice a'.pa c'.pn a'.pc)) (uP n2 n3) → Cin wf a' c') := by
    refine ⟨Ud n1 n2 n3 n4, tcf 1, _, rfl, rfl, HT.out.set3 0 _, fun wf h => ?_⟩
    · obtain ⟨a', ha'⟩ : ∃ a' : Ad, a' = Ud n1 n2 n3 n4 := ⟨_, rfl⟩
      exact cin_two (a := Ud n1 n2 n3 n4) h.p rfl rfl rfl rfl (arg_blk h.t (fun i hi => by rcases two_lt hi with rfl | rfl <;> rfl)) (arg_blk h.c0 (fun i hi => by rcases two_lt hi with rfl | rfl <;> rfl)) (arg_blk h.c1 (fun i hi => by obtain rfl : i = 0 := Nat.lt_one_iff.1 hi; rfl)) (by decide) (by decide) (by decide) (fun e => by cases e) (by intro e; cases e) (by intro e; cases e) (by decide) (by decide)
  rw [hwb]
  clear hwb d fz HT
  have hld := HT2.out.b3.sev.ld
  have st2 : (Instr.storeAt 28 (.pointer (some ⟨w.heap.size, 0, none⟩)) (.agg #[.int .i64 c'.F, .int .i64 c'.C, .int .i64 c'.W, .int .i64 c'.S, .int .i64 c'.V, .int .i64 c'.T, .int .u64 c'.k.l1, .int .u64 c'.k.llc, .int .u64 c'.k.mi, .int .u64 c'.k.fa, .int .u64 c'.k.st, .int .u64 c'.k.di, .int .u64 c'.sl, .int .u64 c'.pd, .int .u64 c'.ft, .slice a'.ta c'.tn a'.tc, .slice a'.pa c'.pn a'.pc])).run Tryz.prog wb = .ok () (wb.setRow w.heap.size (kL a' c' (.slice a'.pa c'.pn a'.pc)).toArray) := stR HT2.out.b2 rfl rfl rfl
  have HF : Hid (Trn 1 w (.returned (.agg #[.int .i64 c'.F, .int .i64 c'.C, .int .i64 c'.W, .int .i64 c'.S, .int .i64 c'.V, .int .i64 c'.T, .int .u64 c'.k.l1, .int .u64 c'.k.llc, .int .u64 c'.k.mi, .int .u64 c'.k.fa, .int .u64 c'.k.st, .int .u64 c'.k.di, .int .u64 c'.sl, .int .u64 c'.pd, .int .u64 c'.ft, .slice a'.ta c'.tn a'.tc, .slice a'.pa c'.pn a'.pc])) (wb.setRow w.heap.size (kL a' c' (.slice a'.pa c'.pn a'.pc)).toArray)) := ⟨a', c', rfl, hc', HC.out _ (HT2.out.row2 _), (HT2.out.row2 _).be⟩
  have HR : Hid ((wb.setRow w.heap.size (kL a' c' (.slice a'.pa c'.pn a'.pc)).toArray).heap[w.heap.size]? = some (.cells #[.int .i64 c'.F, .int .i64 c'.C, .int .i64 c'.W, .int .i64 c'.S, .int .i64 c'.V, .int .i64 c'.T, .int .u64 c'.k.l1, .int .u64 c'.k.llc, .int .u64 c'.k.mi, .int .u64 c'.k.fa, .int .u64 c'.k.st, .int .u64 c'.k.di, .int .u64 c'.sl, .int .u64 c'.pd, .int .u64 c'.ft, .slice a'.ta c'.tn a'.tc, .slice a'.pa c'.pn a'.pc] 28 (0, 0))) := HT2.out.b2.row
  clear HT2 HC hc'
  generalize wb.setRow w.heap.size (kL a' c' (.slice a'.pa c'.pn a'.pc)).toArray = w9 at *
  go_wp2_with (first | refine wpList_load_at rfl 28 (.tmp 3) rfl _ _ rfl hld ?_ | refine wpList_store_at rfl 28 (.tmp 2) (.tmp 71) rfl _ _ rfl rfl st2 ?_)
  refine bodyPost_ret (v := .agg #[.int .i64 c'.F, .int .i64 c'.C, .int .i64 c'.W, .int .i64 c'.S, .int .i64 c'.V, .int .i64 c'.T, .int .u64 c'.k.l1, .int .u64 c'.k.llc, .int .u64 c'.k.mi, .int .u64 c'.k.fa, .int .u64 c'.k.st, .int .u64 c'.k.di, .int .u64 c'.sl, .int .u64 c'.pd, .int .u64 c'.ft, .slice a'.ta c'.tn a'.tc, .slice a'.pa c'.pn a'.pc]) (results_cell_row Tryz.results4 _ w9 w.heap.size 28 _ (0, 0) _ rfl HR.out Tryz.underlying28 rfl Tryz.infoK) rfl HF.out
set_option maxRecDepth 100000 in
set_option maxHeartbeats 2000000 in
theorem turned_2 (w : World) : Calls Tryz.prog 4 #[.int .i64 2] w (Trn 2 w) := by
  have U : Hid (∀ w, Calls Tryz.prog 9 #[] w (Usd w)) := fun w => usual_any w
  go_enter Tryz.func4, Tryz.ntmps4
  go_wp2_with fail
  refine (U.out _).mono ?_
  rintro _ w1 ⟨n1, n2, n3, n4, b, c, rfl, hc, hb, hU, ho, k1⟩
  have st := stK w1 b c
  have HT0 : Hid (Tb w (w1.alloc (.cells #[.int .i64 c.F, .int .i64 c.C, .int .i64 c.W, .int .i64 c.S, .int .i64 c.V, .int .i64 c.T, .int .u64 c.k.l1, .int .u64 c.k.llc, .int .u64 c.k.mi, .int .u64 c.k.fa, .int .u64 c.k.st, .int .u64 c.k.di, .int .u64 c.sl, .int .u64 c.pd, .int .u64 c.ft, .slice b.ta c.tn b.tc, .slice b.pa c.pn b.pc] 28)) w.heap.size w1.heap.size n1 n2 n3 n4 zCl (kL b c (.slice b.pa c.pn b.pc)) (uP n2 n3)) := tb_new hU ho k1 _
  have HT1 : Hid (Tb w (w1.alloc (.cells #[.int .i64 c.F, .int .i64 c.C, .int .i64 c.W, .int .i64 c.S, .int .i64 c.V, .int .i64 c.T, .int .u64 c.k.l1, .int .u64 c.k.llc, .int .u64 c.k.mi, .int .u64 c.k.fa, .int .u64 c.k.st, .int .u64 c.k.di, .int .u64 c.sl, .int .u64 c.pd, .int .u64 c.ft, .slice b.ta c.tn b.tc, .slice b.pa c.pn b.pc] 28)) w.heap.size w1.heap.size n1 n2 n3 n4 zCl (kL (Ud n1 n2 n3 n4) us (.slice (some ⟨n4, 0, none⟩) 2 2)) (uP n2 n3)) := by rw [hc, hb] at HT0; rw [hc, hb]; exact HT0
  clear hU ho k1 HT0 hc hb
  go_upto_region 2 with (refine wpList_store_at rfl 28 (.tmp 3) (.tmp 4) rfl _ _ rfl rfl st ?_)
  clear st
  go_frame
  obtain ⟨wa, hwa, HT⟩ : ∃ wa, w1.alloc (.cells #[.int .i64 c.F, .int .i64 c.C, .int .i64 c.W, .int .i64 c.S, .int .i64 c.V, .int .i64 c.T, .int .u64 c.k.l1, .int .u64 c.k.llc, .int .u64 c.k.mi, .int .u64 c.k.fa, .int .u64 c.k.st, .int .u64 c.k.di, .int .u64 c.sl, .int .u64 c.pd, .int .u64 c.ft, .slice b.ta c.tn b.tc, .slice b.pa c.pn b.pc] 28) = wa ∧ Hid (Tb w wa w.heap.size w1.heap.size n1 n2 n3 n4 zCl (kL (Ud n1 n2 n3 n4) us (.slice (some ⟨n4, 0, none⟩) 2 2)) (uP n2 n3)) := ⟨_, rfl, HT1⟩
  rw [hwa]
  clear hwa HT1
  generalize w1.heap.size = g3 at *
  have d : wa.cell? ⟨g3, 12, none⟩ = some (.int .u64 4000) := HT.out.b3.cell 12
  have fz := HT.out.b3.frozen 12
  go_upto_region 33 with fail
  obtain ⟨a', c', wb, hc', hwb, HT2, HC⟩ : ∃ (a' : Ad) (c' : Cf) (wb : World), c' = tcf 2 ∧ wa.setCell ⟨g3, 12, none⟩ (.int .u64 100) = wb ∧ Hid (Tb w wb w.heap.size g3 n1 n2 n3 n4 zCl (kL a' c' (.slice a'.pa c'.pn a'.pc)) (uP n2 n3)) ∧ Hid (∀ wf, Tb w wf w.heap.size g3 n1 n2 n3 n4 (kL a' c' (.slice a'.pa c'.pn a'.pc)) (kL a' c' (.slice a'.pa c'.pn a'.pc)) (uP n2 n3) → Cin wf a' c') := by
    refine ⟨Ud n1 n2 n3 n4, tcf 2, _, rfl, rfl, HT.out.set3 12 _, fun wf h => ?_⟩
    · obtain ⟨a', ha'⟩ : ∃ a' : Ad, a' = Ud n1 n2 n3 n4 := ⟨_, rfl⟩
      exact cin_two (a := Ud n1 n2 n3 n4) h.p rfl rfl rfl rfl (arg_blk h.t (fun i hi => by rcases two_lt hi with rfl | rfl <;> rfl)) (arg_blk h.c0 (fun i hi => by rcases two_lt hi with rfl | rfl <;> rfl)) (arg_blk h.c1 (fun i hi => by obtain rfl : i = 0 := Nat.lt_one_iff.1 hi; rfl)) (by decide) (by decide) (by decide) (fun e => by cases e) (by intro e; cases e) (by intro e; cases e) (by decide) (by decide)
  rw [hwb]
  clear hwb d fz HT
  have hld := HT2.out.b3.sev.ld
  have st2 : (Instr.storeAt 28 (.pointer (some ⟨w.heap.size, 0, none⟩)) (.agg #[.int .i64 c'.F, .int .i64 c'.C, .int .i64 c'.W, .int .i64 c'.S, .int .i64 c'.V, .int .i64 c'.T, .int .u64 c'.k.l1, .int .u64 c'.k.llc, .int .u64 c'.k.mi, .int .u64 c'.k.fa, .int .u64 c'.k.st, .int .u64 c'.k.di, .int .u64 c'.sl, .int .u64 c'.pd, .int .u64 c'.ft, .slice a'.ta c'.tn a'.tc, .slice a'.pa c'.pn a'.pc])).run Tryz.prog wb = .ok () (wb.setRow w.heap.size (kL a' c' (.slice a'.pa c'.pn a'.pc)).toArray) := stR HT2.out.b2 rfl rfl rfl
  have HF : Hid (Trn 2 w (.returned (.agg #[.int .i64 c'.F, .int .i64 c'.C, .int .i64 c'.W, .int .i64 c'.S, .int .i64 c'.V, .int .i64 c'.T, .int .u64 c'.k.l1, .int .u64 c'.k.llc, .int .u64 c'.k.mi, .int .u64 c'.k.fa, .int .u64 c'.k.st, .int .u64 c'.k.di, .int .u64 c'.sl, .int .u64 c'.pd, .int .u64 c'.ft, .slice a'.ta c'.tn a'.tc, .slice a'.pa c'.pn a'.pc])) (wb.setRow w.heap.size (kL a' c' (.slice a'.pa c'.pn a'.pc)).toArray)) := ⟨a', c', rfl, hc', HC.out _ (HT2.out.row2 _), (HT2.out.row2 _).be⟩
  have HR : Hid ((wb.setRow w.heap.size (kL a' c' (.slice a'.pa c'.pn a'.pc)).toArray).heap[w.heap.size]? = some (.cells #[.int .i64 c'.F, .int .i64 c'.C, .int .i64 c'.W, .int .i64 c'.S, .int .i64 c'.V, .int .i64 c'.T, .int .u64 c'.k.l1, .int .u64 c'.k.llc, .int .u64 c'.k.mi, .int .u64 c'.k.fa, .int .u64 c'.k.st, .int .u64 c'.k.di, .int .u64 c'.sl, .int .u64 c'.pd, .int .u64 c'.ft, .slice a'.ta c'.tn a'.tc, .slice a'.pa c'.pn a'.pc] 28 (0, 0))) := HT2.out.b2.row
  clear HT2 HC hc'
  generalize wb.setRow w.heap.size (kL a' c' (.slice a'.pa c'.pn a'.pc)).toArray = w9 at *
  go_wp2_with (first | refine wpList_load_at rfl 28 (.tmp 3) rfl _ _ rfl hld ?_ | refine wpList_store_at rfl 28 (.tmp 2) (.tmp 71) rfl _ _ rfl rfl st2 ?_)
  refine bodyPost_ret (v := .agg #[.int .i64 c'.F, .int .i64 c'.C, .int .i64 c'.W, .int .i64 c'.S, .int .i64 c'.V, .int .i64 c'.T, .int .u64 c'.k.l1, .int .u64 c'.k.llc, .int .u64 c'.k.mi, .int .u64 c'.k.fa, .int .u64 c'.k.st, .int .u64 c'.k.di, .int .u64 c'.sl, .int .u64 c'.pd, .int .u64 c'.ft, .slice a'.ta c'.tn a'.tc, .slice a'.pa c'.pn a'.pc]) (results_cell_row Tryz.results4 _ w9 w.heap.size 28 _ (0, 0) _ rfl HR.out Tryz.underlying28 rfl Tryz.infoK) rfl HF.out
set_option maxRecDepth 100000 in
set_option maxHeartbeats 2000000 in
theorem turned_3 (w : World) : Calls Tryz.prog 4 #[.int .i64 3] w (Trn 3 w) := by
  have U : Hid (∀ w, Calls Tryz.prog 9 #[] w (Usd w)) := fun w => usual_any w
  go_enter Tryz.func4, Tryz.ntmps4
  go_wp2_with fail
  refine (U.out _).mono ?_
  rintro _ w1 ⟨n1, n2, n3, n4, b, c, rfl, hc, hb, hU, ho, k1⟩
  have st := stK w1 b c
  have HT0 : Hid (Tb w (w1.alloc (.cells #[.int .i64 c.F, .int .i64 c.C, .int .i64 c.W, .int .i64 c.S, .int .i64 c.V, .int .i64 c.T, .int .u64 c.k.l1, .int .u64 c.k.llc, .int .u64 c.k.mi, .int .u64 c.k.fa, .int .u64 c.k.st, .int .u64 c.k.di, .int .u64 c.sl, .int .u64 c.pd, .int .u64 c.ft, .slice b.ta c.tn b.tc, .slice b.pa c.pn b.pc] 28)) w.heap.size w1.heap.size n1 n2 n3 n4 zCl (kL b c (.slice b.pa c.pn b.pc)) (uP n2 n3)) := tb_new hU ho k1 _
  have HT1 : Hid (Tb w (w1.alloc (.cells #[.int .i64 c.F, .int .i64 c.C, .int .i64 c.W, .int .i64 c.S, .int .i64 c.V, .int .i64 c.T, .int .u64 c.k.l1, .int .u64 c.k.llc, .int .u64 c.k.mi, .int .u64 c.k.fa, .int .u64 c.k.st, .int .u64 c.k.di, .int .u64 c.sl, .int .u64 c.pd, .int .u64 c.ft, .slice b.ta c.tn b.tc, .slice b.pa c.pn b.pc] 28)) w.heap.size w1.heap.size n1 n2 n3 n4 zCl (kL (Ud n1 n2 n3 n4) us (.slice (some ⟨n4, 0, none⟩) 2 2)) (uP n2 n3)) := by rw [hc, hb] at HT0; rw [hc, hb]; exact HT0
  clear hU ho k1 HT0 hc hb
  go_upto_region 2 with (refine wpList_store_at rfl 28 (.tmp 3) (.tmp 4) rfl _ _ rfl rfl st ?_)
  clear st
  go_frame
  obtain ⟨wa, hwa, HT⟩ : ∃ wa, w1.alloc (.cells #[.int .i64 c.F, .int .i64 c.C, .int .i64 c.W, .int .i64 c.S, .int .i64 c.V, .int .i64 c.T, .int .u64 c.k.l1, .int .u64 c.k.llc, .int .u64 c.k.mi, .int .u64 c.k.fa, .int .u64 c.k.st, .int .u64 c.k.di, .int .u64 c.sl, .int .u64 c.pd, .int .u64 c.ft, .slice b.ta c.tn b.tc, .slice b.pa c.pn b.pc] 28) = wa ∧ Hid (Tb w wa w.heap.size w1.heap.size n1 n2 n3 n4 zCl (kL (Ud n1 n2 n3 n4) us (.slice (some ⟨n4, 0, none⟩) 2 2)) (uP n2 n3)) := ⟨_, rfl, HT1⟩
  rw [hwa]
  clear hwa HT1
  generalize w1.heap.size = g3 at *
  have d : ∀ o, (wa.alloc o).cell? ⟨g3, 15, none⟩ = some (.slice (some ⟨n1, 0, none⟩) 2 2) := fun o => (HT.out.alloc o).b3.cell 15
  have fz : ∀ o, (wa.alloc o).frozen? ⟨g3, 15, none⟩ = false := fun o => (HT.out.alloc o).b3.frozen 15
  go_upto_region 33 with fail
  have HXb : Hid (Blk ((wa.alloc (.cells #[.int .i64 0, .int .i64 2] 3)).setCell ⟨g3, 15, none⟩ (.slice (some ⟨wa.heap.size, 0, none⟩) 2 2)) wa.heap.size 3 [.int .i64 0, .int .i64 2]) := blk_set_other (blk_new wa _ _) (by have := HT.out.b3.lt; omega) 15 _
  obtain ⟨a', c', wb, hc', hwb, HT2, HC, HX2⟩ : ∃ (a' : Ad) (c' : Cf) (wb : World), c' = tcf 3 ∧ (wa.alloc (.cells #[.int .i64 0, .int .i64 2] 3)).setCell ⟨g3, 15, none⟩ (.slice (some ⟨wa.heap.size, 0, none⟩) 2 2) = wb ∧ Hid (Tb w wb w.heap.size g3 n1 n2 n3 n4 zCl (kL a' c' (.slice a'.pa c'.pn a'.pc)) (uP n2 n3)) ∧ Hid (∀ wf, Blk wf wa.heap.size 3 [.int .i64 0, .int .i64 2] → Tb w wf w.heap.size g3 n1 n2 n3 n4 (kL a' c' (.slice a'.pa c'.pn a'.pc)) (kL a' c' (.slice a'.pa c'.pn a'.pc)) (uP n2 n3) → Cin wf a' c') ∧ Hid (Blk wb wa.heap.size 3 [.int .i64 0, .int .i64 2]) := by
    refine ⟨{ Ud n1 n2 n3 n4 with ta := some ⟨wa.heap.size, 0, none⟩ }, tcf 3, _, rfl, rfl, (HT.out.alloc _).set3 15 _, fun wf hX h => ?_, HXb⟩
    · have hx : Blk wf wa.heap.size 3 [.int .i64 0, .int .i64 2] := hX
      obtain ⟨a', ha'⟩ : ∃ a' : Ad, a' = { Ud n1 n2 n3 n4 with ta := some ⟨wa.heap.size, 0, none⟩ } := ⟨_, rfl⟩
      exact cin_two (a := { Ud n1 n2 n3 n4 with ta := some ⟨wa.heap.size, 0, none⟩ }) h.p rfl rfl rfl rfl (arg_blk hx (fun i hi => by rcases two_lt hi with rfl | rfl <;> rfl)) (arg_blk h.c0 (fun i hi => by rcases two_lt hi with rfl | rfl <;> rfl)) (arg_blk h.c1 (fun i hi => by obtain rfl : i = 0 := Nat.lt_one_iff.1 hi; rfl)) (by decide) (by decide) (by decide) (fun e => by cases e) (by intro e; cases e) (by intro e; cases e) (by decide) (by decide)
  have HNE : w.heap.size ≠ wa.heap.size := by have := HT.out.b2.lt; omega
  rw [hwb]
  clear hwb d fz HT HXb
  have hld := HT2.out.b3.sev.ld
  have st2 : (Instr.storeAt 28 (.pointer (some ⟨w.heap.size, 0, none⟩)) (.agg #[.int .i64 c'.F, .int .i64 c'.C, .int .i64 c'.W, .int .i64 c'.S, .int .i64 c'.V, .int .i64 c'.T, .int .u64 c'.k.l1, .int .u64 c'.k.llc, .int .u64 c'.k.mi, .int .u64 c'.k.fa, .int .u64 c'.k.st, .int .u64 c'.k.di, .int .u64 c'.sl, .int .u64 c'.pd, .int .u64 c'.ft, .slice a'.ta c'.tn a'.tc, .slice a'.pa c'.pn a'.pc])).run Tryz.prog wb = .ok () (wb.setRow w.heap.size (kL a' c' (.slice a'.pa c'.pn a'.pc)).toArray) := stR HT2.out.b2 rfl rfl rfl
  have HF : Hid (Trn 3 w (.returned (.agg #[.int .i64 c'.F, .int .i64 c'.C, .int .i64 c'.W, .int .i64 c'.S, .int .i64 c'.V, .int .i64 c'.T, .int .u64 c'.k.l1, .int .u64 c'.k.llc, .int .u64 c'.k.mi, .int .u64 c'.k.fa, .int .u64 c'.k.st, .int .u64 c'.k.di, .int .u64 c'.sl, .int .u64 c'.pd, .int .u64 c'.ft, .slice a'.ta c'.tn a'.tc, .slice a'.pa c'.pn a'.pc])) (wb.setRow w.heap.size (kL a' c' (.slice a'.pa c'.pn a'.pc)).toArray)) := ⟨a', c', rfl, hc', HC.out _ (HX2.out.other HNE) (HT2.out.row2 _), (HT2.out.row2 _).be⟩
  have HR : Hid ((wb.setRow w.heap.size (kL a' c' (.slice a'.pa c'.pn a'.pc)).toArray).heap[w.heap.size]? = some (.cells #[.int .i64 c'.F, .int .i64 c'.C, .int .i64 c'.W, .int .i64 c'.S, .int .i64 c'.V, .int .i64 c'.T, .int .u64 c'.k.l1, .int .u64 c'.k.llc, .int .u64 c'.k.mi, .int .u64 c'.k.fa, .int .u64 c'.k.st, .int .u64 c'.k.di, .int .u64 c'.sl, .int .u64 c'.pd, .int .u64 c'.ft, .slice a'.ta c'.tn a'.tc, .slice a'.pa c'.pn a'.pc] 28 (0, 0))) := HT2.out.b2.row
  clear HT2 HC hc' HX2 HNE
  generalize wb.setRow w.heap.size (kL a' c' (.slice a'.pa c'.pn a'.pc)).toArray = w9 at *
  go_wp2_with (first | refine wpList_load_at rfl 28 (.tmp 3) rfl _ _ rfl hld ?_ | refine wpList_store_at rfl 28 (.tmp 2) (.tmp 71) rfl _ _ rfl rfl st2 ?_)
  refine bodyPost_ret (v := .agg #[.int .i64 c'.F, .int .i64 c'.C, .int .i64 c'.W, .int .i64 c'.S, .int .i64 c'.V, .int .i64 c'.T, .int .u64 c'.k.l1, .int .u64 c'.k.llc, .int .u64 c'.k.mi, .int .u64 c'.k.fa, .int .u64 c'.k.st, .int .u64 c'.k.di, .int .u64 c'.sl, .int .u64 c'.pd, .int .u64 c'.ft, .slice a'.ta c'.tn a'.tc, .slice a'.pa c'.pn a'.pc]) (results_cell_row Tryz.results4 _ w9 w.heap.size 28 _ (0, 0) _ rfl HR.out Tryz.underlying28 rfl Tryz.infoK) rfl HF.out
set_option maxRecDepth 100000 in
set_option maxHeartbeats 2000000 in
theorem turned_4 (w : World) : Calls Tryz.prog 4 #[.int .i64 4] w (Trn 4 w) := by
  have U : Hid (∀ w, Calls Tryz.prog 9 #[] w (Usd w)) := fun w => usual_any w
  go_enter Tryz.func4, Tryz.ntmps4
  go_wp2_with fail
  refine (U.out _).mono ?_
  rintro _ w1 ⟨n1, n2, n3, n4, b, c, rfl, hc, hb, hU, ho, k1⟩
  have st := stK w1 b c
  have HT0 : Hid (Tb w (w1.alloc (.cells #[.int .i64 c.F, .int .i64 c.C, .int .i64 c.W, .int .i64 c.S, .int .i64 c.V, .int .i64 c.T, .int .u64 c.k.l1, .int .u64 c.k.llc, .int .u64 c.k.mi, .int .u64 c.k.fa, .int .u64 c.k.st, .int .u64 c.k.di, .int .u64 c.sl, .int .u64 c.pd, .int .u64 c.ft, .slice b.ta c.tn b.tc, .slice b.pa c.pn b.pc] 28)) w.heap.size w1.heap.size n1 n2 n3 n4 zCl (kL b c (.slice b.pa c.pn b.pc)) (uP n2 n3)) := tb_new hU ho k1 _
  have HT1 : Hid (Tb w (w1.alloc (.cells #[.int .i64 c.F, .int .i64 c.C, .int .i64 c.W, .int .i64 c.S, .int .i64 c.V, .int .i64 c.T, .int .u64 c.k.l1, .int .u64 c.k.llc, .int .u64 c.k.mi, .int .u64 c.k.fa, .int .u64 c.k.st, .int .u64 c.k.di, .int .u64 c.sl, .int .u64 c.pd, .int .u64 c.ft, .slice b.ta c.tn b.tc, .slice b.pa c.pn b.pc] 28)) w.heap.size w1.heap.size n1 n2 n3 n4 zCl (kL (Ud n1 n2 n3 n4) us (.slice (some ⟨n4, 0, none⟩) 2 2)) (uP n2 n3)) := by rw [hc, hb] at HT0; rw [hc, hb]; exact HT0
  clear hU ho k1 HT0 hc hb
  go_upto_region 2 with (refine wpList_store_at rfl 28 (.tmp 3) (.tmp 4) rfl _ _ rfl rfl st ?_)
  clear st
  go_frame
  obtain ⟨wa, hwa, HT⟩ : ∃ wa, w1.alloc (.cells #[.int .i64 c.F, .int .i64 c.C, .int .i64 c.W, .int .i64 c.S, .int .i64 c.V, .int .i64 c.T, .int .u64 c.k.l1, .int .u64 c.k.llc, .int .u64 c.k.mi, .int .u64 c.k.fa, .int .u64 c.k.st, .int .u64 c.k.di, .int .u64 c.sl, .int .u64 c.pd, .int .u64 c.ft, .slice b.ta c.tn b.tc, .slice b.pa c.pn b.pc] 28) = wa ∧ Hid (Tb w wa w.heap.size w1.heap.size n1 n2 n3 n4 zCl (kL (Ud n1 n2 n3 n4) us (.slice (some ⟨n4, 0, none⟩) 2 2)) (uP n2 n3)) := ⟨_, rfl, HT1⟩
  rw [hwa]
  clear hwa HT1
  generalize w1.heap.size = g3 at *
  have d : wa.cell? ⟨g3, 15, none⟩ = some (.slice (some ⟨n1, 0, none⟩) 2 2) := HT.out.b3.cell 15
  have fz := HT.out.b3.frozen 15
  go_upto_region 33 with fail
  obtain ⟨a', c', wb, hc', hwb, HT2, HC⟩ : ∃ (a' : Ad) (c' : Cf) (wb : World), c' = tcf 4 ∧ wa.setCell ⟨g3, 15, none⟩ (.slice none 0 0) = wb ∧ Hid (Tb w wb w.heap.size g3 n1 n2 n3 n4 zCl (kL a' c' (.slice a'.pa c'.pn a'.pc)) (uP n2 n3)) ∧ Hid (∀ wf, Tb w wf w.heap.size g3 n1 n2 n3 n4 (kL a' c' (.slice a'.pa c'.pn a'.pc)) (kL a' c' (.slice a'.pa c'.pn a'.pc)) (uP n2 n3) → Cin wf a' c') := by
    refine ⟨{ Ud n1 n2 n3 n4 with ta := none, tc := 0 }, tcf 4, _, rfl, rfl, HT.out.set3 15 _, fun wf h => ?_⟩
    · obtain ⟨a', ha'⟩ : ∃ a' : Ad, a' = { Ud n1 n2 n3 n4 with ta := none, tc := 0 } := ⟨_, rfl⟩
      exact cin_two (a := { Ud n1 n2 n3 n4 with ta := none, tc := 0 }) h.p rfl rfl rfl rfl (Or.inl rfl) (arg_blk h.c0 (fun i hi => by rcases two_lt hi with rfl | rfl <;> rfl)) (arg_blk h.c1 (fun i hi => by obtain rfl : i = 0 := Nat.lt_one_iff.1 hi; rfl)) (by decide) (by decide) (by decide) (fun e => ⟨rfl, rfl⟩) (by intro e; cases e) (by intro e; cases e) (by decide) (by decide)
  rw [hwb]
  clear hwb d fz HT
  have hld := HT2.out.b3.sev.ld
  have st2 : (Instr.storeAt 28 (.pointer (some ⟨w.heap.size, 0, none⟩)) (.agg #[.int .i64 c'.F, .int .i64 c'.C, .int .i64 c'.W, .int .i64 c'.S, .int .i64 c'.V, .int .i64 c'.T, .int .u64 c'.k.l1, .int .u64 c'.k.llc, .int .u64 c'.k.mi, .int .u64 c'.k.fa, .int .u64 c'.k.st, .int .u64 c'.k.di, .int .u64 c'.sl, .int .u64 c'.pd, .int .u64 c'.ft, .slice a'.ta c'.tn a'.tc, .slice a'.pa c'.pn a'.pc])).run Tryz.prog wb = .ok () (wb.setRow w.heap.size (kL a' c' (.slice a'.pa c'.pn a'.pc)).toArray) := stR HT2.out.b2 rfl rfl rfl
  have HF : Hid (Trn 4 w (.returned (.agg #[.int .i64 c'.F, .int .i64 c'.C, .int .i64 c'.W, .int .i64 c'.S, .int .i64 c'.V, .int .i64 c'.T, .int .u64 c'.k.l1, .int .u64 c'.k.llc, .int .u64 c'.k.mi, .int .u64 c'.k.fa, .int .u64 c'.k.st, .int .u64 c'.k.di, .int .u64 c'.sl, .int .u64 c'.pd, .int .u64 c'.ft, .slice a'.ta c'.tn a'.tc, .slice a'.pa c'.pn a'.pc])) (wb.setRow w.heap.size (kL a' c' (.slice a'.pa c'.pn a'.pc)).toArray)) := ⟨a', c', rfl, hc', HC.out _ (HT2.out.row2 _), (HT2.out.row2 _).be⟩
  have HR : Hid ((wb.setRow w.heap.size (kL a' c' (.slice a'.pa c'.pn a'.pc)).toArray).heap[w.heap.size]? = some (.cells #[.int .i64 c'.F, .int .i64 c'.C, .int .i64 c'.W, .int .i64 c'.S, .int .i64 c'.V, .int .i64 c'.T, .int .u64 c'.k.l1, .int .u64 c'.k.llc, .int .u64 c'.k.mi, .int .u64 c'.k.fa, .int .u64 c'.k.st, .int .u64 c'.k.di, .int .u64 c'.sl, .int .u64 c'.pd, .int .u64 c'.ft, .slice a'.ta c'.tn a'.tc, .slice a'.pa c'.pn a'.pc] 28 (0, 0))) := HT2.out.b2.row
  clear HT2 HC hc'
  generalize wb.setRow w.heap.size (kL a' c' (.slice a'.pa c'.pn a'.pc)).toArray = w9 at *
  go_wp2_with (first | refine wpList_load_at rfl 28 (.tmp 3) rfl _ _ rfl hld ?_ | refine wpList_store_at rfl 28 (.tmp 2) (.tmp 71) rfl _ _ rfl rfl st2 ?_)
  refine bodyPost_ret (v := .agg #[.int .i64 c'.F, .int .i64 c'.C, .int .i64 c'.W, .int .i64 c'.S, .int .i64 c'.V, .int .i64 c'.T, .int .u64 c'.k.l1, .int .u64 c'.k.llc, .int .u64 c'.k.mi, .int .u64 c'.k.fa, .int .u64 c'.k.st, .int .u64 c'.k.di, .int .u64 c'.sl, .int .u64 c'.pd, .int .u64 c'.ft, .slice a'.ta c'.tn a'.tc, .slice a'.pa c'.pn a'.pc]) (results_cell_row Tryz.results4 _ w9 w.heap.size 28 _ (0, 0) _ rfl HR.out Tryz.underlying28 rfl Tryz.infoK) rfl HF.out
set_option maxRecDepth 100000 in
set_option maxHeartbeats 2000000 in
theorem turned_5 (w : World) : Calls Tryz.prog 4 #[.int .i64 5] w (Trn 5 w) := by
  have U : Hid (∀ w, Calls Tryz.prog 9 #[] w (Usd w)) := fun w => usual_any w
  go_enter Tryz.func4, Tryz.ntmps4
  go_wp2_with fail
  refine (U.out _).mono ?_
  rintro _ w1 ⟨n1, n2, n3, n4, b, c, rfl, hc, hb, hU, ho, k1⟩
  have st := stK w1 b c
  have HT0 : Hid (Tb w (w1.alloc (.cells #[.int .i64 c.F, .int .i64 c.C, .int .i64 c.W, .int .i64 c.S, .int .i64 c.V, .int .i64 c.T, .int .u64 c.k.l1, .int .u64 c.k.llc, .int .u64 c.k.mi, .int .u64 c.k.fa, .int .u64 c.k.st, .int .u64 c.k.di, .int .u64 c.sl, .int .u64 c.pd, .int .u64 c.ft, .slice b.ta c.tn b.tc, .slice b.pa c.pn b.pc] 28)) w.heap.size w1.heap.size n1 n2 n3 n4 zCl (kL b c (.slice b.pa c.pn b.pc)) (uP n2 n3)) := tb_new hU ho k1 _
  have HT1 : Hid (Tb w (w1.alloc (.cells #[.int .i64 c.F, .int .i64 c.C, .int .i64 c.W, .int .i64 c.S, .int .i64 c.V, .int .i64 c.T, .int .u64 c.k.l1, .int .u64 c.k.llc, .int .u64 c.k.mi, .int .u64 c.k.fa, .int .u64 c.k.st, .int .u64 c.k.di, .int .u64 c.sl, .int .u64 c.pd, .int .u64 c.ft, .slice b.ta c.tn b.tc, .slice b.pa c.pn b.pc] 28)) w.heap.size w1.heap.size n1 n2 n3 n4 zCl (kL (Ud n1 n2 n3 n4) us (.slice (some ⟨n4, 0, none⟩) 2 2)) (uP n2 n3)) := by rw [hc, hb] at HT0; rw [hc, hb]; exact HT0
  clear hU ho k1 HT0 hc hb
  go_upto_region 2 with (refine wpList_store_at rfl 28 (.tmp 3) (.tmp 4) rfl _ _ rfl rfl st ?_)
  clear st
  go_frame
  obtain ⟨wa, hwa, HT⟩ : ∃ wa, w1.alloc (.cells #[.int .i64 c.F, .int .i64 c.C, .int .i64 c.W, .int .i64 c.S, .int .i64 c.V, .int .i64 c.T, .int .u64 c.k.l1, .int .u64 c.k.llc, .int .u64 c.k.mi, .int .u64 c.k.fa, .int .u64 c.k.st, .int .u64 c.k.di, .int .u64 c.sl, .int .u64 c.pd, .int .u64 c.ft, .slice b.ta c.tn b.tc, .slice b.pa c.pn b.pc] 28) = wa ∧ Hid (Tb w wa w.heap.size w1.heap.size n1 n2 n3 n4 zCl (kL (Ud n1 n2 n3 n4) us (.slice (some ⟨n4, 0, none⟩) 2 2)) (uP n2 n3)) := ⟨_, rfl, HT1⟩
  rw [hwa]
  clear hwa HT1
  generalize w1.heap.size = g3 at *
  have d : ∀ o, (wa.alloc o).cell? ⟨g3, 15, none⟩ = some (.slice (some ⟨n1, 0, none⟩) 2 2) := fun o => (HT.out.alloc o).b3.cell 15
  have fz : ∀ o, (wa.alloc o).frozen? ⟨g3, 15, none⟩ = false := fun o => (HT.out.alloc o).b3.frozen 15
  obtain ⟨A5, hA5⟩ : ∃ A5 : List Value, A5 = List.replicate 65 (.int .i64 0) := ⟨_, rfl⟩
  have HA5 : Hid (A5 = List.replicate 65 (.int .i64 0)) := hA5
  have mk : (Instr.makeSlice 22 (.int .i64 65) (.int .i64 65)).run Tryz.prog wa = .ok (.slice (some ⟨wa.heap.size, 0, none⟩) 65 65) (wa.alloc (.cells A5.toArray 3)) := by
    rw [hA5, List.toArray_replicate]
    exact make_ints 65 (by decide) wa
  clear hA5
  go_upto_region 33 with fail
  have HXb : Hid (Blk ((wa.alloc (.cells A5.toArray 3)).setCell ⟨g3, 15, none⟩ (.slice (some ⟨wa.heap.size, 0, none⟩) 65 65)) wa.heap.size 3 A5) := blk_set_other (blk_new wa _ _) (by have := HT.out.b3.lt; omega) 15 _
  obtain ⟨a', c', wb, hc', hwb, HT2, HC, HX2⟩ : ∃ (a' : Ad) (c' : Cf) (wb : World), c' = tcf 5 ∧ (wa.alloc (.cells A5.toArray 3)).setCell ⟨g3, 15, none⟩ (.slice (some ⟨wa.heap.size, 0, none⟩) 65 65) = wb ∧ Hid (Tb w wb w.heap.size g3 n1 n2 n3 n4 zCl (kL a' c' (.slice a'.pa c'.pn a'.pc)) (uP n2 n3)) ∧ Hid (∀ wf, Blk wf wa.heap.size 3 A5 → Tb w wf w.heap.size g3 n1 n2 n3 n4 (kL a' c' (.slice a'.pa c'.pn a'.pc)) (kL a' c' (.slice a'.pa c'.pn a'.pc)) (uP n2 n3) → Cin wf a' c') ∧ Hid (Blk wb wa.heap.size 3 A5) := by
    refine ⟨{ Ud n1 n2 n3 n4 with ta := some ⟨wa.heap.size, 0, none⟩, tc := 65 }, tcf 5, _, rfl, rfl, (HT.out.alloc _).set3 15 _, fun wf hX h => ?_, HXb⟩
    · have hx : Blk wf wa.heap.size 3 A5 := hX
      obtain ⟨a', ha'⟩ : ∃ a' : Ad, a' = { Ud n1 n2 n3 n4 with ta := some ⟨wa.heap.size, 0, none⟩, tc := 65 } := ⟨_, rfl⟩
      exact cin_two (a := { Ud n1 n2 n3 n4 with ta := some ⟨wa.heap.size, 0, none⟩, tc := 65 }) h.p rfl rfl rfl rfl (arg_blk hx (fun i hi => by rw [HA5.out]; exact List.getElem?_replicate_of_lt hi)) (arg_blk h.c0 (fun i hi => by rcases two_lt hi with rfl | rfl <;> rfl)) (arg_blk h.c1 (fun i hi => by obtain rfl : i = 0 := Nat.lt_one_iff.1 hi; rfl)) (by decide) (by decide) (by decide) (fun e => by cases e) (by intro e; cases e) (by intro e; cases e) (by decide) (by decide)
  have HNE : w.heap.size ≠ wa.heap.size := by have := HT.out.b2.lt; omega
  rw [hwb]
  clear hwb d fz HT HXb mk
  have hld := HT2.out.b3.sev.ld
  have st2 : (Instr.storeAt 28 (.pointer (some ⟨w.heap.size, 0, none⟩)) (.agg #[.int .i64 c'.F, .int .i64 c'.C, .int .i64 c'.W, .int .i64 c'.S, .int .i64 c'.V, .int .i64 c'.T, .int .u64 c'.k.l1, .int .u64 c'.k.llc, .int .u64 c'.k.mi, .int .u64 c'.k.fa, .int .u64 c'.k.st, .int .u64 c'.k.di, .int .u64 c'.sl, .int .u64 c'.pd, .int .u64 c'.ft, .slice a'.ta c'.tn a'.tc, .slice a'.pa c'.pn a'.pc])).run Tryz.prog wb = .ok () (wb.setRow w.heap.size (kL a' c' (.slice a'.pa c'.pn a'.pc)).toArray) := stR HT2.out.b2 rfl rfl rfl
  have HF : Hid (Trn 5 w (.returned (.agg #[.int .i64 c'.F, .int .i64 c'.C, .int .i64 c'.W, .int .i64 c'.S, .int .i64 c'.V, .int .i64 c'.T, .int .u64 c'.k.l1, .int .u64 c'.k.llc, .int .u64 c'.k.mi, .int .u64 c'.k.fa, .int .u64 c'.k.st, .int .u64 c'.k.di, .int .u64 c'.sl, .int .u64 c'.pd, .int .u64 c'.ft, .slice a'.ta c'.tn a'.tc, .slice a'.pa c'.pn a'.pc])) (wb.setRow w.heap.size (kL a' c' (.slice a'.pa c'.pn a'.pc)).toArray)) := ⟨a', c', rfl, hc', HC.out _ (HX2.out.other HNE) (HT2.out.row2 _), (HT2.out.row2 _).be⟩
  have HR : Hid ((wb.setRow w.heap.size (kL a' c' (.slice a'.pa c'.pn a'.pc)).toArray).heap[w.heap.size]? = some (.cells #[.int .i64 c'.F, .int .i64 c'.C, .int .i64 c'.W, .int .i64 c'.S, .int .i64 c'.V, .int .i64 c'.T, .int .u64 c'.k.l1, .int .u64 c'.k.llc, .int .u64 c'.k.mi, .int .u64 c'.k.fa, .int .u64 c'.k.st, .int .u64 c'.k.di, .int .u64 c'.sl, .int .u64 c'.pd, .int .u64 c'.ft, .slice a'.ta c'.tn a'.tc, .slice a'.pa c'.pn a'.pc] 28 (0, 0))) := HT2.out.b2.row
  clear HT2 HC hc' HX2 HNE
  generalize wb.setRow w.heap.size (kL a' c' (.slice a'.pa c'.pn a'.pc)).toArray = w9 at *
  go_wp2_with (first | refine wpList_load_at rfl 28 (.tmp 3) rfl _ _ rfl hld ?_ | refine wpList_store_at rfl 28 (.tmp 2) (.tmp 71) rfl _ _ rfl rfl st2 ?_)
  refine bodyPost_ret (v := .agg #[.int .i64 c'.F, .int .i64 c'.C, .int .i64 c'.W, .int .i64 c'.S, .int .i64 c'.V, .int .i64 c'.T, .int .u64 c'.k.l1, .int .u64 c'.k.llc, .int .u64 c'.k.mi, .int .u64 c'.k.fa, .int .u64 c'.k.st, .int .u64 c'.k.di, .int .u64 c'.sl, .int .u64 c'.pd, .int .u64 c'.ft, .slice a'.ta c'.tn a'.tc, .slice a'.pa c'.pn a'.pc]) (results_cell_row Tryz.results4 _ w9 w.heap.size 28 _ (0, 0) _ rfl HR.out Tryz.underlying28 rfl Tryz.infoK) rfl HF.out
set_option maxRecDepth 100000 in
set_option maxHeartbeats 2000000 in
theorem turned_6 (w : World) : Calls Tryz.prog 4 #[.int .i64 6] w (Trn 6 w) := by
  have U : Hid (∀ w, Calls Tryz.prog 9 #[] w (Usd w)) := fun w => usual_any w
  go_enter Tryz.func4, Tryz.ntmps4
  go_wp2_with fail
  refine (U.out _).mono ?_
  rintro _ w1 ⟨n1, n2, n3, n4, b, c, rfl, hc, hb, hU, ho, k1⟩
  have st := stK w1 b c
  have HT0 : Hid (Tb w (w1.alloc (.cells #[.int .i64 c.F, .int .i64 c.C, .int .i64 c.W, .int .i64 c.S, .int .i64 c.V, .int .i64 c.T, .int .u64 c.k.l1, .int .u64 c.k.llc, .int .u64 c.k.mi, .int .u64 c.k.fa, .int .u64 c.k.st, .int .u64 c.k.di, .int .u64 c.sl, .int .u64 c.pd, .int .u64 c.ft, .slice b.ta c.tn b.tc, .slice b.pa c.pn b.pc] 28)) w.heap.size w1.heap.size n1 n2 n3 n4 zCl (kL b c (.slice b.pa c.pn b.pc)) (uP n2 n3)) := tb_new hU ho k1 _
  have HT1 : Hid (Tb w (w1.alloc (.cells #[.int .i64 c.F, .int .i64 c.C, .int .i64 c.W, .int .i64 c.S, .int .i64 c.V, .int .i64 c.T, .int .u64 c.k.l1, .int .u64 c.k.llc, .int .u64 c.k.mi, .int .u64 c.k.fa, .int .u64 c.k.st, .int .u64 c.k.di, .int .u64 c.sl, .int .u64 c.pd, .int .u64 c.ft, .slice b.ta c.tn b.tc, .slice b.pa c.pn b.pc] 28)) w.heap.size w1.heap.size n1 n2 n3 n4 zCl (kL (Ud n1 n2 n3 n4) us (.slice (some ⟨n4, 0, none⟩) 2 2)) (uP n2 n3)) := by rw [hc, hb] at HT0; rw [hc, hb]; exact HT0
  clear hU ho k1 HT0 hc hb
  go_upto_region 2 with (refine wpList_store_at rfl 28 (.tmp 3) (.tmp 4) rfl _ _ rfl rfl st ?_)
  clear st
  go_frame
  obtain ⟨wa, hwa, HT⟩ : ∃ wa, w1.alloc (.cells #[.int .i64 c.F, .int .i64 c.C, .int .i64 c.W, .int .i64 c.S, .int .i64 c.V, .int .i64 c.T, .int .u64 c.k.l1, .int .u64 c.k.llc, .int .u64 c.k.mi, .int .u64 c.k.fa, .int .u64 c.k.st, .int .u64 c.k.di, .int .u64 c.sl, .int .u64 c.pd, .int .u64 c.ft, .slice b.ta c.tn b.tc, .slice b.pa c.pn b.pc] 28) = wa ∧ Hid (Tb w wa w.heap.size w1.heap.size n1 n2 n3 n4 zCl (kL (Ud n1 n2 n3 n4) us (.slice (some ⟨n4, 0, none⟩) 2 2)) (uP n2 n3)) := ⟨_, rfl, HT1⟩
  rw [hwa]
  clear hwa HT1
  generalize w1.heap.size = g3 at *
  have d : ∀ o, (wa.alloc o).cell? ⟨n4, 8, none⟩ = some (.slice (some ⟨n3, 0, none⟩) 1 1) := fun o => (HT.out.alloc o).p.cell 8
  have fz : ∀ o, (wa.alloc o).frozen? ⟨n4, 8, none⟩ = false := fun o => (HT.out.alloc o).p.frozen 8
  have d16 : wa.cell? ⟨g3, 16, none⟩ = some (.slice (some ⟨n4, 0, none⟩) 2 2) := HT.out.b3.cell 16
  go_upto_region 33 with fail
  have HXb : Hid (Blk ((wa.alloc (.cells #[.int .i64 1] 3)).setCell ⟨n4, 8, none⟩ (.slice (some ⟨wa.heap.size, 0, none⟩) 1 1)) wa.heap.size 3 [.int .i64 1]) := blk_set_other (blk_new wa _ _) (by have := HT.out.p.lt; omega) 8 _
  obtain ⟨a', c', wb, hc', hwb, HT2, HC, HX2⟩ : ∃ (a' : Ad) (c' : Cf) (wb : World), c' = tcf 6 ∧ (wa.alloc (.cells #[.int .i64 1] 3)).setCell ⟨n4, 8, none⟩ (.slice (some ⟨wa.heap.size, 0, none⟩) 1 1) = wb ∧ Hid (Tb w wb w.heap.size g3 n1 n2 n3 n4 zCl (kL a' c' (.slice a'.pa c'.pn a'.pc)) (((uP n2 n3)).set 8 (.slice (some ⟨wa.heap.size, 0, none⟩) 1 1))) ∧ Hid (∀ wf, Blk wf wa.heap.size 3 [.int .i64 1] → Tb w wf w.heap.size g3 n1 n2 n3 n4 (kL a' c' (.slice a'.pa c'.pn a'.pc)) (kL a' c' (.slice a'.pa c'.pn a'.pc)) (((uP n2 n3)).set 8 (.slice (some ⟨wa.heap.size, 0, none⟩) 1 1)) → Cin wf a' c') ∧ Hid (Blk wb wa.heap.size 3 [.int .i64 1]) := by
    refine ⟨{ Ud n1 n2 n3 n4 with ca := fun i => some ⟨if i = 0 then n2 else wa.heap.size, 0, none⟩ }, tcf 6, _, rfl, rfl, (HT.out.alloc _).set4 8 _, fun wf hX h => ?_, HXb⟩
    · have hx : Blk wf wa.heap.size 3 [.int .i64 1] := hX
      obtain ⟨a', ha'⟩ : ∃ a' : Ad, a' = { Ud n1 n2 n3 n4 with ca := fun i => some ⟨if i = 0 then n2 else wa.heap.size, 0, none⟩ } := ⟨_, rfl⟩
      exact cin_two (a := { Ud n1 n2 n3 n4 with ca := fun i => some ⟨if i = 0 then n2 else wa.heap.size, 0, none⟩ }) h.p rfl rfl rfl rfl (arg_blk h.t (fun i hi => by rcases two_lt hi with rfl | rfl <;> rfl)) (arg_blk h.c0 (fun i hi => by rcases two_lt hi with rfl | rfl <;> rfl)) (arg_blk hx (fun i hi => by obtain rfl : i = 0 := Nat.lt_one_iff.1 hi; rfl)) (by decide) (by decide) (by decide) (fun e => by cases e) (by intro e; cases e) (by intro e; cases e) (by decide) (by decide)
  have HNE : w.heap.size ≠ wa.heap.size := by have := HT.out.b2.lt; omega
  rw [hwb]
  clear hwb d fz HT HXb d16
  have hld := HT2.out.b3.sev.ld
  have st2 : (Instr.storeAt 28 (.pointer (some ⟨w.heap.size, 0, none⟩)) (.agg #[.int .i64 c'.F, .int .i64 c'.C, .int .i64 c'.W, .int .i64 c'.S, .int .i64 c'.V, .int .i64 c'.T, .int .u64 c'.k.l1, .int .u64 c'.k.llc, .int .u64 c'.k.mi, .int .u64 c'.k.fa, .int .u64 c'.k.st, .int .u64 c'.k.di, .int .u64 c'.sl, .int .u64 c'.pd, .int .u64 c'.ft, .slice a'.ta c'.tn a'.tc, .slice a'.pa c'.pn a'.pc])).run Tryz.prog wb = .ok () (wb.setRow w.heap.size (kL a' c' (.slice a'.pa c'.pn a'.pc)).toArray) := stR HT2.out.b2 rfl rfl rfl
  have HF : Hid (Trn 6 w (.returned (.agg #[.int .i64 c'.F, .int .i64 c'.C, .int .i64 c'.W, .int .i64 c'.S, .int .i64 c'.V, .int .i64 c'.T, .int .u64 c'.k.l1, .int .u64 c'.k.llc, .int .u64 c'.k.mi, .int .u64 c'.k.fa, .int .u64 c'.k.st, .int .u64 c'.k.di, .int .u64 c'.sl, .int .u64 c'.pd, .int .u64 c'.ft, .slice a'.ta c'.tn a'.tc, .slice a'.pa c'.pn a'.pc])) (wb.setRow w.heap.size (kL a' c' (.slice a'.pa c'.pn a'.pc)).toArray)) := ⟨a', c', rfl, hc', HC.out _ (HX2.out.other HNE) (HT2.out.row2 _), (HT2.out.row2 _).be⟩
  have HR : Hid ((wb.setRow w.heap.size (kL a' c' (.slice a'.pa c'.pn a'.pc)).toArray).heap[w.heap.size]? = some (.cells #[.int .i64 c'.F, .int .i64 c'.C, .int .i64 c'.W, .int .i64 c'.S, .int .i64 c'.V, .int .i64 c'.T, .int .u64 c'.k.l1, .int .u64 c'.k.llc, .int .u64 c'.k.mi, .int .u64 c'.k.fa, .int .u64 c'.k.st, .int .u64 c'.k.di, .int .u64 c'.sl, .int .u64 c'.pd, .int .u64 c'.ft, .slice a'.ta c'.tn a'.tc, .slice a'.pa c'.pn a'.pc] 28 (0, 0))) := HT2.out.b2.row
  clear HT2 HC hc' HX2 HNE
  generalize wb.setRow w.heap.size (kL a' c' (.slice a'.pa c'.pn a'.pc)).toArray = w9 at *
  go_wp2_with (first | refine wpList_load_at rfl 28 (.tmp 3) rfl _ _ rfl hld ?_ | refine wpList_store_at rfl 28 (.tmp 2) (.tmp 71) rfl _ _ rfl rfl st2 ?_)
  refine bodyPost_ret (v := .agg #[.int .i64 c'.F, .int .i64 c'.C, .int .i64 c'.W, .int .i64 c'.S, .int .i64 c'.V, .int .i64 c'.T, .int .u64 c'.k.l1, .int .u64 c'.k.llc, .int .u64 c'.k.mi, .int .u64 c'.k.fa, .int .u64 c'.k.st, .int .u64 c'.k.di, .int .u64 c'.sl, .int .u64 c'.pd, .int .u64 c'.ft, .slice a'.ta c'.tn a'.tc, .slice a'.pa c'.pn a'.pc]) (results_cell_row Tryz.results4 _ w9 w.heap.size 28 _ (0, 0) _ rfl HR.out Tryz.underlying28 rfl Tryz.infoK) rfl HF.out
set_option maxRecDepth 100000 in
set_option maxHeartbeats 2000000 in
theorem turned_7 (w : World) : Calls Tryz.prog 4 #[.int .i64 7] w (Trn 7 w) := by
  have U : Hid (∀ w, Calls Tryz.prog 9 #[] w (Usd w)) := fun w => usual_any w
  go_enter Tryz.func4, Tryz.ntmps4
  go_wp2_with fail
  refine (U.out _).mono ?_
  rintro _ w1 ⟨n1, n2, n3, n4, b, c, rfl, hc, hb, hU, ho, k1⟩
  have st := stK w1 b c
  have HT0 : Hid (Tb w (w1.alloc (.cells #[.int .i64 c.F, .int .i64 c.C, .int .i64 c.W, .int .i64 c.S, .int .i64 c.V, .int .i64 c.T, .int .u64 c.k.l1, .int .u64 c.k.llc, .int .u64 c.k.mi, .int .u64 c.k.fa, .int .u64 c.k.st, .int .u64 c.k.di, .int .u64 c.sl, .int .u64 c.pd, .int .u64 c.ft, .slice b.ta c.tn b.tc, .slice b.pa c.pn b.pc] 28)) w.heap.size w1.heap.size n1 n2 n3 n4 zCl (kL b c (.slice b.pa c.pn b.pc)) (uP n2 n3)) := tb_new hU ho k1 _
  have HT1 : Hid (Tb w (w1.alloc (.cells #[.int .i64 c.F, .int .i64 c.C, .int .i64 c.W, .int .i64 c.S, .int .i64 c.V, .int .i64 c.T, .int .u64 c.k.l1, .int .u64 c.k.llc, .int .u64 c.k.mi, .int .u64 c.k.fa, .int .u64 c.k.st, .int .u64 c.k.di, .int .u64 c.sl, .int .u64 c.pd, .int .u64 c.ft, .slice b.ta c.tn b.tc, .slice b.pa c.pn b.pc] 28)) w.heap.size w1.heap.size n1 n2 n3 n4 zCl (kL (Ud n1 n2 n3 n4) us (.slice (some ⟨n4, 0, none⟩) 2 2)) (uP n2 n3)) := by rw [hc, hb] at HT0; rw [hc, hb]; exact HT0
  clear hU ho k1 HT0 hc hb
  go_upto_region 2 with (refine wpList_store_at rfl 28 (.tmp 3) (.tmp 4) rfl _ _ rfl rfl st ?_)
  clear st
  go_frame
  obtain ⟨wa, hwa, HT⟩ : ∃ wa, w1.alloc (.cells #[.int .i64 c.F, .int .i64 c.C, .int .i64 c.W, .int .i64 c.S, .int .i64 c.V, .int .i64 c.T, .int .u64 c.k.l1, .int .u64 c.k.llc, .int .u64 c.k.mi, .int .u64 c.k.fa, .int .u64 c.k.st, .int .u64 c.k.di, .int .u64 c.sl, .int .u64 c.pd, .int .u64 c.ft, .slice b.ta c.tn b.tc, .slice b.pa c.pn b.pc] 28) = wa ∧ Hid (Tb w wa w.heap.size w1.heap.size n1 n2 n3 n4 zCl (kL (Ud n1 n2 n3 n4) us (.slice (some ⟨n4, 0, none⟩) 2 2)) (uP n2 n3)) := ⟨_, rfl, HT1⟩
  rw [hwa]
  clear hwa HT1
  generalize w1.heap.size = g3 at *
  have d : ∀ o, (wa.alloc o).cell? ⟨n4, 8, none⟩ = some (.slice (some ⟨n3, 0, none⟩) 1 1) := fun o => (HT.out.alloc o).p.cell 8
  have fz : ∀ o, (wa.alloc o).frozen? ⟨n4, 8, none⟩ = false := fun o => (HT.out.alloc o).p.frozen 8
  have d16 : wa.cell? ⟨g3, 16, none⟩ = some (.slice (some ⟨n4, 0, none⟩) 2 2) := HT.out.b3.cell 16
  go_upto_region 33 with fail
  have HXb : Hid (Blk ((wa.alloc (.cells #[.int .i64 2, .int .i64 2] 3)).setCell ⟨n4, 8, none⟩ (.slice (some ⟨wa.heap.size, 0, none⟩) 2 2)) wa.heap.size 3 [.int .i64 2, .int .i64 2]) := blk_set_other (blk_new wa _ _) (by have := HT.out.p.lt; omega) 8 _
  obtain ⟨a', c', wb, hc', hwb, HT2, HC, HX2⟩ : ∃ (a' : Ad) (c' : Cf) (wb : World), c' = tcf 7 ∧ (wa.alloc (.cells #[.int .i64 2, .int .i64 2] 3)).setCell ⟨n4, 8, none⟩ (.slice (some ⟨wa.heap.size, 0, none⟩) 2 2) = wb ∧ Hid (Tb w wb w.heap.size g3 n1 n2 n3 n4 zCl (kL a' c' (.slice a'.pa c'.pn a'.pc)) (((uP n2 n3)).set 8 (.slice (some ⟨wa.heap.size, 0, none⟩) 2 2))) ∧ Hid (∀ wf, Blk wf wa.heap.size 3 [.int .i64 2, .int .i64 2] → Tb w wf w.heap.size g3 n1 n2 n3 n4 (kL a' c' (.slice a'.pa c'.pn a'.pc)) (kL a' c' (.slice a'.pa c'.pn a'.pc)) (((uP n2 n3)).set 8 (.slice (some ⟨wa.heap.size, 0, none⟩) 2 2)) → Cin wf a' c') ∧ Hid (Blk wb wa.heap.size 3 [.int .i64 2, .int .i64 2]) := by
    refine ⟨{ Ud n1 n2 n3 n4 with ca := fun i => some ⟨if i = 0 then n2 else wa.heap.size, 0, none⟩, cc := fun _ => 2 }, tcf 7, _, rfl, rfl, (HT.out.alloc _).set4 8 _, fun wf hX h => ?_, HXb⟩
    · have hx : Blk wf wa.heap.size 3 [.int .i64 2, .int .i64 2] := hX
      obtain ⟨a', ha'⟩ : ∃ a' : Ad, a' = { Ud n1 n2 n3 n4 with ca := fun i => some ⟨if i = 0 then n2 else wa.heap.size, 0, none⟩, cc := fun _ => 2 } := ⟨_, rfl⟩
      exact cin_two (a := { Ud n1 n2 n3 n4 with ca := fun i => some ⟨if i = 0 then n2 else wa.heap.size, 0, none⟩, cc := fun _ => 2 }) h.p rfl rfl rfl rfl (arg_blk h.t (fun i hi => by rcases two_lt hi with rfl | rfl <;> rfl)) (arg_blk h.c0 (fun i hi => by rcases two_lt hi with rfl | rfl <;> rfl)) (arg_blk hx (fun i hi => by rcases two_lt hi with rfl | rfl <;> rfl)) (by decide) (by decide) (by decide) (fun e => by cases e) (by intro e; cases e) (by intro e; cases e) (by decide) (by decide)
  have HNE : w.heap.size ≠ wa.heap.size := by have := HT.out.b2.lt; omega
  rw [hwb]
  clear hwb d fz HT HXb d16
  have hld := HT2.out.b3.sev.ld
  have st2 : (Instr.storeAt 28 (.pointer (some ⟨w.heap.size, 0, none⟩)) (.agg #[.int .i64 c'.F, .int .i64 c'.C, .int .i64 c'.W, .int .i64 c'.S, .int .i64 c'.V, .int .i64 c'.T, .int .u64 c'.k.l1, .int .u64 c'.k.llc, .int .u64 c'.k.mi, .int .u64 c'.k.fa, .int .u64 c'.k.st, .int .u64 c'.k.di, .int .u64 c'.sl, .int .u64 c'.pd, .int .u64 c'.ft, .slice a'.ta c'.tn a'.tc, .slice a'.pa c'.pn a'.pc])).run Tryz.prog wb = .ok () (wb.setRow w.heap.size (kL a' c' (.slice a'.pa c'.pn a'.pc)).toArray) := stR HT2.out.b2 rfl rfl rfl
  have HF : Hid (Trn 7 w (.returned (.agg #[.int .i64 c'.F, .int .i64 c'.C, .int .i64 c'.W, .int .i64 c'.S, .int .i64 c'.V, .int .i64 c'.T, .int .u64 c'.k.l1, .int .u64 c'.k.llc, .int .u64 c'.k.mi, .int .u64 c'.k.fa, .int .u64 c'.k.st, .int .u64 c'.k.di, .int .u64 c'.sl, .int .u64 c'.pd, .int .u64 c'.ft, .slice a'.ta c'.tn a'.tc, .slice a'.pa c'.pn a'.pc])) (wb.setRow w.heap.size (kL a' c' (.slice a'.pa c'.pn a'.pc)).toArray)) := ⟨a', c', rfl, hc', HC.out _ (HX2.out.other HNE) (HT2.out.row2 _), (HT2.out.row2 _).be⟩
  have HR : Hid ((wb.setRow w.heap.size (kL a' c' (.slice a'.pa c'.pn a'.pc)).toArray).heap[w.heap.size]? = some (.cells #[.int .i64 c'.F, .int .i64 c'.C, .int .i64 c'.W, .int .i64 c'.S, .int .i64 c'.V, .int .i64 c'.T, .int .u64 c'.k.l1, .int .u64 c'.k.llc, .int .u64 c'.k.mi, .int .u64 c'.k.fa, .int .u64 c'.k.st, .int .u64 c'.k.di, .int .u64 c'.sl, .int .u64 c'.pd, .int .u64 c'.ft, .slice a'.ta c'.tn a'.tc, .slice a'.pa c'.pn a'.pc] 28 (0, 0))) := HT2.out.b2.row
  clear HT2 HC hc' HX2 HNE
  generalize wb.setRow w.heap.size (kL a' c' (.slice a'.pa c'.pn a'.pc)).toArray = w9 at *
  go_wp2_with (first | refine wpList_load_at rfl 28 (.tmp 3) rfl _ _ rfl hld ?_ | refine wpList_store_at rfl 28 (.tmp 2) (.tmp 71) rfl _ _ rfl rfl st2 ?_)
  refine bodyPost_ret (v := .agg #[.int .i64 c'.F, .int .i64 c'.C, .int .i64 c'.W, .int .i64 c'.S, .int .i64 c'.V, .int .i64 c'.T, .int .u64 c'.k.l1, .int .u64 c'.k.llc, .int .u64 c'.k.mi, .int .u64 c'.k.fa, .int .u64 c'.k.st, .int .u64 c'.k.di, .int .u64 c'.sl, .int .u64 c'.pd, .int .u64 c'.ft, .slice a'.ta c'.tn a'.tc, .slice a'.pa c'.pn a'.pc]) (results_cell_row Tryz.results4 _ w9 w.heap.size 28 _ (0, 0) _ rfl HR.out Tryz.underlying28 rfl Tryz.infoK) rfl HF.out
set_option maxRecDepth 100000 in
set_option maxHeartbeats 2000000 in
theorem turned_8 (w : World) : Calls Tryz.prog 4 #[.int .i64 8] w (Trn 8 w) := by
  have U : Hid (∀ w, Calls Tryz.prog 9 #[] w (Usd w)) := fun w => usual_any w
  go_enter Tryz.func4, Tryz.ntmps4
  go_wp2_with fail
  refine (U.out _).mono ?_
  rintro _ w1 ⟨n1, n2, n3, n4, b, c, rfl, hc, hb, hU, ho, k1⟩
  have st := stK w1 b c
  have HT0 : Hid (Tb w (w1.alloc (.cells #[.int .i64 c.F, .int .i64 c.C, .int .i64 c.W, .int .i64 c.S, .int .i64 c.V, .int .i64 c.T, .int .u64 c.k.l1, .int .u64 c.k.llc, .int .u64 c.k.mi, .int .u64 c.k.fa, .int .u64 c.k.st, .int .u64 c.k.di, .int .u64 c.sl, .int .u64 c.pd, .int .u64 c.ft, .slice b.ta c.tn b.tc, .slice b.pa c.pn b.pc] 28)) w.heap.size w1.heap.size n1 n2 n3 n4 zCl (kL b c (.slice b.pa c.pn b.pc)) (uP n2 n3)) := tb_new hU ho k1 _
  have HT1 : Hid (Tb w (w1.alloc (.cells #[.int .i64 c.F, .int .i64 c.C, .int .i64 c.W, .int .i64 c.S, .int .i64 c.V, .int .i64 c.T, .int .u64 c.k.l1, .int .u64 c.k.llc, .int .u64 c.k.mi, .int .u64 c.k.fa, .int .u64 c.k.st, .int .u64 c.k.di, .int .u64 c.sl, .int .u64 c.pd, .int .u64 c.ft, .slice b.ta c.tn b.tc, .slice b.pa c.pn b.pc] 28)) w.heap.size w1.heap.size n1 n2 n3 n4 zCl (kL (Ud n1 n2 n3 n4) us (.slice (some ⟨n4, 0, none⟩) 2 2)) (uP n2 n3)) := by rw [hc, hb] at HT0; rw [hc, hb]; exact HT0
  clear hU ho k1 HT0 hc hb
  go_upto_region 2 with (refine wpList_store_at rfl 28 (.tmp 3) (.tmp 4) rfl _ _ rfl rfl st ?_)
  clear st
  go_frame
  obtain ⟨wa, hwa, HT⟩ : ∃ wa, w1.alloc (.cells #[.int .i64 c.F, .int .i64 c.C, .int .i64 c.W, .int .i64 c.S, .int .i64 c.V, .int .i64 c.T, .int .u64 c.k.l1, .int .u64 c.k.llc, .int .u64 c.k.mi, .int .u64 c.k.fa, .int .u64 c.k.st, .int .u64 c.k.di, .int .u64 c.sl, .int .u64 c.pd, .int .u64 c.ft, .slice b.ta c.tn b.tc, .slice b.pa c.pn b.pc] 28) = wa ∧ Hid (Tb w wa w.heap.size w1.heap.size n1 n2 n3 n4 zCl (kL (Ud n1 n2 n3 n4) us (.slice (some ⟨n4, 0, none⟩) 2 2)) (uP n2 n3)) := ⟨_, rfl, HT1⟩
  rw [hwa]
  clear hwa HT1
  generalize w1.heap.size = g3 at *
  have d : wa.cell? ⟨n4, 2, none⟩ = some (.int .i64 4) := HT.out.p.cell 2
  have fz := HT.out.p.frozen 2
  have d16 : wa.cell? ⟨g3, 16, none⟩ = some (.slice (some ⟨n4, 0, none⟩) 2 2) := HT.out.b3.cell 16
  go_upto_region 33 with fail
  obtain ⟨a', c', wb, hc', hwb, HT2, HC⟩ : ∃ (a' : Ad) (c' : Cf) (wb : World), c' = tcf 8 ∧ wa.setCell ⟨n4, 2, none⟩ (.int .i64 40) = wb ∧ Hid (Tb w wb w.heap.size g3 n1 n2 n3 n4 zCl (kL a' c' (.slice a'.pa c'.pn a'.pc)) (((uP n2 n3)).set 2 (.int .i64 40))) ∧ Hid (∀ wf, Tb w wf w.heap.size g3 n1 n2 n3 n4 (kL a' c' (.slice a'.pa c'.pn a'.pc)) (kL a' c' (.slice a'.pa c'.pn a'.pc)) (((uP n2 n3)).set 2 (.int .i64 40)) → Cin wf a' c') := by
    refine ⟨Ud n1 n2 n3 n4, tcf 8, _, rfl, rfl, HT.out.set4 2 _, fun wf h => ?_⟩
    · obtain ⟨a', ha'⟩ : ∃ a' : Ad, a' = Ud n1 n2 n3 n4 := ⟨_, rfl⟩
      exact cin_two (a := Ud n1 n2 n3 n4) h.p rfl rfl rfl rfl (arg_blk h.t (fun i hi => by rcases two_lt hi with rfl | rfl <;> rfl)) (arg_blk h.c0 (fun i hi => by rcases two_lt hi with rfl | rfl <;> rfl)) (arg_blk h.c1 (fun i hi => by obtain rfl : i = 0 := Nat.lt_one_iff.1 hi; rfl)) (by decide) (by decide) (by decide) (fun e => by cases e) (by intro e; cases e) (by intro e; cases e) (by decide) (by decide)
  rw [hwb]
  clear hwb d fz HT d16
  have hld := HT2.out.b3.sev.ld
  have st2 : (Instr.storeAt 28 (.pointer (some ⟨w.heap.size, 0, none⟩)) (.agg #[.int .i64 c'.F, .int .i64 c'.C, .int .i64 c'.W, .int .i64 c'.S, .int .i64 c'.V, .int .i64 c'.T, .int .u64 c'.k.l1, .int .u64 c'.k.llc, .int .u64 c'.k.mi, .int .u64 c'.k.fa, .int .u64 c'.k.st, .int .u64 c'.k.di, .int .u64 c'.sl, .int .u64 c'.pd, .int .u64 c'.ft, .slice a'.ta c'.tn a'.tc, .slice a'.pa c'.pn a'.pc])).run Tryz.prog wb = .ok () (wb.setRow w.heap.size (kL a' c' (.slice a'.pa c'.pn a'.pc)).toArray) := stR HT2.out.b2 rfl rfl rfl
  have HF : Hid (Trn 8 w (.returned (.agg #[.int .i64 c'.F, .int .i64 c'.C, .int .i64 c'.W, .int .i64 c'.S, .int .i64 c'.V, .int .i64 c'.T, .int .u64 c'.k.l1, .int .u64 c'.k.llc, .int .u64 c'.k.mi, .int .u64 c'.k.fa, .int .u64 c'.k.st, .int .u64 c'.k.di, .int .u64 c'.sl, .int .u64 c'.pd, .int .u64 c'.ft, .slice a'.ta c'.tn a'.tc, .slice a'.pa c'.pn a'.pc])) (wb.setRow w.heap.size (kL a' c' (.slice a'.pa c'.pn a'.pc)).toArray)) := ⟨a', c', rfl, hc', HC.out _ (HT2.out.row2 _), (HT2.out.row2 _).be⟩
  have HR : Hid ((wb.setRow w.heap.size (kL a' c' (.slice a'.pa c'.pn a'.pc)).toArray).heap[w.heap.size]? = some (.cells #[.int .i64 c'.F, .int .i64 c'.C, .int .i64 c'.W, .int .i64 c'.S, .int .i64 c'.V, .int .i64 c'.T, .int .u64 c'.k.l1, .int .u64 c'.k.llc, .int .u64 c'.k.mi, .int .u64 c'.k.fa, .int .u64 c'.k.st, .int .u64 c'.k.di, .int .u64 c'.sl, .int .u64 c'.pd, .int .u64 c'.ft, .slice a'.ta c'.tn a'.tc, .slice a'.pa c'.pn a'.pc] 28 (0, 0))) := HT2.out.b2.row
  clear HT2 HC hc'
  generalize wb.setRow w.heap.size (kL a' c' (.slice a'.pa c'.pn a'.pc)).toArray = w9 at *
  go_wp2_with (first | refine wpList_load_at rfl 28 (.tmp 3) rfl _ _ rfl hld ?_ | refine wpList_store_at rfl 28 (.tmp 2) (.tmp 71) rfl _ _ rfl rfl st2 ?_)
  refine bodyPost_ret (v := .agg #[.int .i64 c'.F, .int .i64 c'.C, .int .i64 c'.W, .int .i64 c'.S, .int .i64 c'.V, .int .i64 c'.T, .int .u64 c'.k.l1, .int .u64 c'.k.llc, .int .u64 c'.k.mi, .int .u64 c'.k.fa, .int .u64 c'.k.st, .int .u64 c'.k.di, .int .u64 c'.sl, .int .u64 c'.pd, .int .u64 c'.ft, .slice a'.ta c'.tn a'.tc, .slice a'.pa c'.pn a'.pc]) (results_cell_row Tryz.results4 _ w9 w.heap.size 28 _ (0, 0) _ rfl HR.out Tryz.underlying28 rfl Tryz.infoK) rfl HF.out
set_option maxRecDepth 100000 in
set_option maxHeartbeats 2000000 in
theorem turned_9 (w : World) : Calls Tryz.prog 4 #[.int .i64 9] w (Trn 9 w) := by
  have U : Hid (∀ w, Calls Tryz.prog 9 #[] w (Usd w)) := fun w => usual_any w
  go_enter Tryz.func4, Tryz.ntmps4
  go_wp2_with fail
  refine (U.out _).mono ?_
  rintro _ w1 ⟨n1, n2, n3, n4, b, c, rfl, hc, hb, hU, ho, k1⟩
  have st := stK w1 b c
  have HT0 : Hid (Tb w (w1.alloc (.cells #[.int .i64 c.F, .int .i64 c.C, .int .i64 c.W, .int .i64 c.S, .int .i64 c.V, .int .i64 c.T, .int .u64 c.k.l1, .int .u64 c.k.llc, .int .u64 c.k.mi, .int .u64 c.k.fa, .int .u64 c.k.st, .int .u64 c.k.di, .int .u64 c.sl, .int .u64 c.pd, .int .u64 c.ft, .slice b.ta c.tn b.tc, .slice b.pa c.pn b.pc] 28)) w.heap.size w1.heap.size n1 n2 n3 n4 zCl (kL b c (.slice b.pa c.pn b.pc)) (uP n2 n3)) := tb_new hU ho k1 _
  have HT1 : Hid (Tb w (w1.alloc (.cells #[.int .i64 c.F, .int .i64 c.C, .int .i64 c.W, .int .i64 c.S, .int .i64 c.V, .int .i64 c.T, .int .u64 c.k.l1, .int .u64 c.k.llc, .int .u64 c.k.mi, .int .u64 c.k.fa, .int .u64 c.k.st, .int .u64 c.k.di, .int .u64 c.sl, .int .u64 c.pd, .int .u64 c.ft, .slice b.ta c.tn b.tc, .slice b.pa c.pn b.pc] 28)) w.heap.size w1.heap.size n1 n2 n3 n4 zCl (kL (Ud n1 n2 n3 n4) us (.slice (some ⟨n4, 0, none⟩) 2 2)) (uP n2 n3)) := by rw [hc, hb] at HT0; rw [hc, hb]; exact HT0
  clear hU ho k1 HT0 hc hb
  go_upto_region 2 with (refine wpList_store_at rfl 28 (.tmp 3) (.tmp 4) rfl _ _ rfl rfl st ?_)
  clear st
  go_frame
  obtain ⟨wa, hwa, HT⟩ : ∃ wa, w1.alloc (.cells #[.int .i64 c.F, .int .i64 c.C, .int .i64 c.W, .int .i64 c.S, .int .i64 c.V, .int .i64 c.T, .int .u64 c.k.l1, .int .u64 c.k.llc, .int .u64 c.k.mi, .int .u64 c.k.fa, .int .u64 c.k.st, .int .u64 c.k.di, .int .u64 c.sl, .int .u64 c.pd, .int .u64 c.ft, .slice b.ta c.tn b.tc, .slice b.pa c.pn b.pc] 28) = wa ∧ Hid (Tb w wa w.heap.size w1.heap.size n1 n2 n3 n4 zCl (kL (Ud n1 n2 n3 n4) us (.slice (some ⟨n4, 0, none⟩) 2 2)) (uP n2 n3)) := ⟨_, rfl, HT1⟩
  rw [hwa]
  clear hwa HT1
  generalize w1.heap.size = g3 at *
  have d : wa.cell? ⟨n4, 1, none⟩ = some (.int .i64 1) := HT.out.p.cell 1
  have fz := HT.out.p.frozen 1
  have d16 : wa.cell? ⟨g3, 16, none⟩ = some (.slice (some ⟨n4, 0, none⟩) 2 2) := HT.out.b3.cell 16
  go_upto_region 33 with fail
  obtain ⟨a', c', wb, hc', hwb, HT2, HC⟩ : ∃ (a' : Ad) (c' : Cf) (wb : World), c' = tcf 9 ∧ wa.setCell ⟨n4, 1, none⟩ (.int .i64 4) = wb ∧ Hid (Tb w wb w.heap.size g3 n1 n2 n3 n4 zCl (kL a' c' (.slice a'.pa c'.pn a'.pc)) (((uP n2 n3)).set 1 (.int .i64 4))) ∧ Hid (∀ wf, Tb w wf w.heap.size g3 n1 n2 n3 n4 (kL a' c' (.slice a'.pa c'.pn a'.pc)) (kL a' c' (.slice a'.pa c'.pn a'.pc)) (((uP n2 n3)).set 1 (.int .i64 4)) → Cin wf a' c') := by
    refine ⟨Ud n1 n2 n3 n4, tcf 9, _, rfl, rfl, HT.out.set4 1 _, fun wf h => ?_⟩
    · obtain ⟨a', ha'⟩ : ∃ a' : Ad, a' = Ud n1 n2 n3 n4 := ⟨_, rfl⟩
      exact cin_two (a := Ud n1 n2 n3 n4) h.p rfl rfl rfl rfl (arg_blk h.t (fun i hi => by rcases two_lt hi with rfl | rfl <;> rfl)) (arg_blk h.c0 (fun i hi => by rcases two_lt hi with rfl | rfl <;> rfl)) (arg_blk h.c1 (fun i hi => by obtain rfl : i = 0 := Nat.lt_one_iff.1 hi; rfl)) (by decide) (by decide) (by decide) (fun e => by cases e) (by intro e; cases e) (by intro e; cases e) (by decide) (by decide)
  rw [hwb]
  clear hwb d fz HT d16
  have hld := HT2.out.b3.sev.ld
  have st2 : (Instr.storeAt 28 (.pointer (some ⟨w.heap.size, 0, none⟩)) (.agg #[.int .i64 c'.F, .int .i64 c'.C, .int .i64 c'.W, .int .i64 c'.S, .int .i64 c'.V, .int .i64 c'.T, .int .u64 c'.k.l1, .int .u64 c'.k.llc, .int .u64 c'.k.mi, .int .u64 c'.k.fa, .int .u64 c'.k.st, .int .u64 c'.k.di, .int .u64 c'.sl, .int .u64 c'.pd, .int .u64 c'.ft, .slice a'.ta c'.tn a'.tc, .slice a'.pa c'.pn a'.pc])).run Tryz.prog wb = .ok () (wb.setRow w.heap.size (kL a' c' (.slice a'.pa c'.pn a'.pc)).toArray) := stR HT2.out.b2 rfl rfl rfl
  have HF : Hid (Trn 9 w (.returned (.agg #[.int .i64 c'.F, .int .i64 c'.C, .int .i64 c'.W, .int .i64 c'.S, .int .i64 c'.V, .int .i64 c'.T, .int .u64 c'.k.l1, .int .u64 c'.k.llc, .int .u64 c'.k.mi, .int .u64 c'.k.fa, .int .u64 c'.k.st, .int .u64 c'.k.di, .int .u64 c'.sl, .int .u64 c'.pd, .int .u64 c'.ft, .slice a'.ta c'.tn a'.tc, .slice a'.pa c'.pn a'.pc])) (wb.setRow w.heap.size (kL a' c' (.slice a'.pa c'.pn a'.pc)).toArray)) := ⟨a', c', rfl, hc', HC.out _ (HT2.out.row2 _), (HT2.out.row2 _).be⟩
  have HR : Hid ((wb.setRow w.heap.size (kL a' c' (.slice a'.pa c'.pn a'.pc)).toArray).heap[w.heap.size]? = some (.cells #[.int .i64 c'.F, .int .i64 c'.C, .int .i64 c'.W, .int .i64 c'.S, .int .i64 c'.V, .int .i64 c'.T, .int .u64 c'.k.l1, .int .u64 c'.k.llc, .int .u64 c'.k.mi, .int .u64 c'.k.fa, .int .u64 c'.k.st, .int .u64 c'.k.di, .int .u64 c'.sl, .int .u64 c'.pd, .int .u64 c'.ft, .slice a'.ta c'.tn a'.tc, .slice a'.pa c'.pn a'.pc] 28 (0, 0))) := HT2.out.b2.row
  clear HT2 HC hc'
  generalize wb.setRow w.heap.size (kL a' c' (.slice a'.pa c'.pn a'.pc)).toArray = w9 at *
  go_wp2_with (first | refine wpList_load_at rfl 28 (.tmp 3) rfl _ _ rfl hld ?_ | refine wpList_store_at rfl 28 (.tmp 2) (.tmp 71) rfl _ _ rfl rfl st2 ?_)
  refine bodyPost_ret (v := .agg #[.int .i64 c'.F, .int .i64 c'.C, .int .i64 c'.W, .int .i64 c'.S, .int .i64 c'.V, .int .i64 c'.T, .int .u64 c'.k.l1, .int .u64 c'.k.llc, .int .u64 c'.k.mi, .int .u64 c'.k.fa, .int .u64 c'.k.st, .int .u64 c'.k.di, .int .u64 c'.sl, .int .u64 c'.pd, .int .u64 c'.ft, .slice a'.ta c'.tn a'.tc, .slice a'.pa c'.pn a'.pc]) (results_cell_row Tryz.results4 _ w9 w.heap.size 28 _ (0, 0) _ rfl HR.out Tryz.underlying28 rfl Tryz.infoK) rfl HF.out
set_option maxRecDepth 100000 in
set_option maxHeartbeats 2000000 in
theorem turned_10 (w : World) : Calls Tryz.prog 4 #[.int .i64 10] w (Trn 10 w) := by
  have U : Hid (∀ w, Calls Tryz.prog 9 #[] w (Usd w)) := fun w => usual_any w
  go_enter Tryz.func4, Tryz.ntmps4
  go_wp2_with fail
  refine (U.out _).mono ?_
  rintro _ w1 ⟨n1, n2, n3, n4, b, c, rfl, hc, hb, hU, ho, k1⟩
  have st := stK w1 b c
  have HT0 : Hid (Tb w (w1.alloc (.cells #[.int .i64 c.F, .int .i64 c.C, .int .i64 c.W, .int .i64 c.S, .int .i64 c.V, .int .i64 c.T, .int .u64 c.k.l1, .int .u64 c.k.llc, .int .u64 c.k.mi, .int .u64 c.k.fa, .int .u64 c.k.st, .int .u64 c.k.di, .int .u64 c.sl, .int .u64 c.pd, .int .u64 c.ft, .slice b.ta c.tn b.tc, .slice b.pa c.pn b.pc] 28)) w.heap.size w1.heap.size n1 n2 n3 n4 zCl (kL b c (.slice b.pa c.pn b.pc)) (uP n2 n3)) := tb_new hU ho k1 _
  have HT1 : Hid (Tb w (w1.alloc (.cells #[.int .i64 c.F, .int .i64 c.C, .int .i64 c.W, .int .i64 c.S, .int .i64 c.V, .int .i64 c.T, .int .u64 c.k.l1, .int .u64 c.k.llc, .int .u64 c.k.mi, .int .u64 c.k.fa, .int .u64 c.k.st, .int .u64 c.k.di, .int .u64 c.sl, .int .u64 c.pd, .int .u64 c.ft, .slice b.ta c.tn b.tc, .slice b.pa c.pn b.pc] 28)) w.heap.size w1.heap.size n1 n2 n3 n4 zCl (kL (Ud n1 n2 n3 n4) us (.slice (some ⟨n4, 0, none⟩) 2 2)) (uP n2 n3)) := by rw [hc, hb] at HT0; rw [hc, hb]; exact HT0
  clear hU ho k1 HT0 hc hb
  go_upto_region 2 with (refine wpList_store_at rfl 28 (.tmp 3) (.tmp 4) rfl _ _ rfl rfl st ?_)
  clear st
  go_frame
  obtain ⟨wa, hwa, HT⟩ : ∃ wa, w1.alloc (.cells #[.int .i64 c.F, .int .i64 c.C, .int .i64 c.W, .int .i64 c.S, .int .i64 c.V, .int .i64 c.T, .int .u64 c.k.l1, .int .u64 c.k.llc, .int .u64 c.k.mi, .int .u64 c.k.fa, .int .u64 c.k.st, .int .u64 c.k.di, .int .u64 c.sl, .int .u64 c.pd, .int .u64 c.ft, .slice b.ta c.tn b.tc, .slice b.pa c.pn b.pc] 28) = wa ∧ Hid (Tb w wa w.heap.size w1.heap.size n1 n2 n3 n4 zCl (kL (Ud n1 n2 n3 n4) us (.slice (some ⟨n4, 0, none⟩) 2 2)) (uP n2 n3)) := ⟨_, rfl, HT1⟩
  rw [hwa]
  clear hwa HT1
  generalize w1.heap.size = g3 at *
  have d : wa.cell? ⟨n4, 7, none⟩ = some (.int .i64 3) := HT.out.p.cell 7
  have fz := HT.out.p.frozen 7
  have d16 : wa.cell? ⟨g3, 16, none⟩ = some (.slice (some ⟨n4, 0, none⟩) 2 2) := HT.out.b3.cell 16
  go_upto_region 33 with fail
  obtain ⟨a', c', wb, hc', hwb, HT2, HC⟩ : ∃ (a' : Ad) (c' : Cf) (wb : World), c' = tcf 10 ∧ wa.setCell ⟨n4, 7, none⟩ (.int .i64 1022) = wb ∧ Hid (Tb w wb w.heap.size g3 n1 n2 n3 n4 zCl (kL a' c' (.slice a'.pa c'.pn a'.pc)) (((uP n2 n3)).set 7 (.int .i64 1022))) ∧ Hid (∀ wf, Tb w wf w.heap.size g3 n1 n2 n3 n4 (kL a' c' (.slice a'.pa c'.pn a'.pc)) (kL a' c' (.slice a'.pa c'.pn a'.pc)) (((uP n2 n3)).set 7 (.int .i64 1022)) → Cin wf a' c') := by
    refine ⟨Ud n1 n2 n3 n4, tcf 10, _, rfl, rfl, HT.out.set4 7 _, fun wf h => ?_⟩
    · obtain ⟨a', ha'⟩ : ∃ a' : Ad, a' = Ud n1 n2 n3 n4 := ⟨_, rfl⟩
      exact cin_two (a := Ud n1 n2 n3 n4) h.p rfl rfl rfl rfl (arg_blk h.t (fun i hi => by rcases two_lt hi with rfl | rfl <;> rfl)) (arg_blk h.c0 (fun i hi => by rcases two_lt hi with rfl | rfl <;> rfl)) (arg_blk h.c1 (fun i hi => by obtain rfl : i = 0 := Nat.lt_one_iff.1 hi; rfl)) (by decide) (by decide) (by decide) (fun e => by cases e) (by intro e; cases e) (by intro e; cases e) (by decide) (by decide)
  rw [hwb]
  clear hwb d fz HT d16
  have hld := HT2.out.b3.sev.ld
  have st2 : (Instr.storeAt 28 (.pointer (some ⟨w.heap.size, 0, none⟩)) (.agg #[.int .i64 c'.F, .int .i64 c'.C, .int .i64 c'.W, .int .i64 c'.S, .int .i64 c'.V, .int .i64 c'.T, .int .u64 c'.k.l1, .int .u64 c'.k.llc, .int .u64 c'.k.mi, .int .u64 c'.k.fa, .int .u64 c'.k.st, .int .u64 c'.k.di, .int .u64 c'.sl, .int .u64 c'.pd, .int .u64 c'.ft, .slice a'.ta c'.tn a'.tc, .slice a'.pa c'.pn a'.pc])).run Tryz.prog wb = .ok () (wb.setRow w.heap.size (kL a' c' (.slice a'.pa c'.pn a'.pc)).toArray) := stR HT2.out.b2 rfl rfl rfl
  have HF : Hid (Trn 10 w (.returned (.agg #[.int .i64 c'.F, .int .i64 c'.C, .int .i64 c'.W, .int .i64 c'.S, .int .i64 c'.V, .int .i64 c'.T, .int .u64 c'.k.l1, .int .u64 c'.k.llc, .int .u64 c'.k.mi, .int .u64 c'.k.fa, .int .u64 c'.k.st, .int .u64 c'.k.di, .int .u64 c'.sl, .int .u64 c'.pd, .int .u64 c'.ft, .slice a'.ta c'.tn a'.tc, .slice a'.pa c'.pn a'.pc])) (wb.setRow w.heap.size (kL a' c' (.slice a'.pa c'.pn a'.pc)).toArray)) := ⟨a', c', rfl, hc', HC.out _ (HT2.out.row2 _), (HT2.out.row2 _).be⟩
  have HR : Hid ((wb.setRow w.heap.size (kL a' c' (.slice a'.pa c'.pn a'.pc)).toArray).heap[w.heap.size]? = some (.cells #[.int .i64 c'.F, .int .i64 c'.C, .int .i64 c'.W, .int .i64 c'.S, .int .i64 c'.V, .int .i64 c'.T, .int .u64 c'.k.l1, .int .u64 c'.k.llc, .int .u64 c'.k.mi, .int .u64 c'.k.fa, .int .u64 c'.k.st, .int .u64 c'.k.di, .int .u64 c'.sl, .int .u64 c'.pd, .int .u64 c'.ft, .slice a'.ta c'.tn a'.tc, .slice a'.pa c'.pn a'.pc] 28 (0, 0))) := HT2.out.b2.row
  clear HT2 HC hc'
  generalize wb.setRow w.heap.size (kL a' c' (.slice a'.pa c'.pn a'.pc)).toArray = w9 at *
  go_wp2_with (first | refine wpList_load_at rfl 28 (.tmp 3) rfl _ _ rfl hld ?_ | refine wpList_store_at rfl 28 (.tmp 2) (.tmp 71) rfl _ _ rfl rfl st2 ?_)
  refine bodyPost_ret (v := .agg #[.int .i64 c'.F, .int .i64 c'.C, .int .i64 c'.W, .int .i64 c'.S, .int .i64 c'.V, .int .i64 c'.T, .int .u64 c'.k.l1, .int .u64 c'.k.llc, .int .u64 c'.k.mi, .int .u64 c'.k.fa, .int .u64 c'.k.st, .int .u64 c'.k.di, .int .u64 c'.sl, .int .u64 c'.pd, .int .u64 c'.ft, .slice a'.ta c'.tn a'.tc, .slice a'.pa c'.pn a'.pc]) (results_cell_row Tryz.results4 _ w9 w.heap.size 28 _ (0, 0) _ rfl HR.out Tryz.underlying28 rfl Tryz.infoK) rfl HF.out
set_option maxRecDepth 100000 in
set_option maxHeartbeats 2000000 in
theorem turned_11 (w : World) : Calls Tryz.prog 4 #[.int .i64 11] w (Trn 11 w) := by
  have U : Hid (∀ w, Calls Tryz.prog 9 #[] w (Usd w)) := fun w => usual_any w
  go_enter Tryz.func4, Tryz.ntmps4
  go_wp2_with fail
  refine (U.out _).mono ?_
  rintro _ w1 ⟨n1, n2, n3, n4, b, c, rfl, hc, hb, hU, ho, k1⟩
  have st := stK w1 b c
  have HT0 : Hid (Tb w (w1.alloc (.cells #[.int .i64 c.F, .int .i64 c.C, .int .i64 c.W, .int .i64 c.S, .int .i64 c.V, .int .i64 c.T, .int .u64 c.k.l1, .int .u64 c.k.llc, .int .u64 c.k.mi, .int .u64 c.k.fa, .int .u64 c.k.st, .int .u64 c.k.di, .int .u64 c.sl, .int .u64 c.pd, .int .u64 c.ft, .slice b.ta c.tn b.tc, .slice b.pa c.pn b.pc] 28)) w.heap.size w1.heap.size n1 n2 n3 n4 zCl (kL b c (.slice b.pa c.pn b.pc)) (uP n2 n3)) := tb_new hU ho k1 _
  have HT1 : Hid (Tb w (w1.alloc (.cells #[.int .i64 c.F, .int .i64 c.C, .int .i64 c.W, .int .i64 c.S, .int .i64 c.V, .int .i64 c.T, .int .u64 c.k.l1, .int .u64 c.k.llc, .int .u64 c.k.mi, .int .u64 c.k.fa, .int .u64 c.k.st, .int .u64 c.k.di, .int .u64 c.sl, .int .u64 c.pd, .int .u64 c.ft, .slice b.ta c.tn b.tc, .slice b.pa c.pn b.pc] 28)) w.heap.size w1.heap.size n1 n2 n3 n4 zCl (kL (Ud n1 n2 n3 n4) us (.slice (some ⟨n4, 0, none⟩) 2 2)) (uP n2 n3)) := by rw [hc, hb] at HT0; rw [hc, hb]; exact HT0
  clear hU ho k1 HT0 hc hb
  go_upto_region 2 with (refine wpList_store_at rfl 28 (.tmp 3) (.tmp 4) rfl _ _ rfl rfl st ?_)
  clear st
  go_frame
  obtain ⟨wa, hwa, HT⟩ : ∃ wa, w1.alloc (.cells #[.int .i64 c.F, .int .i64 c.C, .int .i64 c.W, .int .i64 c.S, .int .i64 c.V, .int .i64 c.T, .int .u64 c.k.l1, .int .u64 c.k.llc, .int .u64 c.k.mi, .int .u64 c.k.fa, .int .u64 c.k.st, .int .u64 c.k.di, .int .u64 c.sl, .int .u64 c.pd, .int .u64 c.ft, .slice b.ta c.tn b.tc, .slice b.pa c.pn b.pc] 28) = wa ∧ Hid (Tb w wa w.heap.size w1.heap.size n1 n2 n3 n4 zCl (kL (Ud n1 n2 n3 n4) us (.slice (some ⟨n4, 0, none⟩) 2 2)) (uP n2 n3)) := ⟨_, rfl, HT1⟩
  rw [hwa]
  clear hwa HT1
  generalize w1.heap.size = g3 at *
  have d : wa.cell? ⟨g3, 14, none⟩ = some (.int .u64 0) := HT.out.b3.cell 14
  have fz := HT.out.b3.frozen 14
  go_upto_region 33 with fail
  obtain ⟨a', c', wb, hc', hwb, HT2, HC⟩ : ∃ (a' : Ad) (c' : Cf) (wb : World), c' = tcf 11 ∧ wa.setCell ⟨g3, 14, none⟩ (.int .u64 1099511627776) = wb ∧ Hid (Tb w wb w.heap.size g3 n1 n2 n3 n4 zCl (kL a' c' (.slice a'.pa c'.pn a'.pc)) (uP n2 n3)) ∧ Hid (∀ wf, Tb w wf w.heap.size g3 n1 n2 n3 n4 (kL a' c' (.slice a'.pa c'.pn a'.pc)) (kL a' c' (.slice a'.pa c'.pn a'.pc)) (uP n2 n3) → Cin wf a' c') := by
    refine ⟨Ud n1 n2 n3 n4, tcf 11, _, rfl, rfl, HT.out.set3 14 _, fun wf h => ?_⟩
    · obtain ⟨a', ha'⟩ : ∃ a' : Ad, a' = Ud n1 n2 n3 n4 := ⟨_, rfl⟩
      exact cin_two (a := Ud n1 n2 n3 n4) h.p rfl rfl rfl rfl (arg_blk h.t (fun i hi => by rcases two_lt hi with rfl | rfl <;> rfl)) (arg_blk h.c0 (fun i hi => by rcases two_lt hi with rfl | rfl <;> rfl)) (arg_blk h.c1 (fun i hi => by obtain rfl : i = 0 := Nat.lt_one_iff.1 hi; rfl)) (by decide) (by decide) (by decide) (fun e => by cases e) (by intro e; cases e) (by intro e; cases e) (by decide) (by decide)
  rw [hwb]
  clear hwb d fz HT
  have hld := HT2.out.b3.sev.ld
  have st2 : (Instr.storeAt 28 (.pointer (some ⟨w.heap.size, 0, none⟩)) (.agg #[.int .i64 c'.F, .int .i64 c'.C, .int .i64 c'.W, .int .i64 c'.S, .int .i64 c'.V, .int .i64 c'.T, .int .u64 c'.k.l1, .int .u64 c'.k.llc, .int .u64 c'.k.mi, .int .u64 c'.k.fa, .int .u64 c'.k.st, .int .u64 c'.k.di, .int .u64 c'.sl, .int .u64 c'.pd, .int .u64 c'.ft, .slice a'.ta c'.tn a'.tc, .slice a'.pa c'.pn a'.pc])).run Tryz.prog wb = .ok () (wb.setRow w.heap.size (kL a' c' (.slice a'.pa c'.pn a'.pc)).toArray) := stR HT2.out.b2 rfl rfl rfl
  have HF : Hid (Trn 11 w (.returned (.agg #[.int .i64 c'.F, .int .i64 c'.C, .int .i64 c'.W, .int .i64 c'.S, .int .i64 c'.V, .int .i64 c'.T, .int .u64 c'.k.l1, .int .u64 c'.k.llc, .int .u64 c'.k.mi, .int .u64 c'.k.fa, .int .u64 c'.k.st, .int .u64 c'.k.di, .int .u64 c'.sl, .int .u64 c'.pd, .int .u64 c'.ft, .slice a'.ta c'.tn a'.tc, .slice a'.pa c'.pn a'.pc])) (wb.setRow w.heap.size (kL a' c' (.slice a'.pa c'.pn a'.pc)).toArray)) := ⟨a', c', rfl, hc', HC.out _ (HT2.out.row2 _), (HT2.out.row2 _).be⟩
  have HR : Hid ((wb.setRow w.heap.size (kL a' c' (.slice a'.pa c'.pn a'.pc)).toArray).heap[w.heap.size]? = some (.cells #[.int .i64 c'.F, .int .i64 c'.C, .int .i64 c'.W, .int .i64 c'.S, .int .i64 c'.V, .int .i64 c'.T, .int .u64 c'.k.l1, .int .u64 c'.k.llc, .int .u64 c'.k.mi, .int .u64 c'.k.fa, .int .u64 c'.k.st, .int .u64 c'.k.di, .int .u64 c'.sl, .int .u64 c'.pd, .int .u64 c'.ft, .slice a'.ta c'.tn a'.tc, .slice a'.pa c'.pn a'.pc] 28 (0, 0))) := HT2.out.b2.row
  clear HT2 HC hc'
  generalize wb.setRow w.heap.size (kL a' c' (.slice a'.pa c'.pn a'.pc)).toArray = w9 at *
  go_wp2_with (first | refine wpList_load_at rfl 28 (.tmp 3) rfl _ _ rfl hld ?_ | refine wpList_store_at rfl 28 (.tmp 2) (.tmp 71) rfl _ _ rfl rfl st2 ?_)
  refine bodyPost_ret (v := .agg #[.int .i64 c'.F, .int .i64 c'.C, .int .i64 c'.W, .int .i64 c'.S, .int .i64 c'.V, .int .i64 c'.T, .int .u64 c'.k.l1, .int .u64 c'.k.llc, .int .u64 c'.k.mi, .int .u64 c'.k.fa, .int .u64 c'.k.st, .int .u64 c'.k.di, .int .u64 c'.sl, .int .u64 c'.pd, .int .u64 c'.ft, .slice a'.ta c'.tn a'.tc, .slice a'.pa c'.pn a'.pc]) (results_cell_row Tryz.results4 _ w9 w.heap.size 28 _ (0, 0) _ rfl HR.out Tryz.underlying28 rfl Tryz.infoK) rfl HF.out
set_option maxRecDepth 100000 in
set_option maxHeartbeats 2000000 in
theorem turned_12 (w : World) : Calls Tryz.prog 4 #[.int .i64 12] w (Trn 12 w) := by
  have U : Hid (∀ w, Calls Tryz.prog 9 #[] w (Usd w)) := fun w => usual_any w
  go_enter Tryz.func4, Tryz.ntmps4
  go_wp2_with fail
  refine (U.out _).mono ?_
  rintro _ w1 ⟨n1, n2, n3, n4, b, c, rfl, hc, hb, hU, ho, k1⟩
  have st := stK w1 b c
  have HT0 : Hid (Tb w (w1.alloc (.cells #[.int .i64 c.F, .int .i64 c.C, .int .i64 c.W, .int .i64 c.S, .int .i64 c.V, .int .i64 c.T, .int .u64 c.k.l1, .int .u64 c.k.llc, .int .u64 c.k.mi, .int .u64 c.k.fa, .int .u64 c.k.st, .int .u64 c.k.di, .int .u64 c.sl, .int .u64 c.pd, .int .u64 c.ft, .slice b.ta c.tn b.tc, .slice b.pa c.pn b.pc] 28)) w.heap.size w1.heap.size n1 n2 n3 n4 zCl (kL b c (.slice b.pa c.pn b.pc)) (uP n2 n3)) := tb_new hU ho k1 _
  have HT1 : Hid (Tb w (w1.alloc (.cells #[.int .i64 c.F, .int .i64 c.C, .int .i64 c.W, .int .i64 c.S, .int .i64 c.V, .int .i64 c.T, .int .u64 c.k.l1, .int .u64 c.k.llc, .int .u64 c.k.mi, .int .u64 c.k.fa, .int .u64 c.k.st, .int .u64 c.k.di, .int .u64 c.sl, .int .u64 c.pd, .int .u64 c.ft, .slice b.ta c.tn b.tc, .slice b.pa c.pn b.pc] 28)) w.heap.size w1.heap.size n1 n2 n3 n4 zCl (kL (Ud n1 n2 n3 n4) us (.slice (some ⟨n4, 0, none⟩) 2 2)) (uP n2 n3)) := by rw [hc, hb] at HT0; rw [hc, hb]; exact HT0
  clear hU ho k1 HT0 hc hb
  go_upto_region 2 with (refine wpList_store_at rfl 28 (.tmp 3) (.tmp 4) rfl _ _ rfl rfl st ?_)
  clear st
  go_frame
  obtain ⟨wa, hwa, HT⟩ : ∃ wa, w1.alloc (.cells #[.int .i64 c.F, .int .i64 c.C, .int .i64 c.W, .int .i64 c.S, .int .i64 c.V, .int .i64 c.T, .int .u64 c.k.l1, .int .u64 c.k.llc, .int .u64 c.k.mi, .int .u64 c.k.fa, .int .u64 c.k.st, .int .u64 c.k.di, .int .u64 c.sl, .int .u64 c.pd, .int .u64 c.ft, .slice b.ta c.tn b.tc, .slice b.pa c.pn b.pc] 28) = wa ∧ Hid (Tb w wa w.heap.size w1.heap.size n1 n2 n3 n4 zCl (kL (Ud n1 n2 n3 n4) us (.slice (some ⟨n4, 0, none⟩) 2 2)) (uP n2 n3)) := ⟨_, rfl, HT1⟩
  rw [hwa]
  clear hwa HT1
  generalize w1.heap.size = g3 at *
  have d : wa.cell? ⟨g3, 16, none⟩ = some (.slice (some ⟨n4, 0, none⟩) 2 2) := HT.out.b3.cell 16
  have fz := HT.out.b3.frozen 16
  go_upto_region 33 with fail
  obtain ⟨a', c', wb, hc', hwb, HT2, HC⟩ : ∃ (a' : Ad) (c' : Cf) (wb : World), c' = tcf 12 ∧ wa.setCell ⟨g3, 16, none⟩ (.slice none 0 0) = wb ∧ Hid (Tb w wb w.heap.size g3 n1 n2 n3 n4 zCl (kL a' c' (.slice a'.pa c'.pn a'.pc)) (uP n2 n3)) ∧ Hid (∀ wf, Tb w wf w.heap.size g3 n1 n2 n3 n4 (kL a' c' (.slice a'.pa c'.pn a'.pc)) (kL a' c' (.slice a'.pa c'.pn a'.pc)) (uP n2 n3) → Cin wf a' c') := by
    refine ⟨{ Ud n1 n2 n3 n4 with pa := none, pc := 0 }, tcf 12, _, rfl, rfl, HT.out.set3 16 _, fun wf h => ?_⟩
    · obtain ⟨a', ha'⟩ : ∃ a' : Ad, a' = { Ud n1 n2 n3 n4 with pa := none, pc := 0 } := ⟨_, rfl⟩
      exact ⟨arg_blk h.t (fun i hi => by rcases two_lt hi with rfl | rfl <;> rfl), Or.inl rfl, by decide, by decide, fun i hi => absurd hi (Nat.not_lt_zero i), (fun e => by cases e), (fun e => ⟨rfl, rfl⟩), fun i hi => absurd hi (Nat.not_lt_zero i), Nat.zero_le _, by decide, by decide, by decide, by decide⟩
  rw [hwb]
  clear hwb d fz HT
  have hld := HT2.out.b3.sev.ld
  have st2 : (Instr.storeAt 28 (.pointer (some ⟨w.heap.size, 0, none⟩)) (.agg #[.int .i64 c'.F, .int .i64 c'.C, .int .i64 c'.W, .int .i64 c'.S, .int .i64 c'.V, .int .i64 c'.T, .int .u64 c'.k.l1, .int .u64 c'.k.llc, .int .u64 c'.k.mi, .int .u64 c'.k.fa, .int .u64 c'.k.st, .int .u64 c'.k.di, .int .u64 c'.sl, .int .u64 c'.pd, .int .u64 c'.ft, .slice a'.ta c'.tn a'.tc, .slice a'.pa c'.pn a'.pc])).run Tryz.prog wb = .ok () (wb.setRow w.heap.size (kL a' c' (.slice a'.pa c'.pn a'.pc)).toArray) := stR HT2.out.b2 rfl rfl rfl
  have HF : Hid (Trn 12 w (.returned (.agg #[.int .i64 c'.F, .int .i64 c'.C, .int .i64 c'.W, .int .i64 c'.S, .int .i64 c'.V, .int .i64 c'.T, .int .u64 c'.k.l1, .int .u64 c'.k.llc, .int .u64 c'.k.mi, .int .u64 c'.k.fa, .int .u64 c'.k.st, .int .u64 c'.k.di, .int .u64 c'.sl, .int .u64 c'.pd, .int .u64 c'.ft, .slice a'.ta c'.tn a'.tc, .slice a'.pa c'.pn a'.pc])) (wb.setRow w.heap.size (kL a' c' (.slice a'.pa c'.pn a'.pc)).toArray)) := ⟨a', c', rfl, hc', HC.out _ (HT2.out.row2 _), (HT2.out.row2 _).be⟩
  have HR : Hid ((wb.setRow w.heap.size (kL a' c' (.slice a'.pa c'.pn a'.pc)).toArray).heap[w.heap.size]? = some (.cells #[.int .i64 c'.F, .int .i64 c'.C, .int .i64 c'.W, .int .i64 c'.S, .int .i64 c'.V, .int .i64 c'.T, .int .u64 c'.k.l1, .int .u64 c'.k.llc, .int .u64 c'.k.mi, .int .u64 c'.k.fa, .int .u64 c'.k.st, .int .u64 c'.k.di, .int .u64 c'.sl, .int .u64 c'.pd, .int .u64 c'.ft, .slice a'.ta c'.tn a'.tc, .slice a'.pa c'.pn a'.pc] 28 (0, 0))) := HT2.out.b2.row
  clear HT2 HC hc'
  generalize wb.setRow w.heap.size (kL a' c' (.slice a'.pa c'.pn a'.pc)).toArray = w9 at *
  go_wp2_with (first | refine wpList_load_at rfl 28 (.tmp 3) rfl _ _ rfl hld ?_ | refine wpList_store_at rfl 28 (.tmp 2) (.tmp 71) rfl _ _ rfl rfl st2 ?_)
  refine bodyPost_ret (v := .agg #[.int .i64 c'.F, .int .i64 c'.C, .int .i64 c'.W, .int .i64 c'.S, .int .i64 c'.V, .int .i64 c'.T, .int .u64 c'.k.l1, .int .u64 c'.k.llc, .int .u64 c'.k.mi, .int .u64 c'.k.fa, .int .u64 c'.k.st, .int .u64 c'.k.di, .int .u64 c'.sl, .int .u64 c'.pd, .int .u64 c'.ft, .slice a'.ta c'.tn a'.tc, .slice a'.pa c'.pn a'.pc]) (results_cell_row Tryz.results4 _ w9 w.heap.size 28 _ (0, 0) _ rfl HR.out Tryz.underlying28 rfl Tryz.infoK) rfl HF.out
set_option maxRecDepth 100000 in
set_option maxHeartbeats 2000000 in
theorem turned_13 (w : World) : Calls Tryz.prog 4 #[.int .i64 13] w (Trn 13 w) := by
  have U : Hid (∀ w, Calls Tryz.prog 9 #[] w (Usd w)) := fun w => usual_any w
  go_enter Tryz.func4, Tryz.ntmps4
  go_wp2_with fail
  refine (U.out _).mono ?_
  rintro _ w1 ⟨n1, n2, n3, n4, b, c, rfl, hc, hb, hU, ho, k1⟩
  have st := stK w1 b c
  have HT0 : Hid (Tb w (w1.alloc (.cells #[.int .i64 c.F, .int .i64 c.C, .int .i64 c.W, .int .i64 c.S, .int .i64 c.V, .int .i64 c.T, .int .u64 c.k.l1, .int .u64 c.k.llc, .int .u64 c.k.mi, .int .u64 c.k.fa, .int .u64 c.k.st, .int .u64 c.k.di, .int .u64 c.sl, .int .u64 c.pd, .int .u64 c.ft, .slice b.ta c.tn b.tc, .slice b.pa c.pn b.pc] 28)) w.heap.size w1.heap.size n1 n2 n3 n4 zCl (kL b c (.slice b.pa c.pn b.pc)) (uP n2 n3)) := tb_new hU ho k1 _
  have HT1 : Hid (Tb w (w1.alloc (.cells #[.int .i64 c.F, .int .i64 c.C, .int .i64 c.W, .int .i64 c.S, .int .i64 c.V, .int .i64 c.T, .int .u64 c.k.l1, .int .u64 c.k.llc, .int .u64 c.k.mi, .int .u64 c.k.fa, .int .u64 c.k.st, .int .u64 c.k.di, .int .u64 c.sl, .int .u64 c.pd, .int .u64 c.ft, .slice b.ta c.tn b.tc, .slice b.pa c.pn b.pc] 28)) w.heap.size w1.heap.size n1 n2 n3 n4 zCl (kL (Ud n1 n2 n3 n4) us (.slice (some ⟨n4, 0, none⟩) 2 2)) (uP n2 n3)) := by rw [hc, hb] at HT0; rw [hc, hb]; exact HT0
  clear hU ho k1 HT0 hc hb
  go_upto_region 2 with (refine wpList_store_at rfl 28 (.tmp 3) (.tmp 4) rfl _ _ rfl rfl st ?_)
  clear st
  go_frame
  obtain ⟨wa, hwa, HT⟩ : ∃ wa, w1.alloc (.cells #[.int .i64 c.F, .int .i64 c.C, .int .i64 c.W, .int .i64 c.S, .int .i64 c.V, .int .i64 c.T, .int .u64 c.k.l1, .int .u64 c.k.llc, .int .u64 c.k.mi, .int .u64 c.k.fa, .int .u64 c.k.st, .int .u64 c.k.di, .int .u64 c.sl, .int .u64 c.pd, .int .u64 c.ft, .slice b.ta c.tn b.tc, .slice b.pa c.pn b.pc] 28) = wa ∧ Hid (Tb w wa w.heap.size w1.heap.size n1 n2 n3 n4 zCl (kL (Ud n1 n2 n3 n4) us (.slice (some ⟨n4, 0, none⟩) 2 2)) (uP n2 n3)) := ⟨_, rfl, HT1⟩
  rw [hwa]
  clear hwa HT1
  generalize w1.heap.size = g3 at *
  have d : ∀ o, (wa.alloc o).cell? ⟨g3, 16, none⟩ = some (.slice (some ⟨n4, 0, none⟩) 2 2) := fun o => (HT.out.alloc o).b3.cell 16
  have fz : ∀ o, (wa.alloc o).frozen? ⟨g3, 16, none⟩ = false := fun o => (HT.out.alloc o).b3.frozen 16
  have mk := make_parts wa
  go_upto_region 33 with fail
  have HXb : Hid (Blk ((wa.alloc (.cells (madeCells #[.slice none 0 0, .int .i64 0, .int .i64 0, .int .i64 0, .int .i64 0, .int .i64 0, .int .i64 0, .int .i64 0] 72).toList.toArray 40)).setCell ⟨g3, 16, none⟩ (.slice (some ⟨wa.heap.size, 0, none⟩) 9 9)) wa.heap.size 40 (madeCells #[.slice none 0 0, .int .i64 0, .int .i64 0, .int .i64 0, .int .i64 0, .int .i64 0, .int .i64 0, .int .i64 0] 72).toList) := blk_set_other (blk_new wa _ _) (by have := HT.out.b3.lt; omega) 16 _
  obtain ⟨a', c', wb, hc', hwb, HT2, HC, HX2⟩ : ∃ (a' : Ad) (c' : Cf) (wb : World), c' = tcf 13 ∧ (wa.alloc (.cells (madeCells #[.slice none 0 0, .int .i64 0, .int .i64 0, .int .i64 0, .int .i64 0, .int .i64 0, .int .i64 0, .int .i64 0] 72).toList.toArray 40)).setCell ⟨g3, 16, none⟩ (.slice (some ⟨wa.heap.size, 0, none⟩) 9 9) = wb ∧ Hid (Tb w wb w.heap.size g3 n1 n2 n3 n4 zCl (kL a' c' (.slice a'.pa c'.pn a'.pc)) (uP n2 n3)) ∧ Hid (∀ wf, Blk wf wa.heap.size 40 (madeCells #[.slice none 0 0, .int .i64 0, .int .i64 0, .int .i64 0, .int .i64 0, .int .i64 0, .int .i64 0, .int .i64 0] 72).toList → Tb w wf w.heap.size g3 n1 n2 n3 n4 (kL a' c' (.slice a'.pa c'.pn a'.pc)) (kL a' c' (.slice a'.pa c'.pn a'.pc)) (uP n2 n3) → Cin wf a' c') ∧ Hid (Blk wb wa.heap.size 40 (madeCells #[.slice none 0 0, .int .i64 0, .int .i64 0, .int .i64 0, .int .i64 0, .int .i64 0, .int .i64 0, .int .i64 0] 72).toList) := by
    refine ⟨{ Ud n1 n2 n3 n4 with pa := some ⟨wa.heap.size, 0, none⟩, pc := 9, ca := fun _ => none, cc := fun _ => 0 }, tcf 13, _, rfl, rfl, (HT.out.alloc _).set3 16 _, fun wf hX h => ?_, HXb⟩
    · have hx : Blk wf wa.heap.size 40 (madeCells #[.slice none 0 0, .int .i64 0, .int .i64 0, .int .i64 0, .int .i64 0, .int .i64 0, .int .i64 0, .int .i64 0] 72).toList := hX
      have hc : ∀ i j, i < 9 → j < 8 → wf.cell? ⟨wa.heap.size, 0 + i * 8 + j, none⟩ = #[.slice none 0 0, .int .i64 0, .int .i64 0, .int .i64 0, .int .i64 0, .int .i64 0, .int .i64 0, .int .i64 0][j]? := fun i j hi hj => by rw [hx.cell]; exact parts_cell i j hi hj
      obtain ⟨a', ha'⟩ : ∃ a' : Ad, a' = { Ud n1 n2 n3 n4 with pa := some ⟨wa.heap.size, 0, none⟩, pc := 9, ca := fun _ => none, cc := fun _ => 0 } := ⟨_, rfl⟩
      exact ⟨arg_blk h.t (fun i hi => by rcases two_lt hi with rfl | rfl <;> rfl), Or.inr ⟨_, 0, rfl, hx.lt, fun i hi => ⟨⟨hx.lt, hc i 0 hi (by decide), hc i 1 hi (by decide), hc i 2 hi (by decide), hc i 3 hi (by decide), hc i 4 hi (by decide), hc i 5 hi (by decide), hc i 6 hi (by decide), hc i 7 hi (by decide)⟩, Or.inl rfl⟩⟩, by decide, by decide, fun i hi => (by decide : 0 * 8 ≤ 140737488351232), (fun e => by cases e), (fun e => by cases e), fun i hi e => ⟨rfl, rfl⟩, Nat.le_refl _, by decide, by decide, by decide, by decide⟩
  have HNE : w.heap.size ≠ wa.heap.size := by have := HT.out.b2.lt; omega
  rw [hwb]
  clear hwb d fz HT HXb mk
  have hld := HT2.out.b3.sev.ld
  have st2 : (Instr.storeAt 28 (.pointer (some ⟨w.heap.size, 0, none⟩)) (.agg #[.int .i64 c'.F, .int .i64 c'.C, .int .i64 c'.W, .int .i64 c'.S, .int .i64 c'.V, .int .i64 c'.T, .int .u64 c'.k.l1, .int .u64 c'.k.llc, .int .u64 c'.k.mi, .int .u64 c'.k.fa, .int .u64 c'.k.st, .int .u64 c'.k.di, .int .u64 c'.sl, .int .u64 c'.pd, .int .u64 c'.ft, .slice a'.ta c'.tn a'.tc, .slice a'.pa c'.pn a'.pc])).run Tryz.prog wb = .ok () (wb.setRow w.heap.size (kL a' c' (.slice a'.pa c'.pn a'.pc)).toArray) := stR HT2.out.b2 rfl rfl rfl
  have HF : Hid (Trn 13 w (.returned (.agg #[.int .i64 c'.F, .int .i64 c'.C, .int .i64 c'.W, .int .i64 c'.S, .int .i64 c'.V, .int .i64 c'.T, .int .u64 c'.k.l1, .int .u64 c'.k.llc, .int .u64 c'.k.mi, .int .u64 c'.k.fa, .int .u64 c'.k.st, .int .u64 c'.k.di, .int .u64 c'.sl, .int .u64 c'.pd, .int .u64 c'.ft, .slice a'.ta c'.tn a'.tc, .slice a'.pa c'.pn a'.pc])) (wb.setRow w.heap.size (kL a' c' (.slice a'.pa c'.pn a'.pc)).toArray)) := ⟨a', c', rfl, hc', HC.out _ (HX2.out.other HNE) (HT2.out.row2 _), (HT2.out.row2 _).be⟩
  have HR : Hid ((wb.setRow w.heap.size (kL a' c' (.slice a'.pa c'.pn a'.pc)).toArray).heap[w.heap.size]? = some (.cells #[.int .i64 c'.F, .int .i64 c'.C, .int .i64 c'.W, .int .i64 c'.S, .int .i64 c'.V, .int .i64 c'.T, .int .u64 c'.k.l1, .int .u64 c'.k.llc, .int .u64 c'.k.mi, .int .u64 c'.k.fa, .int .u64 c'.k.st, .int .u64 c'.k.di, .int .u64 c'.sl, .int .u64 c'.pd, .int .u64 c'.ft, .slice a'.ta c'.tn a'.tc, .slice a'.pa c'.pn a'.pc] 28 (0, 0))) := HT2.out.b2.row
  clear HT2 HC hc' HX2 HNE
  generalize wb.setRow w.heap.size (kL a' c' (.slice a'.pa c'.pn a'.pc)).toArray = w9 at *
  go_wp2_with (first | refine wpList_load_at rfl 28 (.tmp 3) rfl _ _ rfl hld ?_ | refine wpList_store_at rfl 28 (.tmp 2) (.tmp 71) rfl _ _ rfl rfl st2 ?_)
  refine bodyPost_ret (v := .agg #[.int .i64 c'.F, .int .i64 c'.C, .int .i64 c'.W, .int .i64 c'.S, .int .i64 c'.V, .int .i64 c'.T, .int .u64 c'.k.l1, .int .u64 c'.k.llc, .int .u64 c'.k.mi, .int .u64 c'.k.fa, .int .u64 c'.k.st, .int .u64 c'.k.di, .int .u64 c'.sl, .int .u64 c'.pd, .int .u64 c'.ft, .slice a'.ta c'.tn a'.tc, .slice a'.pa c'.pn a'.pc]) (results_cell_row Tryz.results4 _ w9 w.heap.size 28 _ (0, 0) _ rfl HR.out Tryz.underlying28 rfl Tryz.infoK) rfl HF.out
set_option maxRecDepth 100000 in
set_option maxHeartbeats 2000000 in
theorem turned_14 (w : World) : Calls Tryz.prog 4 #[.int .i64 14] w (Trn 14 w) := by
  have U : Hid (∀ w, Calls Tryz.prog 9 #[] w (Usd w)) := fun w => usual_any w
  go_enter Tryz.func4, Tryz.ntmps4
  go_wp2_with fail
  refine (U.out _).mono ?_
  rintro _ w1 ⟨n1, n2, n3, n4, b, c, rfl, hc, hb, hU, ho, k1⟩
  have st := stK w1 b c
  have HT0 : Hid (Tb w (w1.alloc (.cells #[.int .i64 c.F, .int .i64 c.C, .int .i64 c.W, .int .i64 c.S, .int .i64 c.V, .int .i64 c.T, .int .u64 c.k.l1, .int .u64 c.k.llc, .int .u64 c.k.mi, .int .u64 c.k.fa, .int .u64 c.k.st, .int .u64 c.k.di, .int .u64 c.sl, .int .u64 c.pd, .int .u64 c.ft, .slice b.ta c.tn b.tc, .slice b.pa c.pn b.pc] 28)) w.heap.size w1.heap.size n1 n2 n3 n4 zCl (kL b c (.slice b.pa c.pn b.pc)) (uP n2 n3)) := tb_new hU ho k1 _
  have HT1 : Hid (Tb w (w1.alloc (.cells #[.int .i64 c.F, .int .i64 c.C, .int .i64 c.W, .int .i64 c.S, .int .i64 c.V, .int .i64 c.T, .int .u64 c.k.l1, .int .u64 c.k.llc, .int .u64 c.k.mi, .int .u64 c.k.fa, .int .u64 c.k.st, .int .u64 c.k.di, .int .u64 c.sl, .int .u64 c.pd, .int .u64 c.ft, .slice b.ta c.tn b.tc, .slice b.pa c.pn b.pc] 28)) w.heap.size w1.heap.size n1 n2 n3 n4 zCl (kL (Ud n1 n2 n3 n4) us (.slice (some ⟨n4, 0, none⟩) 2 2)) (uP n2 n3)) := by rw [hc, hb] at HT0; rw [hc, hb]; exact HT0
  clear hU ho k1 HT0 hc hb
  go_upto_region 2 with (refine wpList_store_at rfl 28 (.tmp 3) (.tmp 4) rfl _ _ rfl rfl st ?_)
  clear st
  go_frame
  obtain ⟨wa, hwa, HT⟩ : ∃ wa, w1.alloc (.cells #[.int .i64 c.F, .int .i64 c.C, .int .i64 c.W, .int .i64 c.S, .int .i64 c.V, .int .i64 c.T, .int .u64 c.k.l1, .int .u64 c.k.llc, .int .u64 c.k.mi, .int .u64 c.k.fa, .int .u64 c.k.st, .int .u64 c.k.di, .int .u64 c.sl, .int .u64 c.pd, .int .u64 c.ft, .slice b.ta c.tn b.tc, .slice b.pa c.pn b.pc] 28) = wa ∧ Hid (Tb w wa w.heap.size w1.heap.size n1 n2 n3 n4 zCl (kL (Ud n1 n2 n3 n4) us (.slice (some ⟨n4, 0, none⟩) 2 2)) (uP n2 n3)) := ⟨_, rfl, HT1⟩
  rw [hwa]
  clear hwa HT1
  generalize w1.heap.size = g3 at *
  have st : (Instr.storeAt 28 (.pointer (some ⟨g3, 0, none⟩)) (.agg zCl.toArray)).run Tryz.prog wa = .ok () (wa.setRow g3 zCl.toArray) := stR HT.out.b3 rfl rfl rfl
  go_upto_region 33 with (refine wpList_store_at rfl 28 (.tmp 3) (.tmp 70) rfl _ _ rfl rfl st ?_)
  obtain ⟨a', c', wb, hc', hwb, HT2, HC⟩ : ∃ (a' : Ad) (c' : Cf) (wb : World), c' = tcf 14 ∧ wa.setRow g3 zCl.toArray = wb ∧ Hid (Tb w wb w.heap.size g3 n1 n2 n3 n4 zCl (kL a' c' (.slice a'.pa c'.pn a'.pc)) (uP n2 n3)) ∧ Hid (∀ wf, Tb w wf w.heap.size g3 n1 n2 n3 n4 (kL a' c' (.slice a'.pa c'.pn a'.pc)) (kL a' c' (.slice a'.pa c'.pn a'.pc)) (uP n2 n3) → Cin wf a' c') := by
    refine ⟨⟨none, 0, none, 0, fun _ => none, fun _ => 0⟩, tcf 14, _, rfl, rfl, HT.out.row3 zCl, fun wf h => ?_⟩
    · obtain ⟨a', ha'⟩ : ∃ a' : Ad, a' = ⟨none, 0, none, 0, fun _ => none, fun _ => 0⟩ := ⟨_, rfl⟩
      exact ⟨Or.inl rfl, Or.inl rfl, by decide, by decide, fun i hi => absurd hi (Nat.not_lt_zero i), fun e => ⟨rfl, rfl⟩, fun e => ⟨rfl, rfl⟩, fun i hi => absurd hi (Nat.not_lt_zero i), Nat.zero_le _, by decide, by decide, by decide, by decide⟩
  rw [hwb]
  clear hwb st HT
  have hld := HT2.out.b3.sev.ld
  have st2 : (Instr.storeAt 28 (.pointer (some ⟨w.heap.size, 0, none⟩)) (.agg #[.int .i64 c'.F, .int .i64 c'.C, .int .i64 c'.W, .int .i64 c'.S, .int .i64 c'.V, .int .i64 c'.T, .int .u64 c'.k.l1, .int .u64 c'.k.llc, .int .u64 c'.k.mi, .int .u64 c'.k.fa, .int .u64 c'.k.st, .int .u64 c'.k.di, .int .u64 c'.sl, .int .u64 c'.pd, .int .u64 c'.ft, .slice a'.ta c'.tn a'.tc, .slice a'.pa c'.pn a'.pc])).run Tryz.prog wb = .ok () (wb.setRow w.heap.size (kL a' c' (.slice a'.pa c'.pn a'.pc)).toArray) := stR HT2.out.b2 rfl rfl rfl
  have HF : Hid (Trn 14 w (.returned (.agg #[.int .i64 c'.F, .int .i64 c'.C, .int .i64 c'.W, .int .i64 c'.S, .int .i64 c'.V, .int .i64 c'.T, .int .u64 c'.k.l1, .int .u64 c'.k.llc, .int .u64 c'.k.mi, .int .u64 c'.k.fa, .int .u64 c'.k.st, .int .u64 c'.k.di, .int .u64 c'.sl, .int .u64 c'.pd, .int .u64 c'.ft, .slice a'.ta c'.tn a'.tc, .slice a'.pa c'.pn a'.pc])) (wb.setRow w.heap.size (kL a' c' (.slice a'.pa c'.pn a'.pc)).toArray)) := ⟨a', c', rfl, hc', HC.out _ (HT2.out.row2 _), (HT2.out.row2 _).be⟩
  have HR : Hid ((wb.setRow w.heap.size (kL a' c' (.slice a'.pa c'.pn a'.pc)).toArray).heap[w.heap.size]? = some (.cells #[.int .i64 c'.F, .int .i64 c'.C, .int .i64 c'.W, .int .i64 c'.S, .int .i64 c'.V, .int .i64 c'.T, .int .u64 c'.k.l1, .int .u64 c'.k.llc, .int .u64 c'.k.mi, .int .u64 c'.k.fa, .int .u64 c'.k.st, .int .u64 c'.k.di, .int .u64 c'.sl, .int .u64 c'.pd, .int .u64 c'.ft, .slice a'.ta c'.tn a'.tc, .slice a'.pa c'.pn a'.pc] 28 (0, 0))) := HT2.out.b2.row
  clear HT2 HC hc'
  generalize wb.setRow w.heap.size (kL a' c' (.slice a'.pa c'.pn a'.pc)).toArray = w9 at *
  go_wp2_with (first | refine wpList_load_at rfl 28 (.tmp 3) rfl _ _ rfl hld ?_ | refine wpList_store_at rfl 28 (.tmp 2) (.tmp 71) rfl _ _ rfl rfl st2 ?_)
  refine bodyPost_ret (v := .agg #[.int .i64 c'.F, .int .i64 c'.C, .int .i64 c'.W, .int .i64 c'.S, .int .i64 c'.V, .int .i64 c'.T, .int .u64 c'.k.l1, .int .u64 c'.k.llc, .int .u64 c'.k.mi, .int .u64 c'.k.fa, .int .u64 c'.k.st, .int .u64 c'.k.di, .int .u64 c'.sl, .int .u64 c'.pd, .int .u64 c'.ft, .slice a'.ta c'.tn a'.tc, .slice a'.pa c'.pn a'.pc]) (results_cell_row Tryz.results4 _ w9 w.heap.size 28 _ (0, 0) _ rfl HR.out Tryz.underlying28 rfl Tryz.infoK) rfl HF.out
end Go.Proofs.YtcmgjinjfaialaaGreat
