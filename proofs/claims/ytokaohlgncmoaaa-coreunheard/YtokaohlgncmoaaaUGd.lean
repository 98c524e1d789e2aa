/- A partition's places, two cores side by side, and what their sets have together; no condition but those named. -/
import Derived.Test.YtokaohlgncmoaaaUGc
import Derived.Test.YtokaohlgncmoaaaUHf
namespace Go.Proofs.Ytokaohlgncmoaaa.E
open Go.ChangeShapes Go.WideShapes Go.ChangeAt Go.RowKit
set_option linter.unusedVariables false
set_option maxRecDepth 8192

theorem Within_any (k n : Int) (h0 : 0 < n) (h1 : n < 4611686018427387904) (hk0 : -9223372036854775808 ≤ k) (hk1 : k < 9223372036854775808) (w : World) :
    Calls Try.prog 12 #[.int .i64 k, .int .i64 n] w fun e w' => e = .returned (.int .i64 (k % n)) ∧ w' = w := by
  have h2 : -n < k.tmod n := Int.lt_tmod_of_pos k h0
  have h3 : k.tmod n < n := Int.tmod_lt_of_pos k h0
  have HE : Hid (k % n = if k.tmod n < 0 then k.tmod n + n else k.tmod n) := by
    unfold Hid
    have e : k % n = (k.tmod n) % n := by
      rw [Int.tmod_eq_emod]
      split
      · simp
      · rw [Int.natAbs_of_nonneg (by omega), Int.sub_emod_right, Int.emod_emod]
    rw [e]
    split
    · rw [← Int.add_emod_right]
      exact Int.emod_eq_of_lt (by omega) (by omega)
    · exact Int.emod_eq_of_lt (by omega) (by omega)
  rw [HE.out]
  clear HE
  by_cases hn : k.tmod n < 0
  · rw [if_pos hn]
    go_enter Try.func12, Try.ntmps12
    go_wp2
    go_ret
    exact ⟨rfl, rfl⟩
  · rw [if_neg hn]
    go_enter Try.func12, Try.ntmps12
    go_wp2
    go_ret
    exact ⟨rfl, rfl⟩
def Oc (c : Cf) (p : Nat) (x : Nat) : Prop := ∃ j, j < (c.pf p).n ∧ (x : Int) = (c.pf p).f j
theorem okL_of {c : Cf} (hO : c.Ok) {p : Nat} (hp : p < c.pn) : K.okL c.C (c.pf p).n (c.pf p).f := by
  have k := hO.part hp
  have hC : 1 ≤ c.C ∧ c.C ≤ 16 := by rcases hO.m.C with e | e | e | e | e <;> omega
  exact ⟨hC, fun i hi => ⟨(rise_at k.ri hi).1, (rise_at k.ri hi).2.1⟩, fun i hi => rise_mono k.ri (by omega) hi⟩
theorem fr_mem {F : Nat} {n : Int} {l : Nat} {f : Nat → Int} {x : Int} (h : x ∈ K.fr F n l f) : ∃ k : Nat, x = k ∧ k < F ∧ ∃ j, j < l ∧ f j = (k : Int) % n := by
  unfold K.fr at h
  simp only [List.mem_map, List.mem_filter, List.mem_range] at h
  obtain ⟨k, ⟨hk, hh⟩, rfl⟩ := h
  exact ⟨k, rfl, hk, K.has_iff.1 hh⟩
theorem fr_pos {c : Cf} (hO : c.Ok) {p : Nat} (hp : p < c.pn) : 0 < (K.fr c.F.toNat c.C (c.pf p).n (c.pf p).f).length := by
  have k := hO.part hp
  have hr := rise_at k.ri k.n0
  have hC : 1 ≤ c.C ∧ c.C ≤ 16 := by rcases hO.m.C with e | e | e | e | e <;> omega
  have F1 := hO.m.F1
  have hFC : c.C ≤ c.F := by
    have h1 := Int.emod_add_mul_ediv c.F c.C
    rw [hO.m.FC] at h1
    have h2 : 1 ≤ c.F / c.C := by
      rcases Int.lt_or_le (c.F / c.C) 1 with q | q
      · have : c.C * (c.F / c.C) ≤ c.C * 0 := Int.mul_le_mul_of_nonneg_left (by omega) (by omega)
        omega
      · exact q
    have : c.C * 1 ≤ c.C * (c.F / c.C) := Int.mul_le_mul_of_nonneg_left h2 (by omega)
    omega
  apply List.length_pos_of_mem (a := (c.pf p).f 0)
  unfold K.fr
  simp only [List.mem_map, List.mem_filter, List.mem_range]
  refine ⟨((c.pf p).f 0).toNat, ⟨by omega, K.has_iff.2 ⟨0, k.n0, ?_⟩⟩, by omega⟩
  rw [Int.toNat_of_nonneg hr.1, Int.emod_eq_of_lt hr.1 hr.2.1]
def Plc (c : Cf) (p : Nat) (x : Nat) : Prop := x < (hwOf c).n * 256 ∧ Oc c p (x / 256 % (hwOf c).c)
set_option maxHeartbeats 1000000 in
theorem place_at {c : Cf} (hm : may c = true) (p : Nat) (hp : p < c.pn) (y : Nat) (hy : y < 18446744073709551616) :
    ∃ x : Nat, Plc c p x ∧ ∀ (w : World) (a : Ad), Cin w a c → Calls Try.prog 8 #[.agg #[.int .i64 c.F, .int .i64 c.C, .int .i64 c.W, .int .i64 c.S, .int .i64 c.V, .int .i64 c.T, .int .u64 c.k.l1, .int .u64 c.k.llc, .int .u64 c.k.mi, .int .u64 c.k.fa, .int .u64 c.k.st, .int .u64 c.k.di, .int .u64 c.sl, .int .u64 c.pd, .int .u64 c.ft, .slice a.ta c.tn a.tc, .slice a.pa c.pn a.pc], .int .i64 (p : Nat), .int .u64 (y : Nat)] w (One (.tuple #[.int .u64 (x : Nat), .bool true]) w) := by
  have hO := may_iff.1 hm
  have F1 := hO.m.F1; have F2 := hO.m.F2
  have hC : 1 ≤ c.C ∧ c.C ≤ 16 := by rcases hO.m.C with e | e | e | e | e <;> omega
  have hpn := hO.pn8
  have HPOS := fr_pos hO hp
  have hFL := K.fr_len c.F.toNat c.C (c.pf p).n (c.pf p).f
  have HMEM : Hid (∀ x, x ∈ K.fr c.F.toNat c.C (c.pf p).n (c.pf p).f → ∃ k : Nat, x = k ∧ k < c.F.toNat ∧ ∃ j, j < (c.pf p).n ∧ (c.pf p).f j = (k : Int) % c.C) := fun x hx => fr_mem hx
  obtain ⟨L, hL⟩ : ∃ L, K.fr c.F.toNat c.C (c.pf p).n (c.pf p).f = L := ⟨_, rfl⟩
  rw [hL] at HPOS hFL HMEM
  have HL : Hid (K.fr c.F.toNat c.C (c.pf p).n (c.pf p).f = L) := hL
  clear hL
  obtain ⟨N, hN⟩ : ∃ N, L.length = N := ⟨_, rfl⟩
  have HN : Hid (L.length = N) := hN
  rw [hN] at HPOS hFL
  clear hN
  have hN4 : N ≤ 4096 := by omega
  obtain ⟨r, hr⟩ : ∃ r, y / 256 % N = r := ⟨_, rfl⟩
  have hrN : r < N := by rw [← hr]; exact Nat.mod_lt _ HPOS
  have hg : L[r]? = some (L[r]'(by rw [HN.out]; exact hrN)) := List.getElem?_eq_getElem _
  obtain ⟨k, ek, hkF, j, hj, ej⟩ := HMEM.out _ (List.getElem_mem (by rw [HN.out]; exact hrN))
  rw [ek] at hg
  clear ek
  have hy1 : (y : Int) / 256 = ((y / 256 : Nat) : Int) := by omega
  obtain ⟨y1, hy2⟩ : ∃ y1, y / 256 = y1 := ⟨_, rfl⟩
  obtain ⟨y0, hy3⟩ : ∃ y0, y % 256 = y0 := ⟨_, rfl⟩
  rw [hy2] at hy1 hr
  have hy4 : (y : Int) % 256 = (y0 : Int) := by omega
  have hy5 : (y : Int).tmod 256 = (y0 : Int) := by rw [Int.tmod_eq_emod_of_nonneg (by omega)]; exact hy4
  have hr1 : (y1 : Int) % (N : Int) = (r : Int) := by rw [← hr, Int.natCast_emod]
  have hr2 : (y1 : Int).tmod (N : Int) = (r : Int) := by rw [Int.tmod_eq_emod_of_nonneg (by omega)]; exact hr1
  have hy0 : y0 < 256 := by omega
  have hy1b : y1 < 72057594037927936 := by omega
  have FIN : Plc c p (k * 256 + y0) := by
    have eC : ((c.C.toNat : Nat) : Int) = c.C := by omega
    refine ⟨by simp only [hwOf]; omega, j, hj, ?_⟩
    rw [ej]
    have : (k * 256 + y0) / 256 = k := by omega
    rw [this]
    simp only [hwOf]
    rw [Int.natCast_emod, eC]
  have hN0 : ¬ (N : Int) = 0 := by omega
  have hN0' : ¬ N = 0 := by omega
  have hNe : ((N : Int) == 0) = false := by simp; omega
  have hk4 : k < 4096 := by omega
  refine ⟨k * 256 + y0, FIN, fun w a hc => ?_⟩
  have HG : Hid (L[r]? = some (k : Int)) := hg
  have HO' : Hid c.Ok := hO
  clear FIN hy2 hy3 hr ej hg HMEM hj hO hm
  have HB0 := cb_new hc
  have hcl := hc.cl p hp
  have CF : Hid (∀ w', Below w.heap.size w w' → Calls Try.prog 23 #[.int .i64 c.F, .int .i64 c.C, .slice (a.ca p) (c.pf p).n (a.cc p)] w' (K.Frd w' c.F.toNat c.C (c.pf p).n (c.pf p).f)) := fun w' hb => by
    have e : c.F = ((c.F.toNat : Nat) : Int) := by omega
    have hA : K.Arg w' (a.ca p) (c.pf p).n (c.pf p).f := (hc.p.col hp).below hb
    have := K.Frames_ok (c := a.cc p) (F := c.F.toNat) (n := c.C) (by unfold maxLen; omega) hA (by omega) (okL_of HO'.out hp)
    rw [← e] at this
    exact this
  obtain ⟨pb, po, epa, hE⟩ := hc.p.at' hp
  have hE' := hE.below ((Below.refl w.heap.size w).alloc (Nat.le_refl _) (.cells #[.int .i64 c.F, .int .i64 c.C, .int .i64 c.W, .int .i64 c.S, .int .i64 c.V, .int .i64 c.T, .int .u64 c.k.l1, .int .u64 c.k.llc, .int .u64 c.k.mi, .int .u64 c.k.fa, .int .u64 c.k.st, .int .u64 c.k.di, .int .u64 c.sl, .int .u64 c.pd, .int .u64 c.ft, .slice a.ta c.tn a.tc, .slice a.pa c.pn a.pc] 28))
  have e0 := hE'.c0
  have c0 := HB0.bx.c0
  have c1 := HB0.bx.c1
  have c16 : (w.alloc (.cells #[.int .i64 c.F, .int .i64 c.C, .int .i64 c.W, .int .i64 c.S, .int .i64 c.V, .int .i64 c.T, .int .u64 c.k.l1, .int .u64 c.k.llc, .int .u64 c.k.mi, .int .u64 c.k.fa, .int .u64 c.k.st, .int .u64 c.k.di, .int .u64 c.sl, .int .u64 c.pd, .int .u64 c.ft, .slice a.ta c.tn a.tc, .slice a.pa c.pn a.pc] 28)).cell? ⟨w.heap.size, 16, none⟩ = some (.slice (some ⟨pb, po, none⟩) c.pn a.pc) := by
    have := HB0.bx.c16
    rw [this, epa]
  have HBE : Hid (Below w.heap.size w (w.alloc (.cells #[.int .i64 c.F, .int .i64 c.C, .int .i64 c.W, .int .i64 c.S, .int .i64 c.V, .int .i64 c.T, .int .u64 c.k.l1, .int .u64 c.k.llc, .int .u64 c.k.mi, .int .u64 c.k.fa, .int .u64 c.k.st, .int .u64 c.k.di, .int .u64 c.sl, .int .u64 c.pd, .int .u64 c.ft, .slice a.ta c.tn a.tc, .slice a.pa c.pn a.pc] 28))) := HB0.be
  clear hc hE hE' epa HB0 HO'
  go_enter Try.func8, Try.ntmps8
  go_upto_region 1 with fail
  generalize (w.alloc (.cells #[.int .i64 c.F, .int .i64 c.C, .int .i64 c.W, .int .i64 c.S, .int .i64 c.V, .int .i64 c.T, .int .u64 c.k.l1, .int .u64 c.k.llc, .int .u64 c.k.mi, .int .u64 c.k.fa, .int .u64 c.k.st, .int .u64 c.k.di, .int .u64 c.sl, .int .u64 c.pd, .int .u64 c.ft, .slice a.ta c.tn a.tc, .slice a.pa c.pn a.pc] 28)) = W at *
  have hi1 : (0 : Int) ≤ (p : Int) := by omega
  have hi2 : (p : Int) < (c.pn : Int) := by omega
  have S0 : Hid (W.drew.cell? ⟨w.heap.size, 0, none⟩ = some (.int .i64 c.F) ∧ W.drew.cell? ⟨w.heap.size, 1, none⟩ = some (.int .i64 c.C) ∧ W.drew.cell? ⟨w.heap.size, 16, none⟩ = some (.slice (some ⟨pb, po, none⟩) c.pn a.pc) ∧ W.drew.cell? ⟨pb, po + p * 8, none⟩ = some (.slice (a.ca p) (c.pf p).n (a.cc p))) := ⟨c0, c1, c16, e0⟩
  have SL : Hid (w.heap.size < W.heap.size ∧ pb < W.heap.size) := ⟨World.block_lt_of_cell? W _ c0, World.block_lt_of_cell? W _ e0⟩
  go_region_held3 (fun V => V.cell? ⟨w.heap.size, 0, none⟩ = some (.int .i64 c.F) ∧ V.cell? ⟨w.heap.size, 1, none⟩ = some (.int .i64 c.C) ∧ V.cell? ⟨w.heap.size, 16, none⟩ = some (.slice (some ⟨pb, po, none⟩) c.pn a.pc) ∧ V.cell? ⟨pb, po + p * 8, none⟩ = some (.slice (a.ca p) (c.pf p).n (a.cc p)))
    (first | exact ⟨(kf.cell SL.out.1).trans S0.out.1, (kf.cell SL.out.1).trans S0.out.2.1, (kf.cell SL.out.1).trans S0.out.2.2.1, (kf.cell SL.out.2).trans S0.out.2.2.2⟩ | exact S0.out)
    (first | (go_at_call 23; refine (CF.out _ (HBE.out.trans (((Below.refl _ _).drew).mono HBE.out.size))).mono ?_; rintro e w1 ⟨v, rfl, hIs, kf⟩))
  have hIs' : K.Is w1 W.drew.heap.size v L := by rw [← HL.out]; exact hIs
  obtain ⟨va, vc, rfl⟩ : ∃ va vc, v = .slice va L.length vc := by
    rcases hIs'.2 with ⟨h1, h2⟩ | ⟨g, cap, cur, h1, _⟩
    · exact ⟨none, 0, by rw [h1, h2]⟩
    · exact ⟨_, _, h1⟩
  have HIS : Hid (K.Is w1 W.drew.heap.size (.slice va L.length vc) L) := hIs'
  have HB1 : Hid (Below w.heap.size w w1) := HBE.out.trans ((((Below.refl W.heap.size W).drew).trans kf).mono HBE.out.size)
  clear hIs hIs' kf S0 SL c0 c1 c16 e0 HBE CF
  rw [HN.out] at HIS ⊢
  obtain ⟨g, rfl, hcell⟩ : ∃ g, va = some ⟨g, 0, none⟩ ∧ w1.cell? ⟨g, r, none⟩ = some (.int .i64 (k : Nat)) := by
    rcases HIS.out.2 with ⟨h1, h2⟩ | ⟨g, cap, cur, h1, h2, h3, h4, h5, h6, h7⟩
    · rw [HN.out] at h2; omega
    · refine ⟨g, by injection h1, ?_⟩
      rw [cell_of_row w1 g _ _ 3 (0, 0) h3, ← Array.getElem?_toList, ← List.getElem?_take_of_lt (show r < L.length * 1 by rw [HN.out]; omega), h7]
      unfold K.enI
      rw [List.getElem?_map, HG.out]
      rfl
  clear HIS HG HL
  go_wp2
  go_ret2
  exact ⟨by simp, HB1.out⟩
end Go.Proofs.Ytokaohlgncmoaaa.E
namespace Go.Proofs.Ytokaohlgncmoaaa.E
open Go.ChangeShapes Go.WideShapes Go.ChangeAt Go.RowKit
set_option linter.unusedVariables false
set_option maxRecDepth 8192

structure Pr (w0 w : World) (p q : Nat) (h : Hw) (s t : Sc) (L : List (Nat × Bool × Bool)) : Prop where
  c : ∃ X Y, Cr pK w X p h s ∧ Cr pK w Y q h t ∧ (∀ k, X k → ¬ Y k) ∧ (∀ k, X k → w0.heap.size ≤ k) ∧ (∀ k, Y k → w0.heap.size ≤ k) ∧ ∀ z ∈ L, ¬ X z.1 ∧ ¬ Y z.1
  be : Below w0.heap.size w0 w
  bx : ∀ z ∈ L, C.Blk w z.1 39 [.bool z.2.1, .bool z.2.2]
theorem Pr.swap {w0 w : World} {p q : Nat} {h : Hw} {s t : Sc} {L : List (Nat × Bool × Bool)} (K : Pr w0 w p q h s t L) : Pr w0 w q p h t s L := by
  obtain ⟨X, Y, c, d, ds, lx, ly, nb⟩ := K.c
  exact ⟨⟨Y, X, d, c, fun k hy hx => ds k hx hy, ly, lx, fun z hz => ⟨(nb z hz).2, (nb z hz).1⟩⟩, K.be, K.bx⟩
theorem Pr.below {w0 w w' : World} {p q : Nat} {h : Hw} {s t : Sc} {L : List (Nat × Bool × Bool)} (K : Pr w0 w p q h s t L) (b : Below w.heap.size w w') : Pr w0 w' p q h s t L := by
  obtain ⟨X, Y, c, d, ds, lx, ly, nb⟩ := K.c
  exact ⟨⟨X, Y, c.below b, d.below b, ds, lx, ly, nb⟩, K.be.trans (b.mono K.be.size), fun z hz => (K.bx z hz).of_eq (b.block _ (K.bx z hz).lt)⟩
theorem Pr.less {w0 w : World} {p q : Nat} {h : Hw} {s t : Sc} {L L' : List (Nat × Bool × Bool)} (K : Pr w0 w p q h s t L) (hL : ∀ z ∈ L', z ∈ L) : Pr w0 w p q h s t L' := by
  obtain ⟨X, Y, c, d, ds, lx, ly, nb⟩ := K.c
  exact ⟨⟨X, Y, c, d, ds, lx, ly, fun z hz => nb z (hL z hz)⟩, K.be, fun z hz => K.bx z (hL z hz)⟩
theorem Pr.box {w0 w : World} {p q : Nat} {h : Hw} {s t : Sc} {L : List (Nat × Bool × Bool)} (K : Pr w0 w p q h s t L) (x y : Bool) : Pr w0 (w.alloc (.cells #[.bool x, .bool y] 39)) p q h s t ((w.heap.size, x, y) :: L) := by
  have K' := K.below ((Below.refl _ _).alloc (Nat.le_refl _) (.cells #[.bool x, .bool y] 39))
  obtain ⟨X, Y, c, d, ds, lx, ly, nb⟩ := K.c
  refine ⟨⟨X, Y, c.below ((Below.refl _ _).alloc (Nat.le_refl _) _), d.below ((Below.refl _ _).alloc (Nat.le_refl _) _), ds, lx, ly, fun z hz => ?_⟩, K'.be, fun z hz => ?_⟩
  · rcases List.mem_cons.1 hz with rfl | hz
    · exact ⟨fun k => by have := c.lt _ k; omega, fun k => by have := d.lt _ k; omega⟩
    · exact nb z hz
  · rcases List.mem_cons.1 hz with rfl | hz
    · exact C.blk_new w [.bool x, .bool y] 39
    · exact K'.bx z hz
theorem Pr.call {w0 w W : World} {p q : Nat} {h : Hw} {s s' t : Sc} {L : List (Nat × Bool × Bool)} {fn : FuncId} {args : Array Value} {R : Ending → Prop} (K : Pr w0 w p q h s t L)
    (H : ∀ X, Cr pK w X p h s → Calls Try.prog fn args W fun e w' => R e ∧ Gv pK w X p h s' w') :
    Calls Try.prog fn args W fun e w' => R e ∧ Pr w0 w' p q h s' t L := by
  obtain ⟨X, Y, c, d, ds, lx, ly, nb⟩ := K.c
  refine (H X c).mono ?_
  rintro e w' ⟨hR, X', c', k⟩
  have sz := K.be.size
  refine ⟨hR, ⟨X', Y, c', d.kept k (fun i hy hx => ds i hx hy), fun i hx hy => ?_, fun i hi => ?_, ly, fun z hz => ⟨fun hx => ?_, (nb z hz).2⟩⟩, K.be.trans (k.below _ sz lx), fun z hz => (K.bx z hz).of_eq (k.block _ (K.bx z hz).lt (nb z hz).1)⟩
  · rcases k.new i hx with q | q
    · exact ds i q hy
    · have := d.lt i hy; omega
  · rcases k.new i hi with q | q
    · exact lx i q
    · omega
  · rcases k.new _ hx with q | q
    · exact (nb z hz).1 q
    · have := (K.bx z hz).lt; omega
theorem Cr.one {w : World} {X : Nat → Prop} {p : Nat} {h : Hw} {s : Sc} (K : Cr pK w X p h s) (x : Nat) (ty : TypeId) (hx : x < h.n * 256) :
    Calls Try.prog 9 #[.pointer (some ⟨p, 0, none⟩), .slice (some ⟨w.heap.size, 0, none⟩) 1 1] (w.alloc (.cells #[.int .u64 (x : Nat)] ty)) fun e w' => e = .returned (.tuple #[.agg #[.bool (hA h s x), .bool (hB h s x)], .int .i64 0]) ∧ Gv pK w X p h (tou h s x) w' := by
  have b : Below w.heap.size w (w.alloc (.cells #[.int .u64 (x : Nat)] ty)) := (Below.refl _ _).alloc (Nat.le_refl _) _
  refine (Touch_ok (K.below b) (c := 1) (by simp [maxLen]) (au_new w [x] ty) (fun b' off e z => ?_) (fun i hi => ?_)).mono ?_
  · injection e with e; injection e with e1 e2 e3; subst e1
    have := K.lt _ z; omega
  · simp at hi
    subst hi
    exact hx
  · rintro e w' ⟨rfl, g⟩
    exact ⟨rfl, g.pre (kp_of_below _ b)⟩
theorem Pr.one {w0 w : World} {p q : Nat} {h : Hw} {s t : Sc} {L : List (Nat × Bool × Bool)} (K : Pr w0 w p q h s t L) (x : Nat) (ty : TypeId) (hx : x < h.n * 256) :
    Calls Try.prog 9 #[.pointer (some ⟨p, 0, none⟩), .slice (some ⟨w.heap.size, 0, none⟩) 1 1] (w.alloc (.cells #[.int .u64 (x : Nat)] ty)) fun e w' => e = .returned (.tuple #[.agg #[.bool (hA h s x), .bool (hB h s x)], .int .i64 0]) ∧ Pr w0 w' p q h (tou h s x) t L :=
  K.call (R := fun e => e = .returned (.tuple #[.agg #[.bool (hA h s x), .bool (hB h s x)], .int .i64 0])) (fun X c => c.one x ty hx)
theorem Pr.settle {w0 w : World} {p q : Nat} {h : Hw} {s t : Sc} {L : List (Nat × Bool × Bool)} (K : Pr w0 w p q h s t L) :
    Calls Try.prog 10 #[.pointer (some ⟨p, 0, none⟩)] w fun e w' => e = .returned (.tuple #[.int .u64 s.z, .int .i64 0]) ∧ Pr w0 w' p q h { s with z := 0 } t L :=
  K.call (R := fun e => e = .returned (.tuple #[.int .u64 s.z, .int .i64 0])) (fun X c => Settle_ok c)
theorem Pr.leave {w0 w : World} {p q : Nat} {h : Hw} {s t : Sc} {L : List (Nat × Bool × Bool)} (K : Pr w0 w p q h s t L) :
    Calls Try.prog 11 #[.pointer (some ⟨p, 0, none⟩)] w fun e w' => e = .returned (.tuple #[.int .u64 (lvC h s), .int .i64 0]) ∧ Pr w0 w' p q h (lft s) t L :=
  K.call (R := fun e => e = .returned (.tuple #[.int .u64 (lvC h s), .int .i64 0])) (fun X c => Leave_ok c)
theorem Pr.fill {w0 w : World} {p q : Nat} {h : Hw} {s t : Sc} {L : List (Nat × Bool × Bool)} (K : Pr w0 w p q h s t L) : ∃ pt, w.cell? ⟨p, 1, none⟩ = some (.pointer (some ⟨pt, 0, none⟩)) ∧
    ∀ (x : T.Tr), Calls Try.prog 13 #[.pointer (some ⟨pt, 0, none⟩), .agg #[.int .i64 x.a, .int .i64 x.p, .int .i64 x.f, .bool x.r, .bool x.w, .bool x.d]] w fun e w2 => e = .returned (.int .i64 (T.filE x)) ∧ Pr w0 w2 p q h { s with l := T.filL h.t x s.l } t L := by
  obtain ⟨X, Y, c, _⟩ := K.c
  obtain ⟨pt, hc, _⟩ := c.fill
  refine ⟨pt, hc, fun x => K.call (R := fun e => e = .returned (.int .i64 (T.filE x))) (fun X c => ?_)⟩
  obtain ⟨pt', hc', H⟩ := c.fill
  rw [hc] at hc'
  injection hc' with e
  injection e with e
  injection e with e
  injection e with e
  subst e
  exact H w x (Below.refl _ _)
theorem pr_new {w0 w : World} {p : Nat} {c : Cf} {a : Ad} {s : Sc} (K : Wk w0 w p (hwOf c) s []) (hc : Cin w a c) (hm : may c = true) :
    Calls Try.prog 7 #[.agg #[.int .i64 c.F, .int .i64 c.C, .int .i64 c.W, .int .i64 c.S, .int .i64 c.V, .int .i64 c.T, .int .u64 c.k.l1, .int .u64 c.k.llc, .int .u64 c.k.mi, .int .u64 c.k.fa, .int .u64 c.k.st, .int .u64 c.k.di, .int .u64 c.sl, .int .u64 c.pd, .int .u64 c.ft, .slice a.ta c.tn a.tc, .slice a.pa c.pn a.pc]] w fun e w' => ∃ q, e = .returned (.tuple #[.pointer (some ⟨q, 0, none⟩), .int .i64 0]) ∧ Pr w0 w' p q (hwOf c) s s0 [] := by
  refine (New_ok hc hm).mono ?_
  rintro e w' ⟨q, Y, rfl, cr, k⟩
  obtain ⟨X, c', lo, _⟩ := K.c
  have sz := K.be.size
  have nw := fun i hi => (k.new i hi).resolve_left id
  refine ⟨q, rfl, ⟨X, Y, c'.kept k (fun i hi z => z), cr, fun i hx hy => ?_, lo, fun i hi => ?_, fun z hz => by simp at hz⟩, K.be.trans (k.below _ sz (fun i hi => hi.elim)), fun z hz => by simp at hz⟩
  · have := c'.lt i hx; have := nw i hy; omega
  · have := nw i hi; omega
def Sw (O : Nat → Prop) (s t : Sc) : Prop := ∀ i, O (i / 16) → s.b i = t.b i
structure Sm (O : Nat → Prop) (s t : Sc) : Prop where
  a : s.a = t.a
  z : s.z = t.z
  b : Sw O s t
theorem i2_div (h : Hw) (pa : Nat) : i2 h pa / 16 = pa / 256 % h.c := by
  unfold i2
  have : pa % 256 / 16 < 16 := by omega
  omega
theorem Sm.hits {O : Nat → Prop} {s t : Sc} (K : Sm O s t) {h : Hw} {pa : Nat} (ho : O (pa / 256 % h.c)) : hA h s pa = hA h t pa ∧ hB h s pa = hB h t pa := by
  have e1 : hA h s pa = hA h t pa := by unfold hA; rw [K.a]
  refine ⟨e1, ?_⟩
  unfold hB
  rw [e1, K.b (i2 h pa) (by rw [i2_div]; exact ho)]
theorem Sm.tou {O : Nat → Prop} {s t : Sc} (K : Sm O s t) {h : Hw} {pa : Nat} (ho : O (pa / 256 % h.c)) : Sm O (tou h s pa) (tou h t pa) := by
  obtain ⟨e1, e2⟩ := K.hits ho
  refine ⟨?_, ?_, fun i hi => ?_⟩
  · unfold E.tou; simp only; rw [K.a]
  · unfold E.tou; simp only; rw [K.z, e1, e2]
  · unfold E.tou
    simp only
    rw [e1]
    cases hA h t pa
    · simp only [cond_false]
      rw [K.b (i2 h pa) (by rw [i2_div]; exact ho)]
      unfold C.put
      split
      · rfl
      · exact K.b i hi
    · exact K.b i hi
theorem Sw.other {O : Nat → Prop} {s t : Sc} (K : Sw O s t) {h : Hw} {pa : Nat} (ho : ¬ O (pa / 256 % h.c)) : Sw O s (tou h t pa) := by
  intro i hi
  rw [K i hi]
  unfold E.tou
  simp only
  cases hA h t pa
  · simp only [cond_false]
    rw [C.put_other]
    intro e
    rw [e, i2_div] at hi
    exact ho hi
  · rfl
theorem Sm.settle {O : Nat → Prop} {s t : Sc} (K : Sm O s t) : Sm O { s with z := 0 } { t with z := 0 } := ⟨K.a, rfl, K.b⟩
theorem Sm.leave {O : Nat → Prop} {s t : Sc} (K : Sm O s t) : Sm O (lft s) (lft t) := ⟨rfl, K.z, K.b⟩
theorem Sw.back {O : Nat → Prop} {s t : Sc} (K : Sw O (lft s) t) (hz : s.z = 0) : Sm O (lft s) (lft { t with z := 0 }) := ⟨rfl, hz, K⟩
theorem oc_apart {c : Cf} (hO : c.Ok) {p : Nat} (h0 : 0 < p) (hp : p < c.pn) {x : Nat} (h : Oc c p x) : ¬ Oc c 0 x := by
  rintro ⟨i, hi, ei⟩
  obtain ⟨j, hj, ej⟩ := h
  have hs := (hO.part hp).sh
  have : sh c (c.pf p) p = true := sh_iff.2 ⟨0, h0, i, hi, has_iff.2 ⟨j, hj, by rw [← ej, ← ei]⟩⟩
  rw [hs] at this
  cases this
end Go.Proofs.Ytokaohlgncmoaaa.E
