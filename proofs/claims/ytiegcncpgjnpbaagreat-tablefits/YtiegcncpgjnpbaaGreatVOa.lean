/- How a configuration that the statements take is read: numbers, a list of turns, a list of partitions each with a list of colours; no condition. -/
import Derived.Test.YtiegcncpgjnpbaaGreatVFa
import Derived.Lib.SmallJoins
import Derived.SizedLaws
namespace Go.Proofs.YtiegcncpgjnpbaaGreat
open Go.ChangeShapes Go.WideShapes Go.ChangeAt Go.RowKit Go.Deep
set_option linter.unusedVariables false
set_option maxRecDepth 8192

theorem laidOut : laidOutB Tryz.prog = true := by kernel_rfl
theorem Tryz.cells3 : Tryz.prog.cellsOf 3 = 1 := by kernel_rfl
theorem Tryz.cellsU : Tryz.prog.cellsOf 22 = 1 := by kernel_rfl
theorem Tryz.cellsC : Tryz.prog.cellsOf 24 = 6 := by kernel_rfl
theorem Tryz.cellsI : Tryz.prog.cellsOf 25 = 1 := by kernel_rfl
theorem Tryz.cellsP : Tryz.prog.cellsOf 26 = 1 := by kernel_rfl
theorem Tryz.cellsK : Tryz.prog.cellsOf 28 = 17 := by kernel_rfl
theorem Tryz.cellsA : Tryz.prog.cellsOf 72 = 8 := by kernel_rfl
theorem wf_i64 {n : Int} (h : (Lit.int .i64 n).wf = true) : -9223372036854775808 ≤ n ∧ n ≤ 9223372036854775807 := by
  have := bounds_i64 h
  omega
theorem open_i64s {H : Type} {enc : TypeId × Value → H} {W : World} {fuel : Nat} {cs : List Value} {x : DataW H × List MemPlace} (hcs : cs.length = 1)
    (h : DataW.trod enc Tryz.prog W 0 (fun _ => true) true fuel 25 cs = some x) :
    ∃ a0 l c f, cs = [.slice a0 l c] ∧ Arg W a0 l f ∧ (a0 = none → l = 0 ∧ c = 0) ∧ (l = 0 ∨ ∃ es sp, x.1 = .slice es sp ∧ l ≤ es.length + sp.length) ∧ l ≤ c := by
  rcases open_ints Tryz.underlying25 Tryz.underlying3 Tryz.cells3 h with ⟨hcs, _⟩ | ⟨a, l', c', zs, hcs, _, hlc, hcm, hlen, hx, hcell, hwf⟩
  · subst hcs
    exact ⟨none, 0, 0, fun _ => 0, rfl, Or.inl rfl, fun _ => ⟨rfl, rfl⟩, Or.inl rfl, Nat.le_refl _⟩
  · subst hcs
    simp at hlen
    refine ⟨some a, l', c', fun i => zs.getD i 0, rfl, ?_, (fun h => by cases h), Or.inr ⟨_, _, by rw [hx], ?_⟩, hlc⟩
    · by_cases h0 : l' = 0
      · exact Or.inl h0
      · right
        have hfirst := hcell 0 (by omega)
        obtain ⟨b, off, spot⟩ := a
        have hspot : spot = none := by simpa [Addr.add] using World.cell?_spot hfirst
        subst hspot
        refine ⟨b, off, rfl, ?_, fun i hi => ?_⟩
        · have := World.block_lt_of_cell? W _ hfirst
          simpa [Addr.add] using this
        · have := hcell i (by omega)
          rw [Go.WideShapes.add_plain] at this
          exact this
    · simp [lits]
      omega
def Wok {H : Type} (t : TypeId) (d : DataW H) : Prop := ∀ n ∈ d.weights Tryz.prog t, n ≤ reachBytes
theorem wok_ints {H : Type} {es sp : List (DataW H)} (h : Wok 25 (.slice es sp)) : (es.length + sp.length) * 8 ≤ 140737488351232 := by
  have := h ((es.length + sp.length) * Tryz.prog.bytesOf 3) (by simp [DataW.weights, Tryz.underlying25])
  rw [show Tryz.prog.bytesOf 3 = 8 by kernel_rfl] at this
  simpa only [reachBytes] using this
theorem list8 {α : Type} {l : List α} (h : l.length = 8) : ∃ c0 c1 c2 c3 c4 c5 c6 c7, l = [c0, c1, c2, c3, c4, c5, c6, c7] := by
  match l, h with
  | [c0, c1, c2, c3, c4, c5, c6, c7], _ => exact ⟨c0, c1, c2, c3, c4, c5, c6, c7, rfl⟩
theorem open_part {H : Type} {enc : TypeId × Value → H} {W : World} {fuel : Nat} {cs : List Value} {x : DataW H × List MemPlace} (hl : cs.length = 8)
    (h : DataW.trod enc Tryz.prog W 0 (fun _ => true) true fuel 72 cs = some x) :
    ∃ q m, ∃ y : Pa, cs = [.slice q y.n m, .int .i64 y.o, .int .i64 y.u, .int .i64 y.t, .int .i64 y.s, .int .i64 y.r, .int .i64 y.d, .int .i64 y.z] ∧ Arg W q y.n y.f ∧ (q = none → y.n = 0 ∧ m = 0) ∧ (Wok 72 x.1 → y.n * 8 ≤ 140737488351232) := by
  obtain ⟨c0, c1, c2, c3, c4, c5, c6, c7, rfl⟩ := list8 hl
  obtain ⟨xs, n, _, hx, _, hlen, hg⟩ := DataW.trod_struct Tryz.underlying72 h
  match xs, hlen with
  | [z0, z1, z2, z3, z4, z5, z6, z7], _ =>
    have t0 := hg 0 _ rfl
    have t1 := hg 1 _ rfl
    have t2 := hg 2 _ rfl
    have t3 := hg 3 _ rfl
    have t4 := hg 4 _ rfl
    have t5 := hg 5 _ rfl
    have t6 := hg 6 _ rfl
    have t7 := hg 7 _ rfl
    simp [Tryz.cells3, Tryz.cellsI] at t0 t1 t2 t3 t4 t5 t6 t7
    obtain ⟨q, l, m, f, e0, ag, nz, ws, _⟩ := open_i64s rfl t0
    obtain ⟨a1, e1, _, w1⟩ := DataW.trod_int Tryz.underlying3 t1
    obtain ⟨a2, e2, _, w2⟩ := DataW.trod_int Tryz.underlying3 t2
    obtain ⟨a3, e3, _, w3⟩ := DataW.trod_int Tryz.underlying3 t3
    obtain ⟨a4, e4, _, w4⟩ := DataW.trod_int Tryz.underlying3 t4
    obtain ⟨a5, e5, _, w5⟩ := DataW.trod_int Tryz.underlying3 t5
    obtain ⟨a6, e6, _, w6⟩ := DataW.trod_int Tryz.underlying3 t6
    obtain ⟨a7, e7, _, w7⟩ := DataW.trod_int Tryz.underlying3 t7
    simp at e0 e1 e2 e3 e4 e5 e6 e7
    subst e0 e1 e2 e3 e4 e5 e6 e7
    refine ⟨q, m, ⟨l, f, a1, a2, a3, a4, a5, a6, a7⟩, rfl, ag, nz, fun hw => ?_⟩
    rcases ws with h0 | ⟨es, sp, he, hls⟩
    · show l * 8 ≤ _
      omega
    · have : Wok 25 (DataW.slice es sp) := fun k hk => hw k (by
        rw [hx]
        simp only [DataW.weights, Tryz.underlying72]
        simp [DataW.weightsEach]
        left
        rw [he]
        exact hk)
      have := wok_ints this
      show l * 8 ≤ _
      omega
theorem open_parts {H : Type} {enc : TypeId × Value → H} {W : World} {fuel : Nat} {cs : List Value} {x : DataW H × List MemPlace} (hcs1 : cs.length = 1)
    (h : DataW.trod enc Tryz.prog W 0 (fun _ => true) true fuel 26 cs = some x) :
    ∃ a0 l c, ∃ (ca : Nat → Option Addr) (cc : Nat → Nat) (pf : Nat → Pa), cs = [.slice a0 l c] ∧ Prs W a0 l ca cc pf ∧ (a0 = none → l = 0 ∧ c = 0) ∧ l ≤ c ∧ (∀ i, i < l → ca i = none → (pf i).n = 0 ∧ cc i = 0) ∧
      (Wok 26 x.1 → l * 80 ≤ 140737488351232 ∧ ∀ i, i < l → (pf i).n * 8 ≤ 140737488351232) := by
  rcases DataW.trod_slice Tryz.underlying26 h with ⟨hcs, hx⟩ | ⟨a, l, c, elems, rest, n, _, hcs, hx, _, hlc, hcm, hlen, hel, _, _⟩
  · exact ⟨none, 0, 0, fun _ => none, fun _ => 0, fun _ => ⟨0, fun _ => 0, 0, 0, 0, 0, 0, 0, 0⟩, hcs, Or.inl rfl, fun _ => ⟨rfl, rfl⟩, Nat.le_refl _, fun i hi => by omega, fun _ => ⟨by omega, fun i hi => by omega⟩⟩
  · subst hcs
    have hE : ∀ i, i < l → ∃ q m, ∃ y : Pa, (∃ b off, a = ⟨b, off, none⟩ ∧ Eig W b (off + i * 8) q m y) ∧ Arg W q y.n y.f ∧ (q = none → y.n = 0 ∧ m = 0) ∧ ∃ d, elems[i]? = some d ∧ (Wok 72 d.1 → y.n * 8 ≤ 140737488351232) := fun i hi => by
      have hi2 := hel i hi
      rw [List.getElem?_eq_getElem (by omega : i < elems.length)] at hi2
      obtain ⟨cs, hcs, htr⟩ := Option.bind_eq_some_iff.1 hi2
      rw [Tryz.cellsA] at hcs
      obtain ⟨_, hl2, hcell⟩ := World.cells?_some hcs
      have hblk := World.cells?_block hcs (by omega)
      obtain ⟨q, m, y, rfl, ag, nz, wk⟩ := open_part hl2 htr
      have hspot : a.spot = none := by
        have hsp : ∀ j, j < l → (a.add (j * 8)).spot = none ∨ j ≠ 0 := fun j hj => by
          have hi0 := hel j hj
          rw [List.getElem?_eq_getElem (by omega : j < elems.length)] at hi0
          obtain ⟨cs0, hcs0, _⟩ := Option.bind_eq_some_iff.1 hi0
          rw [Tryz.cellsA] at hcs0
          obtain ⟨_, hl0, hcell0⟩ := World.cells?_some hcs0
          have hz := hcell0 0 (by omega)
          rw [List.getElem?_eq_getElem (by omega : 0 < cs0.length)] at hz
          exact Or.inl (World.cell?_spot hz)
        rcases hsp 0 (by omega) with h | h
        · rw [Nat.zero_mul] at h
          exact h
        · exact absurd rfl h
      obtain ⟨b, off, spot⟩ := a
      simp only at hspot
      subst hspot
      have hc : ∀ j, j < 8 → W.cell? ⟨b, off + i * 8 + j, none⟩ = [.slice q y.n m, .int .i64 y.o, .int .i64 y.u, .int .i64 y.t, .int .i64 y.s, .int .i64 y.r, .int .i64 y.d, .int .i64 y.z][j]? := fun j hj => by
        have := hcell j (by omega)
        rw [Go.WideShapes.add_plain, Go.WideShapes.add_plain] at this
        exact this
      refine ⟨q, m, y, ⟨b, off, rfl, ?_, hc 0 (by omega), hc 1 (by omega), hc 2 (by omega), hc 3 (by omega), hc 4 (by omega), hc 5 (by omega), hc 6 (by omega), hc 7 (by omega)⟩, ag, nz, _, List.getElem?_eq_getElem (by omega : i < elems.length), wk⟩
      rw [Go.WideShapes.add_plain] at hblk
      exact hblk
    have hW : Wok 26 x.1 → l * 80 ≤ 140737488351232 ∧ ∀ (i : Nat) (d : DataW H × List MemPlace), elems[i]? = some d → Wok 72 d.1 := fun hw => by
      rw [hx] at hw
      refine ⟨?_, fun i d hd k hk => hw k ?_⟩
      · have := hw (((elems.map (·.1)).length + (rest.map (·.1)).length) * Tryz.prog.bytesOf 72) (by simp [DataW.weights, Tryz.underlying26])
        rw [show Tryz.prog.bytesOf 72 = 80 by kernel_rfl] at this
        simp only [reachBytes, List.length_map] at this
        omega
      · simp only [DataW.weights, Tryz.underlying26]
        refine List.mem_cons_of_mem _ (List.mem_append_left _ ?_)
        have hall : ∀ (l : List (DataW H)) (d : DataW H), d ∈ l → ∀ k ∈ d.weights Tryz.prog 72, k ∈ DataW.weightsAll Tryz.prog 72 l := by
          intro l
          induction l with
          | nil => intro d hd; cases hd
          | cons e r ih =>
            intro d hd k hk
            simp only [DataW.weightsAll, List.mem_append]
            rcases List.mem_cons.1 hd with rfl | hd
            · exact Or.inl hk
            · exact Or.inr (ih d hd k hk)
        exact hall _ d.1 (List.mem_map.2 ⟨d, List.mem_of_getElem? hd, rfl⟩) k hk
    let F : ∀ i, ∃ q m, ∃ y : Pa, i < l → ((∃ b off, a = ⟨b, off, none⟩ ∧ Eig W b (off + i * 8) q m y) ∧ Arg W q y.n y.f ∧ (q = none → y.n = 0 ∧ m = 0) ∧ ∃ d, elems[i]? = some d ∧ (Wok 72 d.1 → y.n * 8 ≤ 140737488351232)) := fun i => by
      by_cases hi : i < l
      · obtain ⟨q, m, y, h⟩ := hE i hi
        exact ⟨q, m, y, fun _ => h⟩
      · exact ⟨none, 0, ⟨0, fun _ => 0, 0, 0, 0, 0, 0, 0, 0⟩, fun h => absurd h hi⟩
    refine ⟨some a, l, c, fun i => (F i).choose, fun i => (F i).choose_spec.choose, fun i => (F i).choose_spec.choose_spec.choose, rfl, ?_, (fun e => by cases e), hlc, fun i hi => ((F i).choose_spec.choose_spec.choose_spec hi).2.2.1, fun hw => ⟨(hW hw).1, fun i hi => ?_⟩⟩
    · by_cases h0 : l = 0
      · exact Or.inl h0
      · obtain ⟨⟨b, off, ha, he⟩, _⟩ := (F 0).choose_spec.choose_spec.choose_spec (by omega)
        refine Or.inr ⟨b, off, by rw [ha], he.lt, fun i hi => ?_⟩
        obtain ⟨⟨b', off', ha', he'⟩, ag, _⟩ := (F i).choose_spec.choose_spec.choose_spec hi
        rw [ha] at ha'
        cases ha'
        exact ⟨he', ag⟩
    · obtain ⟨_, _, _, d, hd, hw2⟩ := (F i).choose_spec.choose_spec.choose_spec hi
      exact hw2 ((hW hw).2 i d hd)
theorem list17 {α : Type} {l : List α} (h : l.length = 17) : ∃ c0 c1 c2 c3 c4 c5 c6 c7 c8 c9 c10 c11 c12 c13 c14 c15 c16, l = [c0, c1, c2, c3, c4, c5, c6, c7, c8, c9, c10, c11, c12, c13, c14, c15, c16] := by
  match l, h with
  | [c0, c1, c2, c3, c4, c5, c6, c7, c8, c9, c10, c11, c12, c13, c14, c15, c16], _ => exact ⟨c0, c1, c2, c3, c4, c5, c6, c7, c8, c9, c10, c11, c12, c13, c14, c15, c16, rfl⟩
theorem open_co {H : Type} {enc : TypeId × Value → H} {W : World} {fuel : Nat} {c0 c1 c2 c3 c4 c5 : Value} {x : DataW H × List MemPlace}
    (h : DataW.trod enc Tryz.prog W 0 (fun _ => true) true fuel 24 [c0, c1, c2, c3, c4, c5] = some x) :
    ∃ k : Co, [c0, c1, c2, c3, c4, c5] = [.int .u64 k.l1, .int .u64 k.llc, .int .u64 k.mi, .int .u64 k.fa, .int .u64 k.st, .int .u64 k.di] := by
  obtain ⟨xs, n, _, hx, _, hlen, hg⟩ := DataW.trod_struct Tryz.underlying24 h
  match xs, hlen with
  | [z0, z1, z2, z3, z4, z5], _ =>
    have t0 := hg 0 _ rfl
    have t1 := hg 1 _ rfl
    have t2 := hg 2 _ rfl
    have t3 := hg 3 _ rfl
    have t4 := hg 4 _ rfl
    have t5 := hg 5 _ rfl
    simp [Tryz.cellsU] at t0 t1 t2 t3 t4 t5
    obtain ⟨a0, e0, _, w0⟩ := DataW.trod_int Tryz.underlying22 t0
    obtain ⟨a1, e1, _, w1⟩ := DataW.trod_int Tryz.underlying22 t1
    obtain ⟨a2, e2, _, w2⟩ := DataW.trod_int Tryz.underlying22 t2
    obtain ⟨a3, e3, _, w3⟩ := DataW.trod_int Tryz.underlying22 t3
    obtain ⟨a4, e4, _, w4⟩ := DataW.trod_int Tryz.underlying22 t4
    obtain ⟨a5, e5, _, w5⟩ := DataW.trod_int Tryz.underlying22 t5
    simp at e0 e1 e2 e3 e4 e5
    subst e0 e1 e2 e3 e4 e5
    exact ⟨⟨a0, a1, a2, a3, a4, a5⟩, rfl⟩
theorem open_cf {H : Type} {enc : TypeId × Value → H} {W : World} {fuel : Nat} {cs : List Value} {x : DataW H × List MemPlace} (hl : cs.length = 17)
    (h : DataW.trod enc Tryz.prog W 0 (fun _ => true) true fuel 28 cs = some x) :
    ∃ a c, cs = (#[.int .i64 c.F, .int .i64 c.C, .int .i64 c.W, .int .i64 c.S, .int .i64 c.V, .int .i64 c.T, .int .u64 c.k.l1, .int .u64 c.k.llc, .int .u64 c.k.mi, .int .u64 c.k.fa, .int .u64 c.k.st, .int .u64 c.k.di, .int .u64 c.sl, .int .u64 c.pd, .int .u64 c.ft, .slice a.ta c.tn a.tc, .slice a.pa c.pn a.pc] : Array Value).toList ∧ (Wok 28 x.1 → Cin W a c) := by
  obtain ⟨c0, c1, c2, c3, c4, c5, c6, c7, c8, c9, c10, c11, c12, c13, c14, c15, c16, rfl⟩ := list17 hl
  obtain ⟨xs, n, _, hx, _, hlen, hg⟩ := DataW.trod_struct Tryz.underlying28 h
  match xs, hlen with
  | [z0, z1, z2, z3, z4, z5, z6, z7, z8, z9, z10, z11], _ =>
    have t0 := hg 0 _ rfl
    have t1 := hg 1 _ rfl
    have t2 := hg 2 _ rfl
    have t3 := hg 3 _ rfl
    have t4 := hg 4 _ rfl
    have t5 := hg 5 _ rfl
    have t6 := hg 6 _ rfl
    have t7 := hg 7 _ rfl
    have t8 := hg 8 _ rfl
    have t9 := hg 9 _ rfl
    have t10 := hg 10 _ rfl
    have t11 := hg 11 _ rfl
    simp [Tryz.cells3, Tryz.cellsI, Tryz.cellsU, Tryz.cellsC, Tryz.cellsP] at t0 t1 t2 t3 t4 t5 t6 t7 t8 t9 t10 t11
    obtain ⟨a0, e0, _, w0⟩ := DataW.trod_int Tryz.underlying3 t0
    obtain ⟨a1, e1, _, w1⟩ := DataW.trod_int Tryz.underlying3 t1
    obtain ⟨a2, e2, _, w2⟩ := DataW.trod_int Tryz.underlying3 t2
    obtain ⟨a3, e3, _, w3⟩ := DataW.trod_int Tryz.underlying3 t3
    obtain ⟨a4, e4, _, w4⟩ := DataW.trod_int Tryz.underlying3 t4
    obtain ⟨a5, e5, _, w5⟩ := DataW.trod_int Tryz.underlying3 t5
    obtain ⟨k, e6⟩ := open_co t6
    obtain ⟨a7, e7, _, w7⟩ := DataW.trod_int Tryz.underlying22 t7
    obtain ⟨a8, e8, _, w8⟩ := DataW.trod_int Tryz.underlying22 t8
    obtain ⟨a9, e9, _, w9⟩ := DataW.trod_int Tryz.underlying22 t9
    obtain ⟨qt, nt, mt, ft, e10, agt, nzt, wst, _⟩ := open_i64s rfl t10
    obtain ⟨qp, np, mp, ca, cc, pf, e11, agp, nzp, lep, czp, wsp⟩ := open_parts rfl t11
    simp at e0 e1 e2 e3 e4 e5 e6 e7 e8 e9 e10 e11
    obtain ⟨f0, f1, f2, f3, f4, f5⟩ := e6
    subst e0 e1 e2 e3 e4 e5 f0 f1 f2 f3 f4 f5 e7 e8 e9 e10 e11
    refine ⟨⟨qt, mt, qp, mp, ca, cc⟩, ⟨a0, a1, a2, a3, a4, a5, k, a7, a8, a9, nt, ft, np, pf⟩, rfl, fun hw => ?_⟩
    have hp := wsp (fun n hn => hw n (by
      rw [hx]
      simp only [DataW.weights, Tryz.underlying28]
      simp [DataW.weightsEach]
      simp [hn]))
    have ht : nt * 8 ≤ 140737488351232 := by
      rcases wst with h0 | ⟨es, sp, he, hls⟩
      · omega
      · have : Wok 25 (DataW.slice es sp) := fun n hn => hw n (by
          rw [← he] at hn
          rw [hx]
          simp only [DataW.weights, Tryz.underlying28]
          simp [DataW.weightsEach]
          simp [hn])
        have := wok_ints this
        omega
    exact ⟨agt, agp, ht, hp.1, hp.2, nzt, nzp, czp, lep, (wf_i64 w1).1, (wf_i64 w1).2, (wf_i64 w3).1, (wf_i64 w3).2⟩
theorem open_k {H : Type} {enc : TypeId × Value → H} {W : World} {base : Nat} {v : Value} {x : DataW H} {l : List MemPlace} (hv : Value.okWide Tryz.prog W .any base 28 v)
    (h : DataW.Trod enc Tryz.prog W 0 (fun _ => true) true 28 v x l) : ∃ a c, v = .agg #[.int .i64 c.F, .int .i64 c.C, .int .i64 c.W, .int .i64 c.S, .int .i64 c.V, .int .i64 c.T, .int .u64 c.k.l1, .int .u64 c.k.llc, .int .u64 c.k.mi, .int .u64 c.k.fa, .int .u64 c.k.st, .int .u64 c.k.di, .int .u64 c.sl, .int .u64 c.pd, .int .u64 c.ft, .slice a.ta c.tn a.tc, .slice a.pa c.pn a.pc] ∧ (Wok 28 x → Cin W a c) := by
  obtain ⟨cs, rfl, hsz⟩ := okWide_struct Tryz.underlying28 hv
  obtain ⟨fuel, hf⟩ := h
  obtain ⟨a, c, hcs, hw⟩ := open_cf (cs := cs.toList) (by simpa using hsz.trans Tryz.cellsK) (by simpa [Value.cells] using hf)
  refine ⟨a, c, ?_, hw⟩
  have : cs = #[.int .i64 c.F, .int .i64 c.C, .int .i64 c.W, .int .i64 c.S, .int .i64 c.V, .int .i64 c.T, .int .u64 c.k.l1, .int .u64 c.k.llc, .int .u64 c.k.mi, .int .u64 c.k.fa, .int .u64 c.k.st, .int .u64 c.k.di, .int .u64 c.sl, .int .u64 c.pd, .int .u64 c.ft, .slice a.ta c.tn a.tc, .slice a.pa c.pn a.pc] := by
    apply Array.ext'
    rw [hcs]
  rw [this]
end Go.Proofs.YtiegcncpgjnpbaaGreat
