/- A partition written into the copy's own row; no condition. -/
import Derived.Test.YtcmgjinjfaialaaCy
import Derived.Test.YtcmgjinjfaialaaLe
namespace Go.Proofs.Ytcmgjinjfaialaa
open Go.ChangeShapes Go.WideShapes Go.ChangeAt Go.RowKit
set_option linter.unusedVariables false

/-- Eight cells written. -/
def wr8 (w : World) (g o : Nat) (q : Option Addr) (m : Nat) (y : Pa) : World :=
  (((((((w.setCell ⟨g, o, none⟩ (.slice q y.n m)).setCell ⟨g, o + 1, none⟩ (.int .i64 y.o)).setCell ⟨g, o + 2, none⟩ (.int .i64 y.u)).setCell ⟨g, o + 3, none⟩ (.int .i64 y.t)).setCell ⟨g, o + 4, none⟩ (.int .i64 y.s)).setCell ⟨g, o + 5, none⟩ (.int .i64 y.r)).setCell ⟨g, o + 6, none⟩ (.int .i64 y.d)).setCell ⟨g, o + 7, none⟩ (.int .i64 y.z)
theorem wr8_ne {w : World} {g o b : Nat} {q : Option Addr} {m : Nat} {y : Pa} (h : b ≠ g) : (wr8 w g o q m y).heap[b]? = w.heap[b]? := by
  unfold wr8
  simp only [heap_set_ne h]
theorem wr8_blk {w : World} {g o : Nat} {q : Option Addr} {m : Nat} {y : Pa} {ty : TypeId} {L : List Value} (h : Blk w g ty L) :
    Blk (wr8 w g o q m y) g ty ((((((((L.set o (.slice q y.n m)).set (o + 1) (.int .i64 y.o)).set (o + 2) (.int .i64 y.u)).set (o + 3) (.int .i64 y.t)).set (o + 4) (.int .i64 y.s)).set (o + 5) (.int .i64 y.r)).set (o + 6) (.int .i64 y.d)).set (o + 7) (.int .i64 y.z)) :=
  (((((((h.set o _).set (o + 1) _).set (o + 2) _).set (o + 3) _).set (o + 4) _).set (o + 5) _).set (o + 6) _).set (o + 7) _
theorem wr8_other {w : World} {g o i : Nat} {q : Option Addr} {m : Nat} {y : Pa} {ty : TypeId} {L : List Value} (h : Blk w g ty L) (hi : i < o ∨ o + 8 ≤ i) : (wr8 w g o q m y).cell? ⟨g, i, none⟩ = w.cell? ⟨g, i, none⟩ := by
  rw [(wr8_blk h).cell, h.cell]
  simp only [List.getElem?_set]
  repeat rw [if_neg (by omega)]
theorem wr8_eig {w : World} {g o : Nat} {q : Option Addr} {m : Nat} {y : Pa} {ty : TypeId} {L : List Value} (h : Blk w g ty L) (hl : o + 8 ≤ L.length) : Eig (wr8 w g o q m y) g o q m y := by
  have hc := (wr8_blk (o := o) (q := q) (m := m) (y := y) h).cell
  refine ⟨(wr8_blk h).lt, ?_, ?_, ?_, ?_, ?_, ?_, ?_, ?_⟩ <;> rw [hc] <;> simp [List.getElem?_set] <;> omega
theorem wr8_below {w0 w : World} {B g o : Nat} {q : Option Addr} {m : Nat} {y : Pa} (h : Below B w0 w) (hg : B ≤ g) (hB : B ≤ w.heap.size) : Below B w0 (wr8 w g o q m y) := by
  have step : ∀ {w : World} (i : Nat) (v : Value), Below B w0 w ∧ B ≤ w.heap.size → Below B w0 (w.setCell ⟨g, i, none⟩ v) ∧ B ≤ (w.setCell ⟨g, i, none⟩ v).heap.size := fun {w} i v hw => ⟨hw.1.trans (below_setCell hg hw.2 i v), Nat.le_trans hw.2 (grown_setCell' w g i v).size⟩
  exact (step _ _ (step _ _ (step _ _ (step _ _ (step _ _ (step _ _ (step _ _ (step _ _ ⟨h, hB⟩)))))))).1
theorem Arg.wr8 {w : World} {g o : Nat} {q : Option Addr} {m : Nat} {y : Pa} {ao : Option Addr} {l : Nat} {f : Nat → Int} (h : Arg w ao l f) (hne : ∀ ad, ao = some ad → ad.block ≠ g) (hs : w.heap.size ≤ (wr8 w g o q m y).heap.size) : Arg (wr8 w g o q m y) ao l f := by
  rcases h with h | ⟨b, off, e, h1, h2⟩
  · exact Or.inl h
  · have hb : b ≠ g := hne _ e
    refine Or.inr ⟨b, off, e, by omega, fun i hi => ?_⟩
    rw [← h2 i hi]
    simp only [World.cell?]
    rw [wr8_ne hb]
theorem less_cin {w2 w3 wr : World} {c : Cf} {b : Ad} {k : Nat} {y : Pa} (h : Cpd w2 c w3 b) (kw : Below w3.heap.size w3 wr) (hk : k < c.pn) (hl : Lo y (c.pf k)) :
    ∃ g L, b.pa = some ⟨g, 0, none⟩ ∧ w2.heap.size ≤ g ∧ g < w3.heap.size ∧ Blk wr g 52 L ∧ Cin (wr8 wr g (k * 8) (b.ca k) (b.cc k) y) b (put c k y) := by
  have ci := h.ci.below kw
  rcases h.ow with ⟨h0, ⟨e, h1⟩ | ⟨g, cap, cur, e, h2, h3, h4, h5, h6, h7⟩⟩
  · omega
  · have hcap : c.pn ≤ cap := h4
    have epa : b.pa = some ⟨g, 0, none⟩ := by injection e
    have hlt : g < w3.heap.size := (Array.getElem?_eq_some_iff.1 h3).1
    have hB3 : Blk w3 g 52 cur.toList := h3
    have hB : Blk wr g 52 cur.toList := hB3.below kw
    have hlen : cur.toList.length = cap * 8 := by simpa using h6
    have hsz : wr.heap.size ≤ (wr8 wr g (k * 8) (b.ca k) (b.cc k) y).heap.size := (wr8_below (B := 0) (o := k * 8) (q := b.ca k) (m := b.cc k) (y := y) (g := g) (Below.refl 0 wr) (by omega) (by omega)).size
    have own : (Value.slice b.pa c.pn b.pc).ownBlock = some g := by rw [epa]; rfl
    have nco : ∀ i, i < c.pn → ∀ ad, b.ca i = some ad → ad.block ≠ g := fun i hi ad ha e2 => (h.co i hi ad ha).2 (by rw [own, e2])
    have ntu : ∀ ad, b.ta = some ad → ad.block ≠ g := fun ad ha e2 => (h.tu ad ha).2 (by rw [own, e2])
    have hn := fun i => (put_nf hl i).1
    have hf := fun i => (put_nf hl i).2
    refine ⟨g, cur.toList, epa, h2, hlt, hB, ⟨ci.t.wr8 ntu hsz, ?_, ci.tl, ci.pl, ?_, ci.tz, ci.pz, ?_, ci.ple, ci.C0, ci.C1, ci.S0, ci.S1⟩⟩
    · refine Or.inr ⟨g, 0, epa, by have := hB.lt; omega, fun i hi => ⟨?_, ?_⟩⟩
      · by_cases e3 : i = k
        · subst e3
          rw [put_same, Nat.zero_add]
          exact wr8_eig hB (by omega)
        · rw [put_other c y e3]
          obtain ⟨bb, oo, e4, he⟩ := ci.p.at' hi
          rw [epa] at e4
          cases e4
          obtain ⟨q0, q1, q2, q3, q4, q5, q6, q7, q8⟩ := he
          have ho : ∀ j, j < 8 → (wr8 wr g (k * 8) (b.ca k) (b.cc k) y).cell? ⟨g, 0 + i * 8 + j, none⟩ = wr.cell? ⟨g, 0 + i * 8 + j, none⟩ := fun j hj => wr8_other hB (by omega)
          exact ⟨by omega, (ho 0 (by omega)).trans q1, (ho 1 (by omega)).trans q2, (ho 2 (by omega)).trans q3, (ho 3 (by omega)).trans q4, (ho 4 (by omega)).trans q5, (ho 5 (by omega)).trans q6, (ho 6 (by omega)).trans q7, (ho 7 (by omega)).trans q8⟩
      · rw [hn, hf]
        exact (ci.p.col hi).wr8 (nco i hi) hsz
    · intro i hi
      rw [hn]
      exact ci.cl i hi
    · intro i hi
      rw [hn]
      exact ci.cz i hi
end Go.Proofs.Ytcmgjinjfaialaa
