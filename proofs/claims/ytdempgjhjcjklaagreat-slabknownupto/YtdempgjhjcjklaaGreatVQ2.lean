/- What the closure that notes faults leaves; what plan's Check gives back; no condition but that a configuration lies in memory. -/
import Derived.Test.YtdempgjhjcjklaaGreatVQ1
import Derived.Test.YtdempgjhjcjklaaGreatVCa
namespace Go.Proofs.YtdempgjhjcjklaaGreat
open Go.ChangeShapes Go.WideShapes Go.ChangeAt Go.RowKit
set_option linter.unusedVariables false

/-- The box of the faults and their row. -/
structure Nb (W : World) (g : Nat) (v : Value) (L : List (Int × Int)) : Prop where
  bx : Blk W g 173 [v]
  fs : Fs W (g + 1) v L
/-- What the closure turns: the box, the row's block, nothing else. -/
structure Kn (w w' : World) (g : Nat) (r : Option Nat) : Prop where
  os : w'.os = w.os
  tape : w'.tape = w.tape
  output : w'.output = w.output
  size : w.heap.size ≤ w'.heap.size
  block : ∀ i, i < w.heap.size → i ≠ g → some i ≠ r → w'.heap[i]? = w.heap[i]?
theorem fs_shape {w : World} {base : Nat} {v : Value} {L : List (Int × Int)} (h : Fs w base v L) : ∃ a n c, v = .slice a n c := by
  rcases h with ⟨_, ⟨rfl, _⟩ | ⟨g, cap, cur, rfl, _⟩⟩
  · exact ⟨_, _, _, rfl⟩
  · exact ⟨_, _, _, rfl⟩
theorem owns_of_eq {w w' : World} {base : Nat} {e : TypeId} {s : Nat} {v : Value} {n : Nat} {L : List Value} (h : w.ownsRow base e s v n L) (k : ∀ t, v.ownBlock = some t → w'.heap[t]? = w.heap[t]?) : w'.ownsRow base e s v n L := by
  rcases h with ⟨h0, h⟩
  refine ⟨h0, ?_⟩
  rcases h with h | ⟨g, cap, cur, h1, h2, h3, h4⟩
  · exact Or.inl h
  · exact Or.inr ⟨g, cap, cur, h1, h2, (k g (by rw [h1]; rfl)).trans h3, h4⟩
set_option maxRecDepth 20000 in
set_option maxHeartbeats 1000000 in
theorem note_any {W : World} {g : Nat} {v : Value} {L : List (Int × Int)} (h : Nb W g v L) (hL : L.length ≤ 12) (at' e : Int) :
    Calls Tryz.prog 132 #[.int .i64 at', .int .i64 e, .pointer (some ⟨g, 0, none⟩)] W fun x W' => x = .returned (.tuple #[]) ∧ ∃ v', Nb W' g v' (L ++ fl e at') ∧ Kn W W' g v.ownBlock ∧ (∀ t, v'.ownBlock = some t → v.ownBlock = some t ∨ W.heap.size ≤ t) := by
  by_cases he : e = 0
  · subst he
    have FIN : Hid (Nb W g v (L ++ fl 0 at')) := by unfold Hid; rw [fl_zero, List.append_nil]; exact h
    clear h
    go_enter Tryz.func132, Tryz.ntmps132
    go_wp2
    go_end0
    exact ⟨rfl, v, FIN.out, ⟨rfl, rfl, rfl, Nat.le_refl _, fun _ _ _ _ => rfl⟩, fun t ht => Or.inl ht⟩
  · obtain ⟨i0, hi0, hz0, hz1, hz2⟩ := info_parts Tryz.infoF
    obtain ⟨va, vn, vc, rfl⟩ := fs_shape h.fs
    have hlt := h.bx.lt
    have c0 : W.cell? ⟨g, 0, none⟩ = some (.slice va vn vc) := h.bx.cell 0
    have he2 : (e != 0) = true := by simp [he]
    have HF : Hid (fl e at' = [(e, at')]) := by unfold Hid fl; rw [if_neg he]
    have HN : Hid (Nb W g (.slice va vn vc) L) := h
    have HA : Hid ((W.alloc (.cells #[.int .i64 e, .int .i64 at'] 187)).ownsRow (g + 1) 187 2 (.slice va vn vc) L.length (enF L)) := h.fs.alloc _
    clear h
    go_enter Tryz.func132, Tryz.ntmps132
    go_wp2_with (at_builtin; refine wpList_append_lies _ rfl (.tmp 7) (.tmp 11) 173 rfl (g + 1) 187 i0 _ 2 16 Tryz.underlying173 hi0 hz0 hz1 hz2 rfl (by decide) _ L.length (enF L) rfl HA.out ⟨W.heap.size, 0, none⟩ 1 1 [.int .i64 e, .int .i64 at'] rfl rfl (cell_two_new _ _ _ _) (by intro u hu; simp at hu; rcases hu with rfl | rfl <;> rfl) (by omega) (by unfold maxLen; omega) (by omega) (by simp; omega) (W.heap.size + 1) (by simp) ?_; intro g3 k3 w3 o3 gr3 at3 lt3; have HB3 : Hid (Blk w3 g 173 [.slice va vn vc]) := ((HN.out.bx.alloc _).of_eq (gr3.block g (by simp; omega) (fun e => by have := (HN.out.fs.lt g e.symm).1; omega))); have z0 : w3.cell? ⟨g, 0, none⟩ = some (.slice va vn vc) := HB3.out.cell 0; have z1 : w3.frozen? ⟨g, 0, none⟩ = false := HB3.out.frozen 0; have HGR : Hid ((W.alloc (.cells #[.int .i64 e, .int .i64 at'] 187)).grownBy w3 (Value.slice va vn vc).ownBlock) := gr3; have HO3 : Hid (w3.ownsRow (g + 1) 187 2 (.slice (some ⟨g3, 0, none⟩) (L.length + 1) k3) (L.length + 1) (enF L ++ [.int .i64 e, .int .i64 at'])) := o3; clear gr3 o3 c0 HA)
    go_end0
    have hg3 : g + 1 ≤ g3 := (HO3.out.lt g3 rfl).1
    refine ⟨rfl, .slice (some ⟨g3, 0, none⟩) (L.length + 1) k3, ⟨HB3.out.set 0 _, ?_⟩, ⟨HGR.out.os, HGR.out.tape, HGR.out.output, ?_, ?_⟩, ?_⟩
    · rw [HF.out]
      unfold Fs
      rw [List.length_append, enF_append]
      have hne : ∀ t, (Value.slice (some ⟨g3, 0, none⟩) (L.length + 1) k3).ownBlock = some t → t ≠ g := fun t ht => by
        obtain rfl : g3 = t := by simpa [Value.ownBlock] using ht
        omega
      exact owns_of_eq HO3.out (fun t ht => heap_set_ne (hne t ht) _ _)
    · have h1 := HGR.out.size
      have h2 : (W.alloc (.cells #[.int .i64 e, .int .i64 at'] 187)).heap.size = W.heap.size + 1 := by simp
      have h3 : w3.heap.size ≤ (w3.setCell ⟨g, 0, none⟩ (.slice (some ⟨g3, 0, none⟩) (L.length + 1) k3)).heap.size := (grown_setCell' w3 g 0 _).size
      omega
    · intro i hi hne hr
      rw [heap_set_ne hne]
      exact (HGR.out.block i (by simp; omega) hr).trans ((below_new W _).block i hi)
    · intro t ht
      obtain rfl : g3 = t := by simpa [Value.ownBlock] using ht
      rcases at3 with h | h
      · exact Or.inl h
      · exact Or.inr (by omega)
/-! ### Check -/
/-- Check's state: a configuration's box, the faults' box and row, the errnos' row, beside what was there. -/
structure Sc (w0 w : World) (a : Ad) (c : Cf) (v : Value) (L : List (Int × Int)) : Prop where
  be : Below w0.heap.size w0 w
  bx : Sev w w0.heap.size a c
  ci0 : Cin w0 a c
  nb : Nb w (w0.heap.size + 1) v L
theorem Sc.ci {w0 w : World} {a : Ad} {c : Cf} {v : Value} {L : List (Int × Int)} (h : Sc w0 w a c v L) : Cin w a c := h.ci0.below h.be
theorem Nb.below {w w' : World} {g : Nat} {v : Value} {L : List (Int × Int)} (h : Nb w g v L) (k : Below w.heap.size w w') : Nb w' g v L :=
  ⟨h.bx.below k, owns_of_eq h.fs fun t ht => k.block t (h.fs.lt t ht).2⟩
theorem Sc.below {w0 w w' : World} {a : Ad} {c : Cf} {v : Value} {L : List (Int × Int)} (h : Sc w0 w a c v L) (k : Below w.heap.size w w') : Sc w0 w' a c v L :=
  ⟨h.be.trans (k.mono h.be.size), h.bx.below k, h.ci0, h.nb.below k⟩
theorem Sev.of_eq {w w' : World} {g : Nat} {a : Ad} {c : Cf} (h : Sev w g a c) (e : w'.heap[g]? = w.heap[g]?) (hs : g < w'.heap.size) : Sev w' g a c := by
  have hc : ∀ i, w'.cell? ⟨g, i, none⟩ = w.cell? ⟨g, i, none⟩ := fun i => World.cell?_of_block e
  exact ⟨hs, (hc 0).trans h.c0, (hc 1).trans h.c1, (hc 2).trans h.c2, (hc 3).trans h.c3, (hc 4).trans h.c4, (hc 5).trans h.c5, (hc 6).trans h.c6, (hc 7).trans h.c7, (hc 8).trans h.c8, (hc 9).trans h.c9, (hc 10).trans h.c10, (hc 11).trans h.c11, (hc 12).trans h.c12, (hc 13).trans h.c13, (hc 14).trans h.c14, (hc 15).trans h.c15, (hc 16).trans h.c16⟩
theorem Sc.noted {w0 w w' : World} {a : Ad} {c : Cf} {v v' : Value} {L L' : List (Int × Int)} (h : Sc w0 w a c v L) (k : Kn w w' (w0.heap.size + 1) v.ownBlock) (n : Nb w' (w0.heap.size + 1) v' L') : Sc w0 w' a c v' L' := by
  refine ⟨h.be.trans ⟨k.os, k.tape, k.output, k.size, fun i hi => k.block i (Nat.lt_of_lt_of_le hi h.be.size) (by omega) (fun e => by have := (h.nb.fs.lt i e.symm).1; omega)⟩, ?_, h.ci0, n⟩
  exact h.bx.of_eq (k.block _ h.bx.lt (by omega) (fun e => by have := (h.nb.fs.lt _ e.symm).1; omega)) (Nat.lt_of_lt_of_le h.bx.lt k.size)
/-- A block that the closure leaves alone. -/
theorem Kn.blk {w w' : World} {g e : Nat} {r : Option Nat} {ty : TypeId} {M : List Value} (k : Kn w w' g r) (h : Blk w e ty M) (h1 : e ≠ g) (h2 : some e ≠ r) : Blk w' e ty M := h.of_eq (k.block e h.lt h1 h2)
theorem Cin.up {w w' : World} {a : Ad} {c : Cf} {B : Nat} (h : Cin w a c) (k : Below B w w') (hB : w.heap.size ≤ B) : Cin w' a c := h.below (k.mono hB)
theorem sc_new {w : World} {a : Ad} {c : Cf} (h : Cin w a c) : Sc w ((w.alloc (.cells #[.int .i64 c.F, .int .i64 c.C, .int .i64 c.W, .int .i64 c.S, .int .i64 c.V, .int .i64 c.T, .int .u64 c.k.l1, .int .u64 c.k.llc, .int .u64 c.k.mi, .int .u64 c.k.fa, .int .u64 c.k.st, .int .u64 c.k.di, .int .u64 c.sl, .int .u64 c.pd, .int .u64 c.ft, .slice a.ta c.tn a.tc, .slice a.pa c.pn a.pc] 28)).alloc (.cells #[.slice none 0 0] 173)) a c (.slice none 0 0) [] :=
  ⟨below_two _ _ _, (sev_new w a c).below (below_new _ _), h, ⟨by simpa using blk_new (w.alloc (.cells #[.int .i64 c.F, .int .i64 c.C, .int .i64 c.W, .int .i64 c.S, .int .i64 c.V, .int .i64 c.T, .int .u64 c.k.l1, .int .u64 c.k.llc, .int .u64 c.k.mi, .int .u64 c.k.fa, .int .u64 c.k.st, .int .u64 c.k.di, .int .u64 c.sl, .int .u64 c.pd, .int .u64 c.ft, .slice a.ta c.tn a.tc, .slice a.pa c.pn a.pc] 28)) [.slice none 0 0] 173, Fs.nil _ _⟩⟩
/-- What Check gives back. -/
def Chk (c : Cf) (w : World) (x : Ending) (w' : World) : Prop := ∃ v, x = .returned v ∧ Fs w' w.heap.size v (chk c) ∧ Below w.heap.size w w'
theorem fs_less {w : World} {b b' : Nat} {v : Value} {L : List (Int × Int)} (h : Fs w b v L) (hb : b' ≤ b) : Fs w b' v L := by
  rcases h with ⟨h0, h⟩
  refine ⟨h0, ?_⟩
  rcases h with h | ⟨g, cap, cur, h1, h2, h3⟩
  · exact Or.inl h
  · exact Or.inr ⟨g, cap, cur, h1, Nat.le_trans hb h2, h3⟩
end Go.Proofs.YtdempgjhjcjklaaGreat
