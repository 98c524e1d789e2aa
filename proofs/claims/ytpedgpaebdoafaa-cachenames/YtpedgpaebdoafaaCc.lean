/- A cache that lies in a world: its struct, its row of sets, each set a row of its own; what keeps it, and what turns one set. -/
import Derived.Test.YtpedgpaebdoafaaCh
namespace Go.Proofs.Ytpedgpaebdoafaa
open Go.ChangeShapes Go.WideShapes Go.ChangeAt Go.RowKit
set_option linter.unusedVariables false

/-- A set's tags, as a slice of its own. -/
def Own (w : World) (v : Value) (l : List Int) : Prop := w.ownsRow 0 32 1 v l.length (tv l)
theorem Own.nil (w : World) : Own w (.slice none 0 0) [] := World.ownsRow_nil w 0 32 1
theorem Own.shape {w : World} {v : Value} {l : List Int} (h : Own w v l) : (v = .slice none 0 0 ∧ l = []) ∨ ∃ g cap L, v = .slice (some ⟨g, 0, none⟩) l.length cap ∧ Blk w g 32 L ∧ l.length ≤ cap ∧ cap ≤ maxLen ∧ L.length = cap ∧ L.take l.length = tv l := by
  rcases h.2 with ⟨h1, h2⟩ | ⟨g, cap, cur, h1, h2, h3, h4, h5, h6, h7⟩
  · exact Or.inl ⟨h1, List.eq_nil_of_length_eq_zero h2⟩
  · refine Or.inr ⟨g, cap, cur.toList, h1, ?_, h4, h5, by simpa using h6, by simpa using h7⟩
    unfold Blk
    simpa using h3
theorem Own.of_blk {w : World} {g cap : Nat} {L : List Value} {l : List Int} (h : Blk w g 32 L) (h1 : l.length ≤ cap) (h2 : cap ≤ maxLen) (h3 : L.length = cap) (h4 : L.take l.length = tv l) : Own w (.slice (some ⟨g, 0, none⟩) l.length cap) l :=
  ⟨by simp [tv], Or.inr ⟨g, cap, L.toArray, rfl, Nat.zero_le _, h, h1, h2, by simpa using h3, by simpa using h4⟩⟩
theorem Own.of_eq {w w' : World} {v : Value} {l : List Int} (h : Own w v l) (e : ∀ g, v.ownBlock = some g → w'.heap[g]? = w.heap[g]?) : Own w' v l := by
  refine ⟨h.1, ?_⟩
  rcases h.2 with h1 | ⟨g, cap, cur, h1, h2, h3, h4⟩
  · exact Or.inl h1
  · subst h1
    exact Or.inr ⟨g, cap, cur, rfl, h2, (e g rfl).trans h3, h4⟩
theorem Own.lt {w : World} {v : Value} {l : List Int} (h : Own w v l) : ∀ g, v.ownBlock = some g → g < w.heap.size := by
  intro g hg
  rcases h.shape with ⟨rfl, _⟩ | ⟨g', cap, L, rfl, hb, _⟩
  · cases hg
  · cases hg
    exact hb.lt
/-- The cache at p: its sets' row at b, the i-th set's slice V i, its tags f i. -/
structure Cch (w : World) (p b n ways : Nat) (V : Nat → Value) (f : Nat → List Int) : Prop where
  lt : p < w.heap.size
  c0 : w.cell? ⟨p, 0, none⟩ = some (.int .i64 ways)
  c1 : w.cell? ⟨p, 1, none⟩ = some (.slice (some ⟨b, 0, none⟩) n n)
  z1 : w.frozen? ⟨p, 1, none⟩ = false
  blt : b < w.heap.size
  row : ∀ i, i < n → w.cell? ⟨b, i, none⟩ = some (V i)
  fz : ∀ i, i < n → w.frozen? ⟨b, i, none⟩ = false
  own : ∀ i, i < n → Own w (V i) (f i)
  ne : p ≠ b
  vp : ∀ i, i < n → (V i).ownBlock ≠ some p
  vb : ∀ i, i < n → (V i).ownBlock ≠ some b
  inj : ∀ i j g, i < n → j < n → i ≠ j → (V i).ownBlock = some g → (V j).ownBlock ≠ some g
  len : ∀ i, i < n → (f i).length ≤ ways
  nod : ∀ i, i < n → (f i).Nodup
  ok : ∀ i, i < n → okT (f i)
  w1 : 1 ≤ ways
  w16 : ways ≤ 16
  n1 : 1 ≤ n
  n4 : n ≤ 4096
/-- What turned lies in F, or is new; what is then the cache's lies in F', which is of F or new. -/
structure Kp (F F' : Nat → Prop) (w w' : World) : Prop where
  os : w'.os = w.os
  tape : w'.tape = w.tape
  output : w'.output = w.output
  size : w.heap.size ≤ w'.heap.size
  block : ∀ k, k < w.heap.size → ¬ F k → w'.heap[k]? = w.heap[k]?
  new : ∀ k, F' k → F k ∨ w.heap.size ≤ k
/-- A cache whose blocks all lie in F. -/
def Ca (w : World) (F : Nat → Prop) (p n ways : Nat) (f : Nat → List Int) : Prop :=
  (∀ k, F k → k < w.heap.size) ∧ ∃ b V, Cch w p b n ways V f ∧ F p ∧ F b ∧ ∀ i g, i < n → (V i).ownBlock = some g → F g
theorem Kp.below {F F' : Nat → Prop} {w w' : World} (h : Kp F F' w w') (B : Nat) (hB : B ≤ w.heap.size) (hF : ∀ k, F k → B ≤ k) : Below B w w' :=
  ⟨h.os, h.tape, h.output, h.size, fun k hk => h.block k (by omega) (fun e => by have := hF k e; omega)⟩
theorem Kp.refl (F : Nat → Prop) (w : World) : Kp F F w w := ⟨rfl, rfl, rfl, Nat.le_refl _, fun _ _ _ => rfl, fun _ h => Or.inl h⟩
theorem Kp.of_grown {F F' : Nat → Prop} {w w' : World} {row : Option Nat} (h : w.grownBy w' row) (hr : ∀ g, row = some g → F g) (hn : ∀ k, F' k → F k ∨ w.heap.size ≤ k) : Kp F F' w w' :=
  ⟨h.os, h.tape, h.output, h.size, fun k hk hF => h.block k hk (by intro e; exact hF (hr k e.symm)), hn⟩
theorem Kp.trans {F F' F'' : Nat → Prop} {a b c : World} (h : Kp F F' a b) (k : Kp F' F'' b c) : Kp F F'' a c :=
  ⟨k.os.trans h.os, k.tape.trans h.tape, k.output.trans h.output, Nat.le_trans h.size k.size,
   fun i hi hF => (k.block i (Nat.lt_of_lt_of_le hi h.size) (fun e => by rcases h.new i e with q | q; exact hF q; omega)).trans (h.block i hi hF),
   fun i hi => by
    rcases k.new i hi with q | q
    · exact h.new i q
    · exact Or.inr (Nat.le_trans h.size q)⟩
theorem Cch.of_eq {w w' : World} {p b n ways : Nat} {V : Nat → Value} {f : Nat → List Int} (h : Cch w p b n ways V f) (hs : w.heap.size ≤ w'.heap.size) (ep : w'.heap[p]? = w.heap[p]?) (eb : w'.heap[b]? = w.heap[b]?) (eV : ∀ i g, i < n → (V i).ownBlock = some g → w'.heap[g]? = w.heap[g]?) : Cch w' p b n ways V f :=
  ⟨Nat.lt_of_lt_of_le h.lt hs, (World.cell?_of_block (w := w) (a := ⟨p, 0, none⟩) ep).trans h.c0, (World.cell?_of_block (w := w) (a := ⟨p, 1, none⟩) ep).trans h.c1, (World.frozen?_of_block (w := w) (a := ⟨p, 1, none⟩) ep).trans h.z1, Nat.lt_of_lt_of_le h.blt hs,
   fun i hi => (World.cell?_of_block (w := w) (a := ⟨b, i, none⟩) eb).trans (h.row i hi), fun i hi => (World.frozen?_of_block (w := w) (a := ⟨b, i, none⟩) eb).trans (h.fz i hi),
   fun i hi => (h.own i hi).of_eq (fun g hg => eV i g hi hg), h.ne, h.vp, h.vb, h.inj, h.len, h.nod, h.ok, h.w1, h.w16, h.n1, h.n4⟩
theorem Ca.of_eq {w w' : World} {F : Nat → Prop} {p n ways : Nat} {f : Nat → List Int} (h : Ca w F p n ways f) (hs : w.heap.size ≤ w'.heap.size) (e : ∀ k, F k → w'.heap[k]? = w.heap[k]?) : Ca w' F p n ways f := by
  obtain ⟨h1, b, V, hC, hp, hb, hV⟩ := h
  exact ⟨fun k hk => Nat.lt_of_lt_of_le (h1 k hk) hs, b, V, hC.of_eq hs (e p hp) (e b hb) (fun i g hi hg => e g (hV i g hi hg)), hp, hb, hV⟩
/-- What turned elsewhere. -/
theorem Ca.kept {w w' : World} {F G G' : Nat → Prop} {p n ways : Nat} {f : Nat → List Int} (h : Ca w F p n ways f) (k : Kp G G' w w') (hd : ∀ k, F k → ¬ G k) : Ca w' F p n ways f :=
  h.of_eq k.size (fun i hi => k.block i (h.1 i hi) (hd i hi))
theorem Ca.grown {w w' : World} {F : Nat → Prop} {p n ways : Nat} {f : Nat → List Int} {row : Option Nat} (h : Ca w F p n ways f) (k : w.grownBy w' row) (hd : ∀ k, F k → some k ≠ row) : Ca w' F p n ways f :=
  h.of_eq k.size (fun i hi => k.block i (h.1 i hi) (hd i hi))
theorem Ca.below {w w' : World} {F : Nat → Prop} {p n ways : Nat} {f : Nat → List Int} (h : Ca w F p n ways f) (k : Below w.heap.size w w') : Ca w' F p n ways f :=
  h.of_eq k.size (fun i hi => k.block i (h.1 i hi))
theorem Ca.congr {w : World} {F : Nat → Prop} {p n ways : Nat} {f f' : Nat → List Int} (h : Ca w F p n ways f) (e : ∀ i, i < n → f i = f' i) : Ca w F p n ways f' := by
  obtain ⟨h1, b, V, hC, hp, hb, hV⟩ := h
  refine ⟨h1, b, V, ⟨hC.lt, hC.c0, hC.c1, hC.z1, hC.blt, hC.row, hC.fz, fun i hi => by rw [← e i hi]; exact hC.own i hi, hC.ne, hC.vp, hC.vb, hC.inj, fun i hi => by rw [← e i hi]; exact hC.len i hi, fun i hi => by rw [← e i hi]; exact hC.nod i hi, fun i hi => by rw [← e i hi]; exact hC.ok i hi, hC.w1, hC.w16, hC.n1, hC.n4⟩, hp, hb, hV⟩
/-- One set turned: its slice, old or new, its tags. -/
theorem Cch.turn {w w' : World} {p b n ways : Nat} {V : Nat → Value} {f : Nat → List Int} (h : Cch w p b n ways V f) (i : Nat) (hi : i < n) (v' : Value) (l' : List Int) (hs : w.heap.size ≤ w'.heap.size)
    (hk : ∀ k, k < w.heap.size → k ≠ b → some k ≠ (V i).ownBlock → w'.heap[k]? = w.heap[k]?)
    (hr : ∀ j, j < n → w'.cell? ⟨b, j, none⟩ = some (put V i v' j)) (hf : ∀ j, j < n → w'.frozen? ⟨b, j, none⟩ = false)
    (ho : Own w' v' l') (hv : ∀ g, v'.ownBlock = some g → (V i).ownBlock = some g ∨ w.heap.size ≤ g)
    (hl : l'.length ≤ ways) (hn : l'.Nodup) (hok : okT l') : Cch w' p b n ways (put V i v') (put f i l') := by
  have ep : w'.heap[p]? = w.heap[p]? := hk p h.lt h.ne (fun e => h.vp i hi e.symm)
  have hlt : ∀ j g, j < n → (V j).ownBlock = some g → g < w.heap.size := fun j g hj hg => (h.own j hj).lt g hg
  have pv : ∀ j, j < n → ∀ g, (put V i v' j).ownBlock = some g → (j = i ∧ w.heap.size ≤ g) ∨ (V j).ownBlock = some g := by
    intro j hj g hg
    by_cases e : j = i
    · subst e
      rw [put_same] at hg
      rcases hv g hg with q | q
      · exact Or.inr q
      · exact Or.inl ⟨rfl, q⟩
    · rw [put_other _ _ _ _ e] at hg
      exact Or.inr hg
  refine ⟨Nat.lt_of_lt_of_le h.lt hs, (World.cell?_of_block (w := w) (a := ⟨p, 0, none⟩) ep).trans h.c0, (World.cell?_of_block (w := w) (a := ⟨p, 1, none⟩) ep).trans h.c1, (World.frozen?_of_block (w := w) (a := ⟨p, 1, none⟩) ep).trans h.z1, Nat.lt_of_lt_of_le h.blt hs, hr, hf, ?_, h.ne, ?_, ?_, ?_, ?_, ?_, ?_, h.w1, h.w16, h.n1, h.n4⟩
  · intro j hj
    by_cases e : j = i
    · subst e
      rw [put_same, put_same]
      exact ho
    · rw [put_other _ _ _ _ e, put_other _ _ _ _ e]
      refine (h.own j hj).of_eq (fun g hg => hk g (hlt j g hj hg) (fun q => h.vb j hj (q ▸ hg)) (fun q => h.inj j i g hj hi e hg q.symm))
  · intro j hj q
    rcases pv j hj p q with ⟨_, q2⟩ | q2
    · have := h.lt; omega
    · exact h.vp j hj q2
  · intro j hj q
    rcases pv j hj b q with ⟨_, q2⟩ | q2
    · have := h.blt; omega
    · exact h.vb j hj q2
  · intro j k g hj hk' hne q q'
    rcases pv j hj g q with ⟨e1, q2⟩ | q2
    · rcases pv k hk' g q' with ⟨e2, _⟩ | q3
      · omega
      · have := hlt k g hk' q3; omega
    · rcases pv k hk' g q' with ⟨e2, q3⟩ | q3
      · have := hlt j g hj q2; omega
      · exact h.inj j k g hj hk' hne q2 q3
  · intro j hj
    by_cases e : j = i
    · subst e; rw [put_same]; exact hl
    · rw [put_other _ _ _ _ e]; exact h.len j hj
  · intro j hj
    by_cases e : j = i
    · subst e; rw [put_same]; exact hn
    · rw [put_other _ _ _ _ e]; exact h.nod j hj
  · intro j hj
    by_cases e : j = i
    · subst e; rw [put_same]; exact hok
    · rw [put_other _ _ _ _ e]; exact h.ok j hj
/-- The cache's turn, by its blocks. -/
theorem Ca.turned {w w' : World} {F : Nat → Prop} {p b n ways : Nat} {V V' : Nat → Value} {f' : Nat → List Int} (h1 : ∀ k, F k → k < w.heap.size) (hp : F p) (hb : F b) (hV : ∀ i g, i < n → (V i).ownBlock = some g → F g)
    (hs : w.heap.size ≤ w'.heap.size) (hC : Cch w' p b n ways V' f') (hn : ∀ i g, i < n → (V' i).ownBlock = some g → F g ∨ w.heap.size ≤ g) :
    Ca w' (fun k => F k ∨ (w.heap.size ≤ k ∧ k < w'.heap.size)) p n ways f' := by
  refine ⟨fun k hk => ?_, b, V', hC, Or.inl hp, Or.inl hb, fun i g hi hg => ?_⟩
  · rcases hk with q | q
    · exact Nat.lt_of_lt_of_le (h1 k q) hs
    · exact q.2
  · rcases hn i g hi hg with q | q
    · exact Or.inl q
    · exact Or.inr ⟨q, (hC.own i hi).lt g hg⟩
end Go.Proofs.Ytpedgpaebdoafaa
