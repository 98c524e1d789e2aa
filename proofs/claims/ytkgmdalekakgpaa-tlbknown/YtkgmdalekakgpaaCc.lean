/- A TLB that lies in a world: its struct, its row of translations; what keeps it. -/
import Derived.Test.YtkgmdalekakgpaaCh
namespace Go.Proofs.Ytkgmdalekakgpaa
open Go.ChangeShapes Go.WideShapes Go.ChangeAt Go.RowKit
set_option linter.unusedVariables false

/-- A row of translations, as a slice of its own, in a block from B on. -/
def Own (B : Nat) (w : World) (v : Value) (l : List Tr) : Prop := w.ownsRow B 32 6 v l.length (tv l)
theorem Own.nil (B : Nat) (w : World) : Own B w (.slice none 0 0) [] := World.ownsRow_nil w B 32 6
theorem Own.shape {B : Nat} {w : World} {v : Value} {l : List Tr} (h : Own B w v l) : (v = .slice none 0 0 ∧ l = []) ∨ ∃ g cap L, v = .slice (some ⟨g, 0, none⟩) l.length cap ∧ B ≤ g ∧ Blk w g 32 L ∧ l.length ≤ cap ∧ cap ≤ maxLen ∧ L.length = cap * 6 ∧ L.take (l.length * 6) = tv l := by
  rcases h.2 with ⟨h1, h2⟩ | ⟨g, cap, cur, h1, h2, h3, h4, h5, h6, h7⟩
  · exact Or.inl ⟨h1, List.eq_nil_of_length_eq_zero h2⟩
  · refine Or.inr ⟨g, cap, cur.toList, h1, h2, ?_, h4, h5, by simpa using h6, by simpa using h7⟩
    unfold Blk
    simpa using h3
theorem Own.of_blk {B : Nat} {w : World} {g cap : Nat} {L : List Value} {l : List Tr} (hB : B ≤ g) (h : Blk w g 32 L) (h1 : l.length ≤ cap) (h2 : cap ≤ maxLen) (h3 : L.length = cap * 6) (h4 : L.take (l.length * 6) = tv l) : Own B w (.slice (some ⟨g, 0, none⟩) l.length cap) l :=
  ⟨tv_len l, Or.inr ⟨g, cap, L.toArray, rfl, hB, h, h1, h2, by simpa using h3, by simpa using h4⟩⟩
theorem Own.of_eq {B : Nat} {w w' : World} {v : Value} {l : List Tr} (h : Own B w v l) (e : ∀ g, v.ownBlock = some g → w'.heap[g]? = w.heap[g]?) : Own B w' v l := by
  refine ⟨h.1, ?_⟩
  rcases h.2 with h1 | ⟨g, cap, cur, h1, h2, h3, h4⟩
  · exact Or.inl h1
  · subst h1
    exact Or.inr ⟨g, cap, cur, rfl, h2, (e g rfl).trans h3, h4⟩
theorem Own.lt {B : Nat} {w : World} {v : Value} {l : List Tr} (h : Own B w v l) : ∀ g, v.ownBlock = some g → B ≤ g ∧ g < w.heap.size := by
  intro g hg
  rcases h.shape with ⟨rfl, _⟩ | ⟨g', cap, L, rfl, hB, hb, _⟩
  · cases hg
  · cases hg
    exact ⟨hB, hb.lt⟩
theorem Own.below {B : Nat} {w w' : World} {v : Value} {l : List Tr} (h : Own B w v l) (k : Below w.heap.size w w') : Own B w' v l := h.of_eq (fun g hg => k.block g (h.lt g hg).2)
theorem Own.weak {B B' : Nat} {w : World} {v : Value} {l : List Tr} (h : Own B w v l) (hB : B' ≤ B) : Own B' w v l := by
  refine ⟨h.1, ?_⟩
  rcases h.2 with h1 | ⟨g, cap, cur, h1, h2, h3⟩
  · exact Or.inl h1
  · exact Or.inr ⟨g, cap, cur, h1, Nat.le_trans hB h2, h3⟩
theorem Own.len {B : Nat} {w : World} {v : Value} {l : List Tr} (h : Own B w v l) : ∃ a cap, v = .slice a l.length cap := by
  rcases h.shape with ⟨h1, rfl⟩ | ⟨g, cap, L, h1, _⟩
  · exact ⟨none, 0, h1⟩
  · exact ⟨_, _, h1⟩
/-- The six cells of an element. -/
structure Six (w : World) (g o : Nat) (x : Tr) : Prop where
  c0 : w.cell? ⟨g, o, none⟩ = some (.int .i64 x.a)
  c1 : w.cell? ⟨g, o + 1, none⟩ = some (.int .i64 x.p)
  c2 : w.cell? ⟨g, o + 2, none⟩ = some (.int .i64 x.f)
  c3 : w.cell? ⟨g, o + 3, none⟩ = some (.bool x.r)
  c4 : w.cell? ⟨g, o + 4, none⟩ = some (.bool x.w)
  c5 : w.cell? ⟨g, o + 5, none⟩ = some (.bool x.d)
theorem Six.of {w : World} {g o : Nat} {x : Tr} (h : ∀ j v, (tc x)[j]? = some v → w.cell? ⟨g, o + j, none⟩ = some v) : Six w g o x :=
  ⟨h 0 _ rfl, h 1 _ rfl, h 2 _ rfl, h 3 _ rfl, h 4 _ rfl, h 5 _ rfl⟩
theorem Six.all {w : World} {g o : Nat} {x : Tr} (h : Six w g o x) : ∀ j v, (tc x)[j]? = some v → w.cell? ⟨g, o + j, none⟩ = some v := by
  intro j v hv
  have hj : j < 6 := by have := (List.getElem?_eq_some_iff.1 hv).1; simpa [tc] using this
  have : j = 0 ∨ j = 1 ∨ j = 2 ∨ j = 3 ∨ j = 4 ∨ j = 5 := by omega
  rcases this with rfl | rfl | rfl | rfl | rfl | rfl <;> (simp [tc] at hv; subst hv)
  · exact h.c0
  · exact h.c1
  · exact h.c2
  · exact h.c3
  · exact h.c4
  · exact h.c5
theorem Six.of_eq {w w' : World} {g o : Nat} {x : Tr} (h : Six w g o x) (e : w'.heap[g]? = w.heap[g]?) : Six w' g o x :=
  ⟨(World.cell?_of_block (w := w) (a := ⟨g, o, none⟩) e).trans h.c0, (World.cell?_of_block (w := w) (a := ⟨g, o + 1, none⟩) e).trans h.c1, (World.cell?_of_block (w := w) (a := ⟨g, o + 2, none⟩) e).trans h.c2, (World.cell?_of_block (w := w) (a := ⟨g, o + 3, none⟩) e).trans h.c3, (World.cell?_of_block (w := w) (a := ⟨g, o + 4, none⟩) e).trans h.c4, (World.cell?_of_block (w := w) (a := ⟨g, o + 5, none⟩) e).trans h.c5⟩
/-- The same, as one conjunction, of zero offset. -/
def Sx (w : World) (g : Nat) (x : Tr) : Prop := w.cell? ⟨g, 0, none⟩ = some (.int .i64 x.a) ∧ w.cell? ⟨g, 1, none⟩ = some (.int .i64 x.p) ∧ w.cell? ⟨g, 2, none⟩ = some (.int .i64 x.f) ∧ w.cell? ⟨g, 3, none⟩ = some (.bool x.r) ∧ w.cell? ⟨g, 4, none⟩ = some (.bool x.w) ∧ w.cell? ⟨g, 5, none⟩ = some (.bool x.d)
theorem Six.sx {w : World} {g : Nat} {x : Tr} (h : Six w g 0 x) : Sx w g x := ⟨h.c0, h.c1, h.c2, h.c3, h.c4, h.c5⟩
theorem Six.below {w w' : World} {g o : Nat} {x : Tr} (h : Six w g o x) (hg : g < w.heap.size) (k : Below w.heap.size w w') : Six w' g o x := h.of_eq (k.block g hg)
theorem six_new (w : World) (x : Tr) (ty : TypeId) : Six (w.alloc (.cells (tc x).toArray ty)) w.heap.size 0 x :=
  Six.of (fun j v hv => by rw [Nat.zero_add, (blk_new w (tc x) ty).cell j]; exact hv)
theorem Own.cell {B : Nat} {w : World} {v : Value} {l : List Tr} (h : Own B w v l) {k : Nat} {x : Tr} (hk : l[k]? = some x) : ∃ g cap, v = .slice (some ⟨g, 0, none⟩) l.length cap ∧ Six w g (k * 6) x ∧ (∀ j, w.frozen? ⟨g, j, none⟩ = false) ∧ g < w.heap.size ∧ l.length ≤ cap ∧ cap ≤ maxLen := by
  obtain ⟨hlt, _⟩ := List.getElem?_eq_some_iff.1 hk
  rcases h.shape with ⟨_, rfl⟩ | ⟨g, cap, L, h1, hB, h2, h3, h4, h5, h6⟩
  · simp at hlt
  · refine ⟨g, cap, h1, Six.of (fun j v hv => ?_), fun j => h2.frozen j, h2.lt, h3, h4⟩
    have hj : j < 6 := by have := (List.getElem?_eq_some_iff.1 hv).1; simpa [tc] using this
    rw [h2.cell, ← List.getElem?_take_of_lt (j := l.length * 6) (by omega), h6]
    exact tv_at hk j v hv
def eqT (x y : Tr) : Bool := x.a == y.a && (x.p == y.p && (x.f == y.f && (x.r == y.r && (x.w == y.w && x.d == y.d))))
theorem eq_run (a p f a' p' f' : Int) (r w d r' w' d' : Bool) (W : World) : (binOp .eql 32 (.agg #[.int .i64 a, .int .i64 p, .int .i64 f, .bool r, .bool w, .bool d]) (.agg #[.int .i64 a', .int .i64 p', .int .i64 f', .bool r', .bool w', .bool d'])).run Try.prog W = .ok (.bool (eqT ⟨a, p, f, r, w, d⟩ ⟨a', p', f', r', w', d'⟩)) W := by
  simp only [run_eql_struct]
  rw [run_equalIn_agg W 9999 32 _ _ (by kernel_rfl) Try.stoodInHeld32]
  simp [go_sem, Program.fieldsOf, Try.underlying32]
  unfold eqT
  by_cases h1 : a = a'
  · by_cases h2 : p = p'
    · by_cases h3 : f = f'
      · by_cases h4 : r = r'
        · by_cases h5 : w = w'
          · by_cases h6 : d = d'
            · simp [h1, h2, h3, h4, h5, h6]
            · simp [h1, h2, h3, h4, h5, h6]
          · simp [h1, h2, h3, h4, h5]
        · simp [h1, h2, h3, h4]
      · simp [h1, h2, h3]
    · simp [h1, h2]
  · simp [h1]
theorem ne_run (a p f a' p' f' : Int) (r w d r' w' d' : Bool) (W : World) : (binOp .neq 32 (.agg #[.int .i64 a, .int .i64 p, .int .i64 f, .bool r, .bool w, .bool d]) (.agg #[.int .i64 a', .int .i64 p', .int .i64 f', .bool r', .bool w', .bool d'])).run Try.prog W = .ok (.bool (!eqT ⟨a, p, f, r, w, d⟩ ⟨a', p', f', r', w', d'⟩)) W := by
  have h := eq_run a p f a' p' f' r w d r' w' d' W
  simp only [run_eql_struct] at h
  simp only [run_neq_struct]
  cases hr : (Op.equalIn 10000 32 (.agg #[.int .i64 a, .int .i64 p, .int .i64 f, .bool r, .bool w, .bool d]) (.agg #[.int .i64 a', .int .i64 p', .int .i64 f', .bool r', .bool w', .bool d'])).run Try.prog W with
  | ok b w2 =>
    rw [hr] at h
    simp [Result.andThen] at h ⊢
    exact ⟨by rw [h.1], h.2⟩
  | halt x w2 =>
    rw [hr] at h
    simp [Result.andThen] at h
theorem eqT_self (x : Tr) : eqT x x = true := by simp [eqT]
theorem eqT_eq {x y : Tr} (h : eqT x y = true) : x = y := by
  cases x
  cases y
  simp only [eqT, Bool.and_eq_true, beq_iff_eq] at h
  simp
  exact h
/-- What turned lies in F, or is new; what is then the TLB's lies in F', which is of F or new. -/
structure Kp (F F' : Nat → Prop) (w w' : World) : Prop where
  os : w'.os = w.os
  tape : w'.tape = w.tape
  output : w'.output = w.output
  size : w.heap.size ≤ w'.heap.size
  block : ∀ k, k < w.heap.size → ¬ F k → w'.heap[k]? = w.heap[k]?
  new : ∀ k, F' k → F k ∨ w.heap.size ≤ k
theorem Kp.below {F F' : Nat → Prop} {w w' : World} (h : Kp F F' w w') (B : Nat) (hB : B ≤ w.heap.size) (hF : ∀ k, F k → B ≤ k) : Below B w w' :=
  ⟨h.os, h.tape, h.output, h.size, fun k hk => h.block k (by omega) (fun e => by have := hF k e; omega)⟩
theorem Kp.refl (F : Nat → Prop) (w : World) : Kp F F w w := ⟨rfl, rfl, rfl, Nat.le_refl _, fun _ _ _ => rfl, fun _ h => Or.inl h⟩
theorem Kp.of_grown {F F' : Nat → Prop} {w w' : World} {row : Option Nat} (h : w.grownBy w' row) (hr : ∀ g, row = some g → F g) (hn : ∀ k, F' k → F k ∨ w.heap.size ≤ k) : Kp F F' w w' :=
  ⟨h.os, h.tape, h.output, h.size, fun k hk hF => h.block k hk (by intro e; exact hF (hr k e.symm)), hn⟩
theorem Kp.of_below (F : Nat → Prop) {w w' : World} (h : Below w.heap.size w w') : Kp F F w w' :=
  ⟨h.os, h.tape, h.output, h.size, fun k hk _ => h.block k hk, fun _ q => Or.inl q⟩
theorem Kp.trans {F F' F'' : Nat → Prop} {a b c : World} (h : Kp F F' a b) (k : Kp F' F'' b c) : Kp F F'' a c :=
  ⟨k.os.trans h.os, k.tape.trans h.tape, k.output.trans h.output, Nat.le_trans h.size k.size,
   fun i hi hF => (k.block i (Nat.lt_of_lt_of_le hi h.size) (fun e => by rcases h.new i e with q | q; exact hF q; omega)).trans (h.block i hi hF),
   fun i hi => by
    rcases k.new i hi with q | q
    · exact h.new i q
    · exact Or.inr (Nat.le_trans h.size q)⟩
/-- The TLB at p: room n, its row's slice v, its translations l. -/
structure Tb (w : World) (p n : Nat) (v : Value) (l : List Tr) : Prop where
  lt : p < w.heap.size
  c0 : w.cell? ⟨p, 0, none⟩ = some (.int .i64 n)
  c1 : w.cell? ⟨p, 1, none⟩ = some v
  z1 : w.frozen? ⟨p, 1, none⟩ = false
  own : Own 0 w v l
  vp : v.ownBlock ≠ some p
  len : l.length ≤ n
  uq : Uq l
  n1 : 1 ≤ n
  n64 : n ≤ 64
theorem Tb.of_eq {w w' : World} {p n : Nat} {v : Value} {l : List Tr} (h : Tb w p n v l) (hs : w.heap.size ≤ w'.heap.size) (ep : w'.heap[p]? = w.heap[p]?) (eV : ∀ g, v.ownBlock = some g → w'.heap[g]? = w.heap[g]?) : Tb w' p n v l :=
  ⟨Nat.lt_of_lt_of_le h.lt hs, (World.cell?_of_block (w := w) (a := ⟨p, 0, none⟩) ep).trans h.c0, (World.cell?_of_block (w := w) (a := ⟨p, 1, none⟩) ep).trans h.c1, (World.frozen?_of_block (w := w) (a := ⟨p, 1, none⟩) ep).trans h.z1,
   h.own.of_eq eV, h.vp, h.len, h.uq, h.n1, h.n64⟩
theorem Tb.below {w w' : World} {p n : Nat} {v : Value} {l : List Tr} (h : Tb w p n v l) (k : Below w.heap.size w w') : Tb w' p n v l :=
  h.of_eq k.size (k.block p h.lt) (fun g hg => k.block g (h.own.lt g hg).2)
/-- A TLB whose blocks all lie in F. -/
structure Pt (w : World) (F : Nat → Prop) (p n : Nat) (v : Value) (l : List Tr) : Prop where
  lt : ∀ k, F k → k < w.heap.size
  c : Tb w p n v l
  fp : F p
  fv : ∀ g, v.ownBlock = some g → F g
def Ca (w : World) (F : Nat → Prop) (p n : Nat) (l : List Tr) : Prop := ∃ v, Pt w F p n v l
theorem Ca.lt {w : World} {F : Nat → Prop} {p n : Nat} {l : List Tr} (h : Ca w F p n l) : ∀ k, F k → k < w.heap.size := by
  obtain ⟨v, h⟩ := h
  exact h.lt
theorem Ca.of_eq {w w' : World} {F : Nat → Prop} {p n : Nat} {l : List Tr} (h : Ca w F p n l) (hs : w.heap.size ≤ w'.heap.size) (e : ∀ k, F k → w'.heap[k]? = w.heap[k]?) : Ca w' F p n l := by
  obtain ⟨v, h1, hC, hp, hV⟩ := h
  exact ⟨v, fun k hk => Nat.lt_of_lt_of_le (h1 k hk) hs, hC.of_eq hs (e p hp) (fun g hg => e g (hV g hg)), hp, hV⟩
/-- What turned elsewhere. -/
theorem Ca.kept {w w' : World} {F G G' : Nat → Prop} {p n : Nat} {l : List Tr} (h : Ca w F p n l) (k : Kp G G' w w') (hd : ∀ k, F k → ¬ G k) : Ca w' F p n l :=
  h.of_eq k.size (fun i hi => k.block i (h.lt i hi) (hd i hi))
theorem Ca.below {w w' : World} {F : Nat → Prop} {p n : Nat} {l : List Tr} (h : Ca w F p n l) (k : Below w.heap.size w w') : Ca w' F p n l :=
  h.of_eq k.size (fun i hi => k.block i (h.lt i hi))
/-- The row turned in its own block. -/
theorem Pt.turn_in {w w' : World} {F : Nat → Prop} {p n : Nat} {v : Value} {l : List Tr} (h : Pt w F p n v l) (l' : List Tr) (g : Nat) (hg : v.ownBlock = some g)
    (G : w.grownBy w' (some g)) (ho : Own 0 w' v l') (hl : l'.length ≤ n) (hu : Uq l') : ∃ F', Ca w' F' p n l' ∧ Kp F F' w w' := by
  have hne : p ≠ g := fun e => h.c.vp (by rw [hg, e])
  have ep : w'.heap[p]? = w.heap[p]? := G.block p h.c.lt (some_ne hne)
  refine ⟨F, ⟨v, fun k hk => Nat.lt_of_lt_of_le (h.lt k hk) G.size, ⟨Nat.lt_of_lt_of_le h.c.lt G.size, (World.cell?_of_block (w := w) (a := ⟨p, 0, none⟩) ep).trans h.c.c0, (World.cell?_of_block (w := w) (a := ⟨p, 1, none⟩) ep).trans h.c.c1, (World.frozen?_of_block (w := w) (a := ⟨p, 1, none⟩) ep).trans h.c.z1, ho, h.c.vp, hl, hu, h.c.n1, h.c.n64⟩, h.fp, h.fv⟩, Kp.of_grown G (fun g' e => by cases e; exact h.fv g hg) (fun k hk => Or.inl hk)⟩
/-- The row's slice turned: what was written lies in the old row's block, in p, or is new; the new slice's block is the old one's or new. -/
theorem Pt.turn_new {w w' : World} {F : Nat → Prop} {p n : Nat} {v : Value} {l : List Tr} (h : Pt w F p n v l) (v' : Value) (l' : List Tr)
    (os : w'.os = w.os) (tp : w'.tape = w.tape) (ou : w'.output = w.output) (hs : w.heap.size ≤ w'.heap.size)
    (hk : ∀ k, k < w.heap.size → k ≠ p → some k ≠ v.ownBlock → w'.heap[k]? = w.heap[k]?)
    (c0 : w'.cell? ⟨p, 0, none⟩ = some (.int .i64 n)) (c1 : w'.cell? ⟨p, 1, none⟩ = some v') (z1 : w'.frozen? ⟨p, 1, none⟩ = false)
    (ho : Own 0 w' v' l') (hv : ∀ g, v'.ownBlock = some g → v.ownBlock = some g ∨ w.heap.size ≤ g) (hl : l'.length ≤ n) (hu : Uq l') : ∃ F', Pt w' F' p n v' l' ∧ Kp F F' w w' := by
  refine ⟨fun k => F k ∨ (w.heap.size ≤ k ∧ k < w'.heap.size), ⟨fun k hk => ?_, ⟨Nat.lt_of_lt_of_le h.c.lt hs, c0, c1, z1, ho, fun e => ?_, hl, hu, h.c.n1, h.c.n64⟩, Or.inl h.fp, fun g hg => ?_⟩, ⟨os, tp, ou, hs, fun k hk' hF => hk k hk' (fun e => hF (e ▸ h.fp)) (fun e => hF (h.fv k e.symm)), fun k hk => ?_⟩⟩
  · rcases hk with q | q
    · exact Nat.lt_of_lt_of_le (h.lt k q) hs
    · exact q.2
  · rcases hv p e with q | q
    · exact h.c.vp q
    · have := h.c.lt; omega
  · rcases hv g hg with q | q
    · exact Or.inl (h.fv g q)
    · exact Or.inr ⟨q, (ho.lt g hg).2⟩
  · rcases hk with q | q
    · exact Or.inl q
    · exact Or.inr q.1
/-- What a call leaves. -/
def Lv (w : World) (F : Nat → Prop) (p n : Nat) (l' : List Tr) (w' : World) : Prop := ∃ F', Ca w' F' p n l' ∧ Kp F F' w w'
theorem Lv.of_below {w w' : World} {F : Nat → Prop} {p n : Nat} {l : List Tr} (h : Ca w F p n l) (k : Below w.heap.size w w') : Lv w F p n l w' := ⟨F, h.below k, Kp.of_below F k⟩
/-- A TLB that is none: no pointer, or one to a struct without room. -/
def NoT (w : World) (q : Option Addr) : Prop := q = none ∨ ∃ p, q = some ⟨p, 0, none⟩ ∧ w.cell? ⟨p, 0, none⟩ = some (.int .i64 0)
end Go.Proofs.Ytkgmdalekakgpaa
