/- One TLB beside blocks that stay as they are: what a call leaves. -/
import Derived.Test.YtkgmdalekakgpaaLw
namespace Go.Proofs.Ytkgmdalekakgpaa
open Go.ChangeShapes Go.WideShapes Go.ChangeAt Go.RowKit
set_option linter.unusedVariables false

/-- The blocks of P are as they were. -/
structure Kpt (P : Nat → Prop) (w w' : World) : Prop where
  os : w'.os = w.os
  tape : w'.tape = w.tape
  output : w'.output = w.output
  size : w.heap.size ≤ w'.heap.size
  block : ∀ k, P k → w'.heap[k]? = w.heap[k]?
  lt : ∀ k, P k → k < w.heap.size
theorem Kpt.trans {P Q : Nat → Prop} {a b c : World} (h : Kpt P a b) (k : Kpt Q b c) (hPQ : ∀ i, P i → Q i) : Kpt P a c :=
  ⟨k.os.trans h.os, k.tape.trans h.tape, k.output.trans h.output, Nat.le_trans h.size k.size, fun i hi => (k.block i (hPQ i hi)).trans (h.block i hi), h.lt⟩
theorem Kpt.below {P : Nat → Prop} {a b c : World} (h : Kpt P a b) (k : Below b.heap.size b c) : Kpt P a c :=
  ⟨k.os.trans h.os, k.tape.trans h.tape, k.output.trans h.output, Nat.le_trans h.size k.size, fun i hi => (k.block i (Nat.lt_of_lt_of_le (h.lt i hi) h.size)).trans (h.block i hi), h.lt⟩
theorem Kpt.kp {P F F' : Nat → Prop} {a b c : World} (h : Kpt P a b) (k : Kp F F' b c) (hd : ∀ i, P i → ¬ F i) : Kpt P a c :=
  ⟨k.os.trans h.os, k.tape.trans h.tape, k.output.trans h.output, Nat.le_trans h.size k.size, fun i hi => (k.block i (Nat.lt_of_lt_of_le (h.lt i hi) h.size) (hd i hi)).trans (h.block i hi), h.lt⟩
theorem Kpt.grown {P : Nat → Prop} {a b c : World} {row : Option Nat} (h : Kpt P a b) (k : b.grownBy c row) (hd : ∀ i, P i → row ≠ some i) : Kpt P a c :=
  ⟨k.os.trans h.os, k.tape.trans h.tape, k.output.trans h.output, Nat.le_trans h.size k.size, fun i hi => (k.block i (Nat.lt_of_lt_of_le (h.lt i hi) h.size) (fun e => hd i hi e.symm)).trans (h.block i hi), h.lt⟩
theorem Kpt.own {P : Nat → Prop} {a b : World} (h : Kpt P a b) {B : Nat} {v : Value} {l : List Tr} (ho : Own B a v l) (hp : ∀ g, v.ownBlock = some g → P g) : Own B b v l := ho.of_eq (fun g hg => h.block g (hp g hg))
theorem Kpt.toBelow {w w' : World} (h : Kpt (fun k => k < w.heap.size) w w') : Below w.heap.size w w' := ⟨h.os, h.tape, h.output, h.size, h.block⟩
/-- One TLB; what is of P is none of its, and as it was. -/
def On (P : Nat → Prop) (w0 w : World) (p n : Nat) (l : List Tr) : Prop := ∃ F, Ca w F p n l ∧ (∀ k, P k → ¬ F k) ∧ Kpt P w0 w
theorem On.kpt {P : Nat → Prop} {w0 w : World} {p n : Nat} {l : List Tr} (h : On P w0 w p n l) : Kpt P w0 w := by obtain ⟨F, _, _, k⟩ := h; exact k
theorem On.below {P : Nat → Prop} {w0 w w' : World} {p n : Nat} {l : List Tr} (h : On P w0 w p n l) (k : Below w.heap.size w w') : On P w0 w' p n l := by
  obtain ⟨F, c, x, t⟩ := h
  exact ⟨F, c.below k, x, t.below k⟩
theorem On.start {w w' : World} {p n : Nat} {F : Nat → Prop} {l : List Tr} (c : Ca w' F p n l) (k : Kp (fun _ => False) F w w') : On (fun k => k < w.heap.size) w w' p n l := by
  refine ⟨F, c, fun i hi hF => ?_, ?_⟩
  · rcases k.new i hF with q | q
    · exact q
    · omega
  · have b := k.below w.heap.size (Nat.le_refl _) (fun i q => q.elim)
    exact ⟨b.os, b.tape, b.output, b.size, b.block, fun i hi => hi⟩
theorem On.call {P : Nat → Prop} {w0 w : World} {p n : Nat} {l l' : List Tr} (h : On P w0 w p n l) {fn : FuncId} {args : Array Value} {R : Ending → Prop}
    (hc : ∀ F, Ca w F p n l → Calls Try.prog fn args w fun e w' => R e ∧ Lv w F p n l' w') : Calls Try.prog fn args w fun e w' => R e ∧ On P w0 w' p n l' := by
  obtain ⟨F, c, x, t⟩ := h
  refine (hc F c).mono ?_
  rintro e w' ⟨he, F', c', k⟩
  refine ⟨he, F', c', fun j hj z => ?_, t.kp k x⟩
  rcases k.new j z with z | z
  · exact x j hj z
  · have := t.lt j hj; have := t.size; omega
/-- What was made meanwhile stays, too. -/
theorem On.more {P : Nat → Prop} {w0 w w' : World} {p n : Nat} {l : List Tr} (h : On P w0 w p n l) (k : Below w.heap.size w w') : On (fun i => P i ∨ (w.heap.size ≤ i ∧ i < w'.heap.size)) w' w' p n l := by
  obtain ⟨F, c, x, t⟩ := h
  have s1 := t.size
  have s2 := k.size
  refine ⟨F, c.below k, fun i hi hF => ?_, rfl, rfl, rfl, Nat.le_refl _, fun _ _ => rfl, fun i hi => ?_⟩
  · rcases hi with q | q
    · exact x i q hF
    · have := c.lt i hF; omega
  · rcases hi with q | q
    · have := t.lt i q; omega
    · exact q.2
/-- Back to what was to stay at first. -/
theorem On.less {P Q : Nat → Prop} {w0 w1 w2 : World} {p n : Nat} {l : List Tr} (k : Kpt P w0 w1) (h : On Q w1 w2 p n l) (hPQ : ∀ i, P i → Q i) : On P w0 w2 p n l := by
  obtain ⟨F, c, x, t⟩ := h
  exact ⟨F, c, fun i hi => x i (hPQ i hi), k.trans t hPQ⟩
theorem On.len {P : Nat → Prop} {w0 w : World} {p n : Nat} {l : List Tr} (h : On P w0 w p n l) : l.length ≤ n ∧ n ≤ 64 ∧ 1 ≤ n ∧ Uq l := by
  obtain ⟨F, ⟨v, hP⟩, _⟩ := h
  exact ⟨hP.c.len, hP.c.n64, hP.c.n1, hP.c.uq⟩
/-! ### The calls -/
theorem On.find {P : Nat → Prop} {w0 w : World} {p n : Nat} {l : List Tr} (h : On P w0 w p n l) (a g : Int) :
    Calls Try.prog 16 #[.pointer (some ⟨p, 0, none⟩), .int .i64 a, .int .i64 g] w fun e w' => e = .returned (.tuple #[.agg #[.int .i64 (pk a g l).1.a, .int .i64 (pk a g l).1.p, .int .i64 (pk a g l).1.f, .bool (pk a g l).1.r, .bool (pk a g l).1.w, .bool (pk a g l).1.d], .bool (pk a g l).2.1, .int .i64 (pk a g l).2.2]) ∧ On P w0 w' p n (fd a g l) :=
  h.call (fun F c => Find_ok c a g)
theorem On.peek {P : Nat → Prop} {w0 w : World} {p n : Nat} {l : List Tr} (h : On P w0 w p n l) (a g : Int) :
    Calls Try.prog 24 #[.pointer (some ⟨p, 0, none⟩), .int .i64 a, .int .i64 g] w fun e w' => e = .returned (.tuple #[.agg #[.int .i64 (pk a g l).1.a, .int .i64 (pk a g l).1.p, .int .i64 (pk a g l).1.f, .bool (pk a g l).1.r, .bool (pk a g l).1.w, .bool (pk a g l).1.d], .bool (pk a g l).2.1, .int .i64 (pk a g l).2.2]) ∧ Below w.heap.size w w' := by
  obtain ⟨F, c, _⟩ := h
  exact Peek_ok c a g
theorem On.fill {P : Nat → Prop} {w0 w : World} {p n : Nat} {l : List Tr} (h : On P w0 w p n l) (x : Tr) :
    Calls Try.prog 18 #[.pointer (some ⟨p, 0, none⟩), .agg #[.int .i64 x.a, .int .i64 x.p, .int .i64 x.f, .bool x.r, .bool x.w, .bool x.d]] w fun e w' => e = .returned (.int .i64 (filE x)) ∧ On P w0 w' p n (filL n x l) :=
  h.call (fun F c => Fill_ok c x)
theorem On.mark {P : Nat → Prop} {w0 w : World} {p n : Nat} {l : List Tr} (h : On P w0 w p n l) (a g : Int) :
    Calls Try.prog 22 #[.pointer (some ⟨p, 0, none⟩), .int .i64 a, .int .i64 g] w fun e w' => e = .returned (.tuple #[.bool (isT a g l).1, .int .i64 (isT a g l).2]) ∧ On P w0 w' p n (mrkL a g l) :=
  h.call (fun F c => Mark_ok c a g)
theorem On.drop {P : Nat → Prop} {w0 w : World} {p n : Nat} {l : List Tr} (h : On P w0 w p n l) (a g : Int) :
    Calls Try.prog 19 #[.pointer (some ⟨p, 0, none⟩), .int .i64 a, .int .i64 g] w fun e w' => e = .returned (.tuple #[.bool (isT a g l).1, .int .i64 (isT a g l).2]) ∧ On P w0 w' p n (rmL a g l) :=
  h.call (fun F c => Drop_ok c a g)
theorem On.dropAll {P : Nat → Prop} {w0 w : World} {p n : Nat} {l : List Tr} (h : On P w0 w p n l) (a : Int) :
    Calls Try.prog 23 #[.pointer (some ⟨p, 0, none⟩), .int .i64 a] w fun e w' => e = .returned (.tuple #[.int .i64 (dal a l).1, .int .i64 (dal a l).2]) ∧ On P w0 w' p n (dalL a l) :=
  h.call (fun F c => DropAll_ok c a)
theorem On.empty {P : Nat → Prop} {w0 w : World} {p n : Nat} {l : List Tr} (h : On P w0 w p n l) :
    Calls Try.prog 26 #[.pointer (some ⟨p, 0, none⟩)] w fun e w' => e = .returned (.tuple #[.int .i64 l.length, .int .i64 0]) ∧ On P w0 w' p n [] :=
  h.call (fun F c => Empty_ok c)
theorem On.all {P : Nat → Prop} {w0 w : World} {p n : Nat} {l : List Tr} (h : On P w0 w p n l) :
    Calls Try.prog 11 #[.pointer (some ⟨p, 0, none⟩)] w fun e w' => ∃ v, e = .returned v ∧ Own w.heap.size w' v l ∧ Below w.heap.size w w' := by
  obtain ⟨F, c, _⟩ := h
  exact All_ok c
/-- The same calls, of known content. -/
theorem On.fill_at {P : Nat → Prop} {w0 w : World} {p n : Nat} {l : List Tr} (h : On P w0 w p n l) (a g f : Int) (r w' d : Bool) (l' : List Tr) (er : Int) (he : filE ⟨a, g, f, r, w', d⟩ = er) (hl : filL n ⟨a, g, f, r, w', d⟩ l = l') :
    Calls Try.prog 18 #[.pointer (some ⟨p, 0, none⟩), .agg #[.int .i64 a, .int .i64 g, .int .i64 f, .bool r, .bool w', .bool d]] w fun e w' => e = .returned (.int .i64 er) ∧ On P w0 w' p n l' := by
  rw [← he, ← hl]
  exact h.fill ⟨a, g, f, r, w', d⟩
theorem On.find_at {P : Nat → Prop} {w0 w : World} {p n : Nat} {l : List Tr} (h : On P w0 w p n l) (a g : Int) (x : Tr) (b : Bool) (er : Int) (l' : List Tr) (he : pk a g l = (x, b, er)) (hl : fd a g l = l') :
    Calls Try.prog 16 #[.pointer (some ⟨p, 0, none⟩), .int .i64 a, .int .i64 g] w fun e w' => e = .returned (.tuple #[.agg #[.int .i64 x.a, .int .i64 x.p, .int .i64 x.f, .bool x.r, .bool x.w, .bool x.d], .bool b, .int .i64 er]) ∧ On P w0 w' p n l' := by
  have := h.find a g
  rw [he, hl] at this
  exact this
theorem On.peek_at {P : Nat → Prop} {w0 w : World} {p n : Nat} {l : List Tr} (h : On P w0 w p n l) (a g : Int) (x : Tr) (b : Bool) (er : Int) (he : pk a g l = (x, b, er)) :
    Calls Try.prog 24 #[.pointer (some ⟨p, 0, none⟩), .int .i64 a, .int .i64 g] w fun e w' => e = .returned (.tuple #[.agg #[.int .i64 x.a, .int .i64 x.p, .int .i64 x.f, .bool x.r, .bool x.w, .bool x.d], .bool b, .int .i64 er]) ∧ Below w.heap.size w w' := by
  have := h.peek a g
  rw [he] at this
  exact this
theorem On.mark_at {P : Nat → Prop} {w0 w : World} {p n : Nat} {l : List Tr} (h : On P w0 w p n l) (a g : Int) (b : Bool) (er : Int) (l' : List Tr) (he : isT a g l = (b, er)) (hl : mrkL a g l = l') :
    Calls Try.prog 22 #[.pointer (some ⟨p, 0, none⟩), .int .i64 a, .int .i64 g] w fun e w' => e = .returned (.tuple #[.bool b, .int .i64 er]) ∧ On P w0 w' p n l' := by
  have := h.mark a g
  rw [he, hl] at this
  exact this
theorem On.drop_at {P : Nat → Prop} {w0 w : World} {p n : Nat} {l : List Tr} (h : On P w0 w p n l) (a g : Int) (b : Bool) (er : Int) (l' : List Tr) (he : isT a g l = (b, er)) (hl : rmL a g l = l') :
    Calls Try.prog 19 #[.pointer (some ⟨p, 0, none⟩), .int .i64 a, .int .i64 g] w fun e w' => e = .returned (.tuple #[.bool b, .int .i64 er]) ∧ On P w0 w' p n l' := by
  have := h.drop a g
  rw [he, hl] at this
  exact this
theorem On.dropAll_at {P : Nat → Prop} {w0 w : World} {p n : Nat} {l : List Tr} (h : On P w0 w p n l) (a : Int) (c er : Int) (l' : List Tr) (he : dal a l = (c, er)) (hl : dalL a l = l') :
    Calls Try.prog 23 #[.pointer (some ⟨p, 0, none⟩), .int .i64 a] w fun e w' => e = .returned (.tuple #[.int .i64 c, .int .i64 er]) ∧ On P w0 w' p n l' := by
  have := h.dropAll a
  rw [he, hl] at this
  exact this
end Go.Proofs.Ytkgmdalekakgpaa
