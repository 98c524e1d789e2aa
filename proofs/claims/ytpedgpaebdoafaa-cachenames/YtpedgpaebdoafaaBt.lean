/- The program's cache and the reference's beside one another: what a call of one leaves of both. -/
import Derived.Test.YtpedgpaebdoafaaRt
namespace Go.Proofs.Ytpedgpaebdoafaa
open Go.ChangeShapes Go.WideShapes Go.ChangeAt Go.RowKit
set_option linter.unusedVariables false

/-- The blocks of P are as they were. -/
structure Kpt (P : Nat → Prop) (w w' : World) : Prop where
  os : w'.os = w.os
  tape : w'.tape = w.tape
  output : w'.output = w.output
  size : w.heap.size ≤ w'.heap.size
  block : ∀ k, P k → w'.heap[k]? = w.heap[k]?
  lt : ∀ k, P k → k < w.heap.size
theorem Kpt.trans {P Q : Nat → Prop} {a b c : World} (h : Kpt P a b) (k : Kpt Q b c) (hPQ : ∀ i, P i → Q i) : Kpt P a c :=
  ⟨k.os.trans h.os, k.tape.trans h.tape, k.output.trans h.output, Nat.le_trans h.size k.size, fun i hi => (k.block i (hPQ i hi)).trans (h.block i hi), h.lt⟩
theorem Kpt.below {P : Nat → Prop} {a b c : World} (h : Kpt P a b) (k : Below b.heap.size b c) : Kpt P a c :=
  ⟨k.os.trans h.os, k.tape.trans h.tape, k.output.trans h.output, Nat.le_trans h.size k.size, fun i hi => (k.block i (Nat.lt_of_lt_of_le (h.lt i hi) h.size)).trans (h.block i hi), h.lt⟩
theorem Kpt.kp {P F F' : Nat → Prop} {a b c : World} (h : Kpt P a b) (k : Kp F F' b c) (hd : ∀ i, P i → ¬ F i) : Kpt P a c :=
  ⟨k.os.trans h.os, k.tape.trans h.tape, k.output.trans h.output, Nat.le_trans h.size k.size, fun i hi => (k.block i (Nat.lt_of_lt_of_le (h.lt i hi) h.size) (hd i hi)).trans (h.block i hi), h.lt⟩
/-- Both caches; what is of P is neither's, and as it was. -/
def Bth (P : Nat → Prop) (w0 w : World) (p q n m : Nat) (f g : Nat → List Int) : Prop :=
  ∃ F G, Ca w F p n m f ∧ Ca w G q n m g ∧ (∀ k, F k → ¬ G k) ∧ (∀ k, P k → ¬ F k ∧ ¬ G k) ∧ Kpt P w0 w
theorem Bth.kpt {P : Nat → Prop} {w0 w : World} {p q n m : Nat} {f g : Nat → List Int} (h : Bth P w0 w p q n m f g) : Kpt P w0 w := by obtain ⟨F, G, _, _, _, _, k⟩ := h; exact k
theorem Bth.below {P : Nat → Prop} {w0 w w' : World} {p q n m : Nat} {f g : Nat → List Int} (h : Bth P w0 w p q n m f g) (k : Below w.heap.size w w') : Bth P w0 w' p q n m f g := by
  obtain ⟨F, G, c, d, x, y, t⟩ := h
  exact ⟨F, G, c.below k, d.below k, x, y, t.below k⟩
theorem Bth.swap {P : Nat → Prop} {w0 w : World} {p q n m : Nat} {f g : Nat → List Int} (h : Bth P w0 w p q n m f g) : Bth P w0 w q p n m g f := by
  obtain ⟨F, G, c, d, x, y, t⟩ := h
  exact ⟨G, F, d, c, fun k hk hf => x k hf hk, fun k hk => ⟨(y k hk).2, (y k hk).1⟩, t⟩
theorem Bth.call1 {P : Nat → Prop} {w0 w : World} {p q n m : Nat} {f g f' : Nat → List Int} (h : Bth P w0 w p q n m f g) {fn : FuncId} {args : Array Value} {R : Ending → Prop}
    (hc : ∀ F, Ca w F p n m f → Calls Try.prog fn args w fun e w' => R e ∧ ∃ F', Ca w' F' p n m f' ∧ Kp F F' w w') :
    Calls Try.prog fn args w fun e w' => R e ∧ Bth P w0 w' p q n m f' g := by
  obtain ⟨F, G, c, d, x, y, t⟩ := h
  refine (hc F c).mono ?_
  rintro e w' ⟨he, F', c', k⟩
  refine ⟨he, F', G, c', d.kept k (fun j hj hf => x j hf hj), fun j hj hg => ?_, fun j hj => ⟨fun z => ?_, (y j hj).2⟩, t.kp k (fun i hi => (y i hi).1)⟩
  · rcases k.new j hj with z | z
    · exact x j z hg
    · have := d.1 j hg; omega
  · rcases k.new j z with z | z
    · exact (y j hj).1 z
    · have := t.lt j hj; have := t.size; omega
theorem Bth.call2 {P : Nat → Prop} {w0 w : World} {p q n m : Nat} {f g g' : Nat → List Int} (h : Bth P w0 w p q n m f g) {fn : FuncId} {args : Array Value} {R : Ending → Prop}
    (hc : ∀ F, Ca w F q n m g → Calls Try.prog fn args w fun e w' => R e ∧ ∃ F', Ca w' F' q n m g' ∧ Kp F F' w w') :
    Calls Try.prog fn args w fun e w' => R e ∧ Bth P w0 w' p q n m f g' := by
  refine (h.swap.call1 hc).mono ?_
  rintro e w' ⟨he, b⟩
  exact ⟨he, b.swap⟩
theorem Bth.ca1 {P : Nat → Prop} {w0 w : World} {p q n m : Nat} {f g : Nat → List Int} (h : Bth P w0 w p q n m f g) : ∃ F, Ca w F p n m f := by obtain ⟨F, G, c, _⟩ := h; exact ⟨F, c⟩
theorem Bth.ca2 {P : Nat → Prop} {w0 w : World} {p q n m : Nat} {f g : Nat → List Int} (h : Bth P w0 w p q n m f g) : ∃ F, Ca w F q n m g := by obtain ⟨F, G, _, d, _⟩ := h; exact ⟨G, d⟩
/-- A box more. -/
theorem Bth.box {P : Nat → Prop} {w0 w : World} {p q n m : Nat} {f g : Nat → List Int} (h : Bth P w0 w p q n m f g) (o : Obj) : Bth (fun k => P k ∨ k = w.heap.size) (w.alloc o) (w.alloc o) p q n m f g := by
  have hb : Below w.heap.size w (w.alloc o) := (Below.refl _ _).alloc (Nat.le_refl _) _
  obtain ⟨F, G, c, d, x, y, t⟩ := h
  refine ⟨F, G, c.below hb, d.below hb, x, fun k hk => ?_, rfl, rfl, rfl, Nat.le_refl _, fun _ _ => rfl, fun k hk => ?_⟩
  · rcases hk with q | rfl
    · exact y k q
    · exact ⟨fun z => by have := c.1 _ z; omega, fun z => by have := d.1 _ z; omega⟩
  · have := t.size
    rcases hk with q | rfl
    · have := t.lt k q; simp; omega
    · simp
theorem Bth.unbox {P : Nat → Prop} {w0 w w' : World} {p q n m : Nat} {f g f' g' : Nat → List Int} {o : Obj} (h : Bth P w0 w p q n m f g) (h' : Bth (fun k => P k ∨ k = w.heap.size) (w.alloc o) w' p q n m f' g') : Bth P w0 w' p q n m f' g' := by
  have t0 := h.kpt
  obtain ⟨F, G, c, d, x, y, t⟩ := h'
  have hb : Below w.heap.size w (w.alloc o) := (Below.refl _ _).alloc (Nat.le_refl _) _
  exact ⟨F, G, c, d, x, fun k hk => y k (Or.inl hk), (t0.below hb).trans t (fun i hi => Or.inl hi)⟩
/-! ### The calls, of both -/
theorem Bth.touch {P : Nat → Prop} {w0 w : World} {p q n m : Nat} {f g : Nat → List Int} (h : Bth P w0 w p q n m f g) (i : Nat) (hi : i < n) (t : Int) (h0 : 0 ≤ t) (h1 : t < 18446744073709551616) :
    Calls Try.prog 14 #[.pointer (some ⟨p, 0, none⟩), .int .i64 i, .int .u64 t] w fun e w' => e = .returned (.tuple #[.bool (decide (t ∈ f i)), .int .i64 0]) ∧ Bth P w0 w' p q n m (put f i (tch m t (f i))) g :=
  h.call1 (fun F c => Touch_ok c i hi t h0 h1)
theorem Bth.rtouch {P : Nat → Prop} {w0 w : World} {p q n m : Nat} {f g : Nat → List Int} (h : Bth P w0 w p q n m f g) (i : Nat) (hi : i < n) (t : Int) (h0 : 0 ≤ t) (h1 : t < 18446744073709551616) :
    Calls Try.prog 24 #[.pointer (some ⟨q, 0, none⟩), .int .i64 i, .int .u64 t] w fun e w' => e = .returned (.bool (decide (t ∈ g i))) ∧ Bth P w0 w' p q n m f (put g i (tch m t (g i))) :=
  h.call2 (fun F c => rTouch_ok c i hi t h0 h1)
theorem Bth.flush {P : Nat → Prop} {w0 w : World} {p q n m : Nat} {f g : Nat → List Int} (h : Bth P w0 w p q n m f g) :
    Calls Try.prog 17 #[.pointer (some ⟨p, 0, none⟩)] w fun e w' => e = .returned (.tuple #[.int .i64 (cnt f n), .int .i64 0]) ∧ Bth P w0 w' p q n m (fun _ => []) g :=
  h.call1 (fun F c => Flush_ok c)
theorem Bth.rflush {P : Nat → Prop} {w0 w : World} {p q n m : Nat} {f g : Nat → List Int} (h : Bth P w0 w p q n m f g) :
    Calls Try.prog 28 #[.pointer (some ⟨q, 0, none⟩)] w fun e w' => e = .returned (.int .i64 (cnt g n)) ∧ Bth P w0 w' p q n m f (fun _ => []) :=
  h.call2 (fun F c => rFlush_ok c)
theorem Bth.lines {P : Nat → Prop} {w0 w : World} {p q n m : Nat} {f g : Nat → List Int} (h : Bth P w0 w p q n m f g) :
    Calls Try.prog 19 #[.pointer (some ⟨p, 0, none⟩)] w fun e w' => ∃ v, e = .returned v ∧ Lns w.heap.size w' v (lns f n) ∧ Below w.heap.size w w' := by
  obtain ⟨F, c⟩ := h.ca1
  exact Lines_ok c
theorem Bth.rlines {P : Nat → Prop} {w0 w : World} {p q n m : Nat} {f g : Nat → List Int} (h : Bth P w0 w p q n m f g) :
    Calls Try.prog 26 #[.pointer (some ⟨q, 0, none⟩)] w fun e w' => ∃ v, e = .returned v ∧ Lns w.heap.size w' v (lns g n) ∧ Below w.heap.size w w' := by
  obtain ⟨F, c⟩ := h.ca2
  exact rLines_ok c
theorem Bth.len {P : Nat → Prop} {w0 w : World} {p q n m : Nat} {f g : Nat → List Int} (h : Bth P w0 w p q n m f g) : (lns f n).length ≤ 65536 := by
  obtain ⟨F, c⟩ := h.ca1
  obtain ⟨b, V, hP⟩ := c.parts
  rw [lns_len]
  exact hP.c.cnt n (Nat.le_refl _)
end Go.Proofs.Ytpedgpaebdoafaa
