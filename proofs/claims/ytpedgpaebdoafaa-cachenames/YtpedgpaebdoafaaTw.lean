/- Two caches beside one another and the boxed struct: what a touch of one leaves of both; how numbers that came in are read. -/
import Derived.Test.YtpedgpaebdoafaaLw
import Derived.Deep.RegionHeld3
namespace Go.Proofs.Ytpedgpaebdoafaa
open Go.ChangeShapes Go.WideShapes Go.ChangeAt Go.RowKit
set_option linter.unusedVariables false

/-- Numbers that came in: l of them, the i-th is f i. -/
def Arg (k : IntKind) (w : World) (ao : Option Addr) (l : Nat) (f : Nat → Int) : Prop := l = 0 ∨ ∃ b off, ao = some ⟨b, off, none⟩ ∧ b < w.heap.size ∧ ∀ i, i < l → w.cell? ⟨b, off + i, none⟩ = some (.int k (f i))
theorem Arg.at' {k : IntKind} {w w' : World} {ao : Option Addr} {l : Nat} {f : Nat → Int} (h : Arg k w ao l f) (hb : Below w.heap.size w w') {i : Nat} (hi : i < l) : ∃ b off, ao = some ⟨b, off, none⟩ ∧ w'.cell? ⟨b, off + i, none⟩ = some (.int k (f i)) := by
  rcases h with h | ⟨b, off, e, hl, hr⟩
  · omega
  · exact ⟨b, off, e, (hb.cell (p := ⟨b, off + i, none⟩) hl).trans (hr i hi)⟩
/-- A struct that was boxed: its cells at block B. -/
def Bx (w : World) (B : Nat) (vs : List Value) : Prop := B < w.heap.size ∧ ∀ i v, vs[i]? = some v → w.cell? ⟨B, i, none⟩ = some v
theorem bx_new (w : World) (cs : Array Value) (t : TypeId) : Bx (w.alloc (.cells cs t)) w.heap.size cs.toList :=
  ⟨by simp, fun i v hv => by rw [cell_of_row _ _ i _ t (0, 0) (heap_alloc_last w _)]; simpa using hv⟩
theorem Bx.of_eq {w w' : World} {B : Nat} {vs : List Value} (h : Bx w B vs) (hs : w.heap.size ≤ w'.heap.size) (e : w'.heap[B]? = w.heap[B]?) : Bx w' B vs :=
  ⟨Nat.lt_of_lt_of_le h.1 hs, fun i v hv => (World.cell?_of_block (w := w) (a := ⟨B, i, none⟩) e).trans (h.2 i v hv)⟩
theorem Bx.below {w w' : World} {B : Nat} {vs : List Value} (h : Bx w B vs) (k : Below w.heap.size w w') : Bx w' B vs := h.of_eq k.size (k.block B h.1)
/-- The six fields. -/
def tV (K Ways Set : Int) (aS : Option Addr) (lS cS : Nat) (aT : Option Addr) (lT cT : Nat) (aO : Option Addr) (lO cO : Nat) : List Value := [.int .i64 K, .int .i64 Ways, .int .i64 Set, .slice aS lS cS, .slice aT lT cT, .slice aO lO cO]
/-- Where the statement stands: the box, and nothing old turned. -/
def Std (w0 : World) (vs : List Value) (w : World) : Prop := Bx w w0.heap.size vs ∧ Below w0.heap.size w0 w
theorem Std.kp {w0 w w' : World} {vs : List Value} {F F' : Nat → Prop} (h : Std w0 vs w) (k : Kp F F' w w') (hF : ∀ i, F i → w0.heap.size < i) : Std w0 vs w' :=
  ⟨h.1.of_eq k.size (k.block _ h.1.1 (fun q => by have := hF _ q; omega)), h.2.trans (k.below _ h.2.size (fun i q => Nat.le_of_lt (hF i q)))⟩
theorem Std.below {w0 w w' : World} {vs : List Value} (h : Std w0 vs w) (k : Below w.heap.size w w') : Std w0 vs w' := ⟨h.1.below k, h.2.trans (k.mono h.2.size)⟩
/-- One cache. -/
def One (w0 : World) (vs : List Value) (w : World) (p n ways : Nat) (f : Nat → List Int) : Prop := ∃ F, Ca w F p n ways f ∧ (∀ k, F k → w0.heap.size < k) ∧ Std w0 vs w
/-- Two caches. -/
def Two (w0 : World) (vs : List Value) (w : World) (p q n ways : Nat) (f g : Nat → List Int) : Prop := ∃ F G, Ca w F p n ways f ∧ Ca w G q n ways g ∧ (∀ k, F k → ¬ G k) ∧ (∀ k, F k → w0.heap.size < k) ∧ (∀ k, G k → w0.heap.size < k) ∧ Std w0 vs w
theorem One.std {w0 w : World} {vs : List Value} {p n ways : Nat} {f : Nat → List Int} (h : One w0 vs w p n ways f) : Std w0 vs w := by obtain ⟨F, _, _, s⟩ := h; exact s
theorem Two.std {w0 w : World} {vs : List Value} {p q n ways : Nat} {f g : Nat → List Int} (h : Two w0 vs w p q n ways f g) : Std w0 vs w := by obtain ⟨F, G, _, _, _, _, _, s⟩ := h; exact s
theorem One.below {w0 w w' : World} {vs : List Value} {p n ways : Nat} {f : Nat → List Int} (h : One w0 vs w p n ways f) (k : Below w.heap.size w w') : One w0 vs w' p n ways f := by
  obtain ⟨F, c, l, s⟩ := h
  exact ⟨F, c.below k, l, s.below k⟩
theorem Two.below {w0 w w' : World} {vs : List Value} {p q n ways : Nat} {f g : Nat → List Int} (h : Two w0 vs w p q n ways f g) (k : Below w.heap.size w w') : Two w0 vs w' p q n ways f g := by
  obtain ⟨F, G, c, d, x, l, m, s⟩ := h
  exact ⟨F, G, c.below k, d.below k, x, l, m, s.below k⟩
theorem One.start {w0 w w' : World} {vs : List Value} {p n ways : Nat} {F : Nat → Prop} {f : Nat → List Int} (h : Std w0 vs w) (c : Ca w' F p n ways f) (k : Kp (fun _ => False) F w w') : One w0 vs w' p n ways f :=
  ⟨F, c, fun i hi => by have := h.1.1; rcases k.new i hi with q | q; exact q.elim; omega, h.kp k (fun i q => q.elim)⟩
theorem Two.start {w0 w w' : World} {vs : List Value} {p q n ways : Nat} {G : Nat → Prop} {f g : Nat → List Int} (h : One w0 vs w p n ways f) (c : Ca w' G q n ways g) (k : Kp (fun _ => False) G w w') : Two w0 vs w' p q n ways f g := by
  obtain ⟨F, d, l, s⟩ := h
  refine ⟨F, G, d.kept k (fun i _ q => q), c, fun i hi hg => ?_, l, fun i hi => ?_, s.kp k (fun i q => q.elim)⟩
  · have := d.1 i hi
    rcases k.new i hg with q | q
    · exact q
    · omega
  · have := s.1.1
    rcases k.new i hi with q | q
    · exact q.elim
    · omega
theorem One.touch {w0 w : World} {vs : List Value} {p n ways : Nat} {f : Nat → List Int} (h : One w0 vs w p n ways f) (i : Nat) (hi : i < n) (t : Int) (h0 : 0 ≤ t) (h1 : t < 18446744073709551616) :
    Calls Try.prog 14 #[.pointer (some ⟨p, 0, none⟩), .int .i64 i, .int .u64 t] w fun e w' => e = .returned (.tuple #[.bool (decide (t ∈ f i)), .int .i64 0]) ∧ One w0 vs w' p n ways (put f i (tch ways t (f i))) := by
  obtain ⟨F, c, l, s⟩ := h
  refine (Touch_ok c i hi t h0 h1).mono ?_
  rintro e w' ⟨he, F', c', k⟩
  have := s.1.1
  have sz := s.2.size
  refine ⟨he, F', c', fun j hj => ?_, s.kp k l⟩
  rcases k.new j hj with q | q
  · exact l j q
  · omega
theorem Two.touch1 {w0 w : World} {vs : List Value} {p q n ways : Nat} {f g : Nat → List Int} (h : Two w0 vs w p q n ways f g) (i : Nat) (hi : i < n) (t : Int) (h0 : 0 ≤ t) (h1 : t < 18446744073709551616) :
    Calls Try.prog 14 #[.pointer (some ⟨p, 0, none⟩), .int .i64 i, .int .u64 t] w fun e w' => e = .returned (.tuple #[.bool (decide (t ∈ f i)), .int .i64 0]) ∧ Two w0 vs w' p q n ways (put f i (tch ways t (f i))) g := by
  obtain ⟨F, G, c, d, x, l, m, s⟩ := h
  refine (Touch_ok c i hi t h0 h1).mono ?_
  rintro e w' ⟨he, F', c', k⟩
  have := s.1.1
  refine ⟨he, F', G, c', d.kept k (fun j hj hf => x j hf hj), fun j hj hg => ?_, fun j hj => ?_, m, s.kp k l⟩
  · rcases k.new j hj with z | z
    · exact x j z hg
    · have := d.1 j hg; omega
  · rcases k.new j hj with z | z
    · exact l j z
    · omega
theorem Two.swap {w0 w : World} {vs : List Value} {p q n ways : Nat} {f g : Nat → List Int} (h : Two w0 vs w p q n ways f g) : Two w0 vs w q p n ways g f := by
  obtain ⟨F, G, c, d, x, l, m, s⟩ := h
  exact ⟨G, F, d, c, fun k hk hf => x k hf hk, m, l, s⟩
theorem Two.touch2 {w0 w : World} {vs : List Value} {p q n ways : Nat} {f g : Nat → List Int} (h : Two w0 vs w p q n ways f g) (i : Nat) (hi : i < n) (t : Int) (h0 : 0 ≤ t) (h1 : t < 18446744073709551616) :
    Calls Try.prog 14 #[.pointer (some ⟨q, 0, none⟩), .int .i64 i, .int .u64 t] w fun e w' => e = .returned (.tuple #[.bool (decide (t ∈ g i)), .int .i64 0]) ∧ Two w0 vs w' p q n ways f (put g i (tch ways t (g i))) := by
  refine (h.swap.touch1 i hi t h0 h1).mono ?_
  rintro e w' ⟨he, T⟩
  exact ⟨he, T.swap⟩
theorem below_drew (w : World) (B : Nat) : Below B w w.drew := (Below.refl B w).drew
theorem below_drewN (w : World) (B n : Nat) : Below B w (w.drewN n) := ⟨rfl, rfl, rfl, Nat.le_refl _, fun _ _ => rfl⟩
/-- A made cache, in the statement's place. -/
theorem made_one {w0 w : World} {vs : List Value} (h : Std w0 vs w) (k ways : Int) (r s n m : Nat) (hn : 2 ^ r = n) (hm : 1 + s = m) (hr : r < 5) (hs : s < 8) (hk0 : -9223372036854775808 ≤ k) (hk1 : k < 9223372036854775808) (hw0 : -9223372036854775808 ≤ ways) (hw1 : ways < 9223372036854775808) (er : k % 5 = r) (es : ways % 8 = s) :
    Calls Try.prog 12 #[.int .i64 k, .int .i64 ways] w fun e w' => ∃ p, e = .returned (.tuple #[.pointer (some ⟨p, 0, none⟩), .int .i64 n, .int .i64 m]) ∧ One w0 vs w' p n m (fun _ => []) := by
  subst hn hm
  refine (made_of k ways r s hr hs hk0 hk1 hw0 hw1 er es w).mono ?_
  rintro e w' ⟨p, F, he, c, K⟩
  exact ⟨p, he, One.start h c K⟩
theorem made_two {w0 w : World} {vs : List Value} {p : Nat} {f : Nat → List Int} (k ways : Int) (r s n m : Nat) (h : One w0 vs w p n m f) (hn : 2 ^ r = n) (hm : 1 + s = m) (hr : r < 5) (hs : s < 8) (hk0 : -9223372036854775808 ≤ k) (hk1 : k < 9223372036854775808) (hw0 : -9223372036854775808 ≤ ways) (hw1 : ways < 9223372036854775808) (er : k % 5 = r) (es : ways % 8 = s) :
    Calls Try.prog 12 #[.int .i64 k, .int .i64 ways] w fun e w' => ∃ q, e = .returned (.tuple #[.pointer (some ⟨q, 0, none⟩), .int .i64 n, .int .i64 m]) ∧ Two w0 vs w' p q n m f (fun _ => []) := by
  subst hn hm
  refine (made_of k ways r s hr hs hk0 hk1 hw0 hw1 er es w).mono ?_
  rintro e w' ⟨q, F, he, c, K⟩
  exact ⟨q, he, Two.start h c K⟩
end Go.Proofs.Ytpedgpaebdoafaa
