/- Both TLBs, the program's and the reference's: what their calls answer and leave, over a state; and the two states: both there, both none. -/
import Derived.Test.YtkgmdalekakgpaaRk
import Derived.Test.YtkgmdalekakgpaaWk
import Derived.Test.YtkgmdalekakgpaaOp
namespace Go.Proofs.Ytkgmdalekakgpaa
open Go.ChangeShapes Go.WideShapes Go.ChangeAt Go.RowKit
set_option linter.unusedVariables false

/-- What the calls answer and leave. -/
structure Ans where
  pA : Int → Int → List Tr → Tr × Bool × Int
  fL : Int → Int → List Tr → List Tr
  xA : Tr → Int
  xL : Tr → List Tr → List Tr
  mA : Int → Int → List Tr → Bool × Int
  mL : Int → Int → List Tr → List Tr
  dL : Int → Int → List Tr → List Tr
  aA : Int → List Tr → Int × Int
  aL : Int → List Tr → List Tr
  eA : List Tr → Int × Int
  eL : List Tr → List Tr
/-- A state of both, with what each call of either makes of it. -/
structure Orc (A : Ans) (T R : Option Addr) (S : (Nat → Prop) → World → World → List Tr → List Tr → Prop) : Prop where
  kpt : ∀ {P w0 w l m}, S P w0 w l m → Kpt P w0 w
  len : ∀ {P w0 w l m}, S P w0 w l m → l.length ≤ 64 ∧ m.length ≤ 64
  below : ∀ {P w0 w l m w'}, S P w0 w l m → Below w.heap.size w w' → S P w0 w' l m
  more : ∀ {P w0 w l m w'}, S P w0 w l m → Below w.heap.size w w' → S (fun i => P i ∨ (w.heap.size ≤ i ∧ i < w'.heap.size)) w' w' l m
  less : ∀ {P Q w0 w1 w2 l m}, Kpt P w0 w1 → S Q w1 w2 l m → (∀ i, P i → Q i) → S P w0 w2 l m
  find1 : ∀ {P w0 w l m}, S P w0 w l m → ∀ a g, Calls Try.prog 16 #[.pointer T, .int .i64 a, .int .i64 g] w fun e w' => e = .returned (.tuple #[.agg #[.int .i64 (A.pA a g l).1.a, .int .i64 (A.pA a g l).1.p, .int .i64 (A.pA a g l).1.f, .bool (A.pA a g l).1.r, .bool (A.pA a g l).1.w, .bool (A.pA a g l).1.d], .bool (A.pA a g l).2.1, .int .i64 (A.pA a g l).2.2]) ∧ S P w0 w' (A.fL a g l) m
  find2 : ∀ {P w0 w l m}, S P w0 w l m → ∀ a g, Calls Try.prog 29 #[.pointer R, .int .i64 a, .int .i64 g] w fun e w' => e = .returned (.tuple #[.agg #[.int .i64 (A.pA a g m).1.a, .int .i64 (A.pA a g m).1.p, .int .i64 (A.pA a g m).1.f, .bool (A.pA a g m).1.r, .bool (A.pA a g m).1.w, .bool (A.pA a g m).1.d], .bool (A.pA a g m).2.1, .int .i64 (A.pA a g m).2.2]) ∧ S P w0 w' l (A.fL a g m)
  peek1 : ∀ {P w0 w l m}, S P w0 w l m → ∀ a g, Calls Try.prog 24 #[.pointer T, .int .i64 a, .int .i64 g] w fun e w' => e = .returned (.tuple #[.agg #[.int .i64 (A.pA a g l).1.a, .int .i64 (A.pA a g l).1.p, .int .i64 (A.pA a g l).1.f, .bool (A.pA a g l).1.r, .bool (A.pA a g l).1.w, .bool (A.pA a g l).1.d], .bool (A.pA a g l).2.1, .int .i64 (A.pA a g l).2.2]) ∧ S P w0 w' l m
  peek2 : ∀ {P w0 w l m}, S P w0 w l m → ∀ a g, Calls Try.prog 30 #[.pointer R, .int .i64 a, .int .i64 g] w fun e w' => e = .returned (.tuple #[.agg #[.int .i64 (A.pA a g m).1.a, .int .i64 (A.pA a g m).1.p, .int .i64 (A.pA a g m).1.f, .bool (A.pA a g m).1.r, .bool (A.pA a g m).1.w, .bool (A.pA a g m).1.d], .bool (A.pA a g m).2.1, .int .i64 (A.pA a g m).2.2]) ∧ S P w0 w' l m
  fill1 : ∀ {P w0 w l m}, S P w0 w l m → ∀ x : Tr, Calls Try.prog 18 #[.pointer T, .agg #[.int .i64 x.a, .int .i64 x.p, .int .i64 x.f, .bool x.r, .bool x.w, .bool x.d]] w fun e w' => e = .returned (.int .i64 (A.xA x)) ∧ S P w0 w' (A.xL x l) m
  fill2 : ∀ {P w0 w l m}, S P w0 w l m → ∀ x : Tr, Calls Try.prog 31 #[.pointer R, .agg #[.int .i64 x.a, .int .i64 x.p, .int .i64 x.f, .bool x.r, .bool x.w, .bool x.d]] w fun e w' => e = .returned (.int .i64 (A.xA x)) ∧ S P w0 w' l (A.xL x m)
  mark1 : ∀ {P w0 w l m}, S P w0 w l m → ∀ a g, Calls Try.prog 22 #[.pointer T, .int .i64 a, .int .i64 g] w fun e w' => e = .returned (.tuple #[.bool (A.mA a g l).1, .int .i64 (A.mA a g l).2]) ∧ S P w0 w' (A.mL a g l) m
  mark2 : ∀ {P w0 w l m}, S P w0 w l m → ∀ a g, Calls Try.prog 32 #[.pointer R, .int .i64 a, .int .i64 g] w fun e w' => e = .returned (.tuple #[.bool (A.mA a g m).1, .int .i64 (A.mA a g m).2]) ∧ S P w0 w' l (A.mL a g m)
  drop1 : ∀ {P w0 w l m}, S P w0 w l m → ∀ a g, Calls Try.prog 19 #[.pointer T, .int .i64 a, .int .i64 g] w fun e w' => e = .returned (.tuple #[.bool (A.mA a g l).1, .int .i64 (A.mA a g l).2]) ∧ S P w0 w' (A.dL a g l) m
  drop2 : ∀ {P w0 w l m}, S P w0 w l m → ∀ a g, Calls Try.prog 33 #[.pointer R, .int .i64 a, .int .i64 g] w fun e w' => e = .returned (.tuple #[.bool (A.mA a g m).1, .int .i64 (A.mA a g m).2]) ∧ S P w0 w' l (A.dL a g m)
  dall1 : ∀ {P w0 w l m}, S P w0 w l m → ∀ a, Calls Try.prog 23 #[.pointer T, .int .i64 a] w fun e w' => e = .returned (.tuple #[.int .i64 (A.aA a l).1, .int .i64 (A.aA a l).2]) ∧ S P w0 w' (A.aL a l) m
  dall2 : ∀ {P w0 w l m}, S P w0 w l m → ∀ a, Calls Try.prog 34 #[.pointer R, .int .i64 a] w fun e w' => e = .returned (.tuple #[.int .i64 (A.aA a m).1, .int .i64 (A.aA a m).2]) ∧ S P w0 w' l (A.aL a m)
  empt1 : ∀ {P w0 w l m}, S P w0 w l m → Calls Try.prog 26 #[.pointer T] w fun e w' => e = .returned (.tuple #[.int .i64 (A.eA l).1, .int .i64 (A.eA l).2]) ∧ S P w0 w' (A.eL l) m
  empt2 : ∀ {P w0 w l m}, S P w0 w l m → Calls Try.prog 35 #[.pointer R] w fun e w' => e = .returned (.tuple #[.int .i64 (A.eA m).1, .int .i64 (A.eA m).2]) ∧ S P w0 w' l (A.eL m)
  all1 : ∀ {P w0 w l m}, S P w0 w l m → Calls Try.prog 11 #[.pointer T] w fun e w' => ∃ v, e = .returned v ∧ Own w.heap.size w' v l ∧ Below w.heap.size w w'
  all2 : ∀ {P w0 w l m}, S P w0 w l m → Calls Try.prog 13 #[.pointer R] w fun e w' => ∃ v, e = .returned v ∧ Own w.heap.size w' v m ∧ Below w.heap.size w w'
/-! ### Both there -/
def Bth (p q n : Nat) (P : Nat → Prop) (w0 w : World) (l m : List Tr) : Prop :=
  ∃ F G, Ca w F p n l ∧ Ca w G q n m ∧ (∀ k, F k → ¬ G k) ∧ (∀ k, P k → ¬ F k) ∧ (∀ k, P k → ¬ G k) ∧ Kpt P w0 w
theorem Bth.call1 {p q n : Nat} {P : Nat → Prop} {w0 w : World} {l m l' : List Tr} (h : Bth p q n P w0 w l m) {fn : FuncId} {args : Array Value} {R : Ending → Prop}
    (hc : ∀ F, Ca w F p n l → Calls Try.prog fn args w fun e w' => R e ∧ Lv w F p n l' w') : Calls Try.prog fn args w fun e w' => R e ∧ Bth p q n P w0 w' l' m := by
  obtain ⟨F, G, c, d, x, y, z, t⟩ := h
  refine (hc F c).mono ?_
  rintro e w' ⟨he, F', c', k⟩
  refine ⟨he, F', G, c', d.kept k (fun i hi hF => x i hF hi), fun i hi hG => ?_, fun i hi hF => ?_, z, t.kp k y⟩
  · rcases k.new i hi with u | u
    · exact x i u hG
    · have := d.lt i hG; omega
  · rcases k.new i hF with u | u
    · exact y i hi u
    · have := t.lt i hi; have := t.size; omega
theorem Bth.call2 {p q n : Nat} {P : Nat → Prop} {w0 w : World} {l m m' : List Tr} (h : Bth p q n P w0 w l m) {fn : FuncId} {args : Array Value} {R : Ending → Prop}
    (hc : ∀ F, Ca w F q n m → Calls Try.prog fn args w fun e w' => R e ∧ Lv w F q n m' w') : Calls Try.prog fn args w fun e w' => R e ∧ Bth p q n P w0 w' l m' := by
  obtain ⟨F, G, c, d, x, y, z, t⟩ := h
  refine (hc G d).mono ?_
  rintro e w' ⟨he, G', d', k⟩
  refine ⟨he, F, G', c.kept k (fun i hi hG => x i hi hG), d', fun i hi hG => ?_, y, fun i hi hG => ?_, t.kp k z⟩
  · rcases k.new i hG with u | u
    · exact x i hi u
    · have := c.lt i hi; omega
  · rcases k.new i hG with u | u
    · exact z i hi u
    · have := t.lt i hi; have := t.size; omega
theorem Bth.below {p q n : Nat} {P : Nat → Prop} {w0 w w' : World} {l m : List Tr} (h : Bth p q n P w0 w l m) (k : Below w.heap.size w w') : Bth p q n P w0 w' l m := by
  obtain ⟨F, G, c, d, x, y, z, t⟩ := h
  exact ⟨F, G, c.below k, d.below k, x, y, z, t.below k⟩
def thA (n : Nat) : Ans := ⟨pk, fd, filE, filL n, isT, mrkL, rmL, dal, dalL, fun l => (l.length, 0), fun _ => []⟩
theorem orc_th (p q n : Nat) : Orc (thA n) (some ⟨p, 0, none⟩) (some ⟨q, 0, none⟩) (Bth p q n) where
  kpt := fun ⟨_, _, _, _, _, _, _, t⟩ => t
  len := fun ⟨_, _, ⟨_, a⟩, ⟨_, b⟩, _⟩ => ⟨Nat.le_trans a.c.len a.c.n64, Nat.le_trans b.c.len b.c.n64⟩
  below := fun h k => h.below k
  more := fun {P w0 w l m w'} h k => by
    obtain ⟨F, G, c, d, x, y, z, t⟩ := h
    have s1 := t.size
    have s2 := k.size
    refine ⟨F, G, c.below k, d.below k, x, fun i hi hF => ?_, fun i hi hF => ?_, rfl, rfl, rfl, Nat.le_refl _, fun _ _ => rfl, fun i hi => ?_⟩
    · rcases hi with u | u
      · exact y i u hF
      · have := c.lt i hF; omega
    · rcases hi with u | u
      · exact z i u hF
      · have := d.lt i hF; omega
    · rcases hi with u | u
      · have := t.lt i u; omega
      · exact u.2
  less := fun {P Q w0 w1 w2 l m} k h hPQ => by
    obtain ⟨F, G, c, d, x, y, z, t⟩ := h
    exact ⟨F, G, c, d, x, fun i hi => y i (hPQ i hi), fun i hi => z i (hPQ i hi), k.trans t hPQ⟩
  find1 := fun h a g => h.call1 (fun F c => Find_ok c a g)
  find2 := fun h a g => h.call2 (fun F c => RFind_ok c a g)
  peek1 := fun h a g => h.call1 (fun F c => (Peek_ok c a g).mono (fun e w' q => ⟨q.1, Lv.of_below c q.2⟩))
  peek2 := fun h a g => h.call2 (fun F c => (RPeek_ok c a g).mono (fun e w' q => ⟨q.1, Lv.of_below c q.2⟩))
  fill1 := fun h x => h.call1 (fun F c => Fill_ok c x)
  fill2 := fun h x => h.call2 (fun F c => RFill_ok c x)
  mark1 := fun h a g => h.call1 (fun F c => Mark_ok c a g)
  mark2 := fun h a g => h.call2 (fun F c => RMark_ok c a g)
  drop1 := fun h a g => h.call1 (fun F c => Drop_ok c a g)
  drop2 := fun h a g => h.call2 (fun F c => RDrop_ok c a g)
  dall1 := fun h a => h.call1 (fun F c => DropAll_ok c a)
  dall2 := fun h a => h.call2 (fun F c => RDropAll_ok c a)
  empt1 := fun h => h.call1 (fun F c => Empty_ok c)
  empt2 := fun h => h.call2 (fun F c => REmpty_ok c)
  all1 := fun ⟨_, _, c, _, _⟩ => All_ok c
  all2 := fun ⟨_, _, _, d, _⟩ => RAll_ok d
/-! ### Both none -/
def Non (P : Nat → Prop) (w0 w : World) (l m : List Tr) : Prop := Kpt P w0 w ∧ l = [] ∧ m = []
def noA : Ans := ⟨fun _ _ _ => (z0, false, 1), fun _ _ l => l, fun _ => 1, fun _ l => l, fun _ _ _ => (false, 1), fun _ _ l => l, fun _ _ l => l, fun _ _ => (0, 1), fun _ l => l, fun _ => (0, 1), fun l => l⟩
theorem Non.of_below {P : Nat → Prop} {w0 w : World} {l m : List Tr} (h : Non P w0 w l m) {fn : FuncId} {args : Array Value} {R : Ending → Prop}
    (hc : Calls Try.prog fn args w fun e w' => R e ∧ Below w.heap.size w w') : Calls Try.prog fn args w fun e w' => R e ∧ Non P w0 w' l m :=
  hc.mono (fun e w' q => ⟨q.1, h.1.below q.2, h.2⟩)
theorem Non.of_eq {P : Nat → Prop} {w0 w : World} {l m : List Tr} (h : Non P w0 w l m) {fn : FuncId} {args : Array Value} {R : Ending → Prop}
    (hc : Calls Try.prog fn args w fun e w' => R e ∧ w' = w) : Calls Try.prog fn args w fun e w' => R e ∧ Non P w0 w' l m :=
  hc.mono (fun e w' q => ⟨q.1, by rw [q.2]; exact h⟩)
theorem nn (w : World) : NoT w none := Or.inl rfl
theorem orc_no : Orc noA none none Non where
  kpt := fun h => h.1
  len := fun h => by rw [h.2.1, h.2.2]; simp
  below := fun h k => ⟨h.1.below k, h.2⟩
  more := fun {P w0 w l m w'} h k => ⟨⟨rfl, rfl, rfl, Nat.le_refl _, fun _ _ => rfl, fun i hi => by
    have s1 := h.1.size
    have s2 := k.size
    rcases hi with u | u
    · have := h.1.lt i u; omega
    · exact u.2⟩, h.2⟩
  less := fun k h hPQ => ⟨k.trans h.1 hPQ, h.2⟩
  find1 := fun {P w0 w l m} h a g => h.of_below (Find_nil (nn w) a g)
  find2 := fun {P w0 w l m} h a g => h.of_below (RFind_miss (miss_nil w a g))
  peek1 := fun {P w0 w l m} h a g => h.of_below (Peek_nil (nn w) a g)
  peek2 := fun {P w0 w l m} h a g => h.of_below (RPeek_nil w a g)
  fill1 := fun {P w0 w l m} h x => h.of_below (Fill_nil (nn w) x)
  fill2 := fun {P w0 w l m} h x => h.of_below (RFill_nil w x)
  mark1 := fun {P w0 w l m} h a g => h.of_below (Mark_nil (nn w) a g)
  mark2 := fun {P w0 w l m} h a g => h.of_below (RMark_miss (miss_nil w a g))
  drop1 := fun {P w0 w l m} h a g => h.of_below (Drop_nil (nn w) a g)
  drop2 := fun {P w0 w l m} h a g => h.of_below (RDrop_miss (miss_nil w a g))
  dall1 := fun {P w0 w l m} h a => h.of_below (DropAll_nil (nn w) a)
  dall2 := fun {P w0 w l m} h a => h.of_eq (RDropAll_nil w a)
  empt1 := fun {P w0 w l m} h => h.of_eq (Empty_nil (nn w))
  empt2 := fun {P w0 w l m} h => h.of_eq (REmpty_nil w)
  all1 := fun {P w0 w l m} h => (All_nil (nn w)).mono (fun e w' q => ⟨_, q.1, by rw [h.2.1]; exact Own.nil _ _, by rw [q.2]; exact Below.refl _ _⟩)
  all2 := fun {P w0 w l m} h => (RAll_nil w).mono (fun e w' q => ⟨_, q.1, by rw [h.2.2]; exact Own.nil _ _, by rw [q.2]; exact Below.refl _ _⟩)
end Go.Proofs.Ytkgmdalekakgpaa
