/- Pools whose free blocks are known as lists: which frame is told next; the chapter's example; no condition but those that each theorem names. -/
import Derived.Test.YtkbpnkjjmipjfaaGreatVPe
import Derived.Test.YtkbpnkjjmipjfaaGreatVWa
namespace Go.Proofs.YtkbpnkjjmipjfaaGreat.P
open Go.ChangeShapes Go.WideShapes Go.ChangeAt Go.RowKit
set_option linter.unusedVariables false

def PU : Par := par us 0
theorem Is.arg {w : World} {base : Nat} {v : Value} {l : List Int} (h : Is w base v l) : ∃ a c, v = .slice a l.length c ∧ Arg w a l.length (fun i => l.getD i 0) := by
  rcases h.own.shape with ⟨rfl, rfl⟩ | ⟨g, cap, L, rfl, hb, h1, h2, h3, h4⟩
  · exact ⟨_, _, rfl, Or.inl rfl⟩
  · refine ⟨_, _, rfl, Or.inr ⟨g, 0, rfl, hb.lt, fun i hi => ?_⟩⟩
    rw [Nat.zero_add, hb.cell i, ← List.getElem?_take_of_lt hi, h4, B.tv_get]
    simp [List.getD_eq_getElem?_getD, hi]
end Go.Proofs.YtkbpnkjjmipjfaaGreat.P
namespace Go.Proofs.YtkbpnkjjmipjfaaGreat.P
open Go.ChangeShapes Go.WideShapes Go.ChangeAt Go.RowKit
set_option linter.unusedVariables false
set_option maxRecDepth 8192

theorem arg_two {w : World} {g : Nat} {x y : Int} (h : B.Blk w g 3 [.int .i64 x, .int .i64 y]) : Arg w (some ⟨g, 0, none⟩) 2 (fun i => [x, y].getD i 0) :=
  Or.inr ⟨g, 0, rfl, h.lt, fun i hi => by
    rw [Nat.zero_add, h.cell i]
    rcases (show i = 0 ∨ i = 1 by omega) with rfl | rfl <;> rfl⟩
theorem eq_two {w : World} {base g : Nat} {v : Value} {x y : Int} (h : Is w base v [x, y]) (hb : B.Blk w g 3 [.int .i64 x, .int .i64 y]) : Calls Tryz.prog 36 #[v, .slice (some ⟨g, 0, none⟩) 2 2] w (One (.bool true) w) := by
  obtain ⟨a, c, rfl, hA⟩ := h.arg
  exact EqInts_any (by simp) hA (arg_two hb)
theorem kp_false {F : Nat → Prop} {w w' : World} (h : B.Kp (fun _ => False) F w w') : Below w.heap.size w w' := h.below _ (Nat.le_refl _) (fun _ z => z.elim)
end Go.Proofs.YtkbpnkjjmipjfaaGreat.P
namespace Go.Proofs.YtkbpnkjjmipjfaaGreat.P
open Go.ChangeShapes Go.WideShapes Go.ChangeAt Go.RowKit
set_option linter.unusedVariables false
set_option maxRecDepth 8192

def Tko (P : Par) (us : Us) (u g e : Nat) (us' : Us) : Prop := (e = 0 ∧ Tkn P us u g us' ∧ cU us u 4096 < P.q u) ∨ (e = 4 ∧ g = 0 ∧ us' = us ∧ P.q u ≤ cU us u 4096)
theorem Take_use {w : World} {F : Nat → Prop} {p : Nat} {P : Par} {us : Us} (h : Po w F p P us) (u : Nat) (h2 : 2 ≤ u) (h6 : u ≤ 6) :
    Calls Tryz.prog 114 #[.pointer (some ⟨p, 0, none⟩), .int .u8 u] w fun x w' => ∃ (g e : Nat) (us' : Us) (F' : Nat → Prop), x = .returned (.tuple #[.int .i64 g, .int .i64 e]) ∧ Tko P us u g e us' ∧ Po w' F' p P us' ∧ B.Kp F F' w w' := by
  by_cases hq : cU us u 4096 < P.q u
  · refine (Take_p h u h2 h6 hq).mono ?_
    rintro x w' ⟨g, us', F', rfl, hT, hP, hK⟩
    exact ⟨g, 0, us', F', rfl, Or.inl ⟨rfl, hT, hq⟩, hP, hK⟩
  · refine (Take_mem h u h2 h6 (by omega)).mono ?_
    rintro x w' ⟨rfl, hb⟩
    exact ⟨0, 4, us, F, rfl, Or.inr ⟨rfl, rfl, rfl, by omega⟩, h.below hb, below_kp hb⟩
structure Te (B0 : Nat) (w0 w : World) (Fp Fq : Nat → Prop) (p q : Nat) (P Q : Par) (up uq : Us) : Prop where
  be : Below B0 w0 w
  b0 : B0 ≤ w.heap.size
  p : Po w Fp p P up
  q : Po w Fq q Q uq
  d : ∀ x, Fp x → ¬ Fq x
  lp : ∀ x, Fp x → B0 ≤ x
  lq : ∀ x, Fq x → B0 ≤ x
end Go.Proofs.YtkbpnkjjmipjfaaGreat.P
