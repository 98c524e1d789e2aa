/- What the statements stand on: one answer of Take, two pools side by side, lists beside them, calls that came in; no condition but those that each theorem names. -/
import Derived.Test.YtdempgjhjcjklaaGreatVWj
namespace Go.Proofs.YtdempgjhjcjklaaGreat.P
open Go.ChangeShapes Go.WideShapes Go.ChangeAt Go.RowKit
set_option linter.unusedVariables false
set_option maxRecDepth 8192

/-- One answer of Take: a frame g, or ErrNoMem. -/
def Tko (P : Par) (us : Us) (u g e : Nat) (us' : Us) : Prop := (e = 0 ∧ Tkn P us u g us' ∧ cU us u 4096 < P.q u) ∨ (e = 4 ∧ g = 0 ∧ us' = us ∧ P.q u ≤ cU us u 4096)
theorem Tko.uniq {P : Par} {us : Us} {u g g' e e' : Nat} {us' us'' : Us} (h : Tko P us u g e us') (h' : Tko P us u g' e' us'') : g = g' ∧ e = e' ∧ us' = us'' := by
  rcases h with ⟨rfl, h1, h2⟩ | ⟨rfl, rfl, rfl, h2⟩
  · rcases h' with ⟨rfl, h3, h4⟩ | ⟨rfl, rfl, rfl, h4⟩
    · have := h1.uniq h3
      exact ⟨this.1, rfl, this.2⟩
    · omega
  · rcases h' with ⟨rfl, h3, h4⟩ | ⟨rfl, rfl, rfl, h4⟩
    · omega
    · exact ⟨rfl, rfl, rfl⟩
theorem Take_use {w : World} {F : Nat → Prop} {p : Nat} {P : Par} {us : Us} (h : Po w F p P us) (u : Nat) (h2 : 2 ≤ u) (h6 : u ≤ 6) :
    Calls Tryz.prog 36 #[.pointer (some ⟨p, 0, none⟩), .int .u8 u] w fun x w' => ∃ (g e : Nat) (us' : Us) (F' : Nat → Prop), x = .returned (.tuple #[.int .i64 g, .int .i64 e]) ∧ Tko P us u g e us' ∧ Po w' F' p P us' ∧ B.Kp F F' w w' := by
  by_cases hq : cU us u 4096 < P.q u
  · refine (Take_p h u h2 h6 hq).mono ?_
    rintro x w' ⟨g, us', F', rfl, hT, hP, hK⟩
    exact ⟨g, 0, us', F', rfl, Or.inl ⟨rfl, hT, hq⟩, hP, hK⟩
  · refine (Take_mem h u h2 h6 (by omega)).mono ?_
    rintro x w' ⟨rfl, hb⟩
    exact ⟨0, 4, us, F, rfl, Or.inr ⟨rfl, rfl, rfl, by omega⟩, h.below hb, below_kp hb⟩
theorem Tko.fre {P : Par} (hP : P.Ok) {us : Us} {u g e : Nat} {us' : Us} (h : Tko P us u g e us') : (us' = us ∧ e = 4) ∨ (e = 0 ∧ fre P us' (best P us) + 1 = fre P us (best P us) ∧ ∀ i, i < P.k → i ≠ best P us → fre P us' i = fre P us i) := by
  rcases h with ⟨rfl, ⟨a, h1, h2, h3⟩, _⟩ | ⟨rfl, rfl, rfl, _⟩
  · right
    subst h3 h2
    exact ⟨rfl, fre_take hP (best_lt hP us) h1.open u, fun i hi hne => fre_other hP (best_lt hP us) hi hne _⟩
  · exact Or.inl ⟨rfl, rfl⟩
theorem Tko.e_le {P : Par} {us : Us} {u g e : Nat} {us' : Us} (h : Tko P us u g e us') : e = 0 ∨ e = 4 := h.imp (fun q => q.1) (fun q => q.1)
/-! ### Lists beside a pool -/
theorem Is.kp {F F' : Nat → Prop} {w w' : World} {base : Nat} {v : Value} {l : List Int} (h : Is w base v l) (k : B.Kp F F' w w') (hd : ∀ g, v.ownBlock = some g → ¬ F g) : Is w' base v l ∧ ∀ g, v.ownBlock = some g → ¬ F' g := by
  refine ⟨h.of_eq (fun g hg => k.block g (h.lt g hg).2 (hd g hg)), fun g hg z => ?_⟩
  rcases k.new g z with q | q
  · exact hd g hg q
  · have := (h.lt g hg).2
    omega
/-- What is read of a list of the call's own, at a place. -/
theorem Is.cell {w : World} {base : Nat} {v : Value} {l : List Int} (h : Is w base v l) : ∃ a c, v = .slice a l.length c ∧ ∀ W, Below w.heap.size w W → ∀ i, i < l.length → ∃ g, a = some ⟨g, 0, none⟩ ∧ W.cell? ⟨g, i, none⟩ = some (.int .i64 (l.getD i 0)) := by
  rcases h.own.shape with ⟨rfl, rfl⟩ | ⟨g, cap, L, rfl, hb, h1, h2, h3, h4⟩
  · exact ⟨_, _, rfl, fun W hW i hi => by simp at hi⟩
  · refine ⟨_, _, rfl, fun W hW i hi => ⟨g, rfl, ?_⟩⟩
    rw [hW.cell (p := ⟨g, i, none⟩) hb.lt, hb.cell i, ← List.getElem?_take_of_lt hi, h4, B.tv_get]
    simp [List.getD_eq_getElem?_getD, hi]
theorem frs_getD {P : Par} {us : Us} {n i : Nat} (hi : i < n) : (frs P us n).getD i 0 = (fre P us i : Int) := by
  simp [frs, List.getD_eq_getElem?_getD, hi]
/-! ### Two pools -/
/-- Two pools behind B, sharing nothing. -/
structure Te (B0 : Nat) (w0 w : World) (Fp Fq : Nat → Prop) (p q : Nat) (P Q : Par) (up uq : Us) : Prop where
  be : Below B0 w0 w
  b0 : B0 ≤ w.heap.size
  p : Po w Fp p P up
  q : Po w Fq q Q uq
  d : ∀ x, Fp x → ¬ Fq x
  lp : ∀ x, Fp x → B0 ≤ x
  lq : ∀ x, Fq x → B0 ≤ x
theorem Te.below {B0 : Nat} {w0 w w' : World} {Fp Fq : Nat → Prop} {p q : Nat} {P Q : Par} {up uq : Us} (h : Te B0 w0 w Fp Fq p q P Q up uq) (k : Below w.heap.size w w') : Te B0 w0 w' Fp Fq p q P Q up uq :=
  ⟨h.be.trans (k.mono h.b0), Nat.le_trans h.b0 k.size, h.p.below k, h.q.below k, h.d, h.lp, h.lq⟩
theorem kp_new {F F' : Nat → Prop} {w w' : World} {B0 : Nat} (k : B.Kp F F' w w') (hb : B0 ≤ w.heap.size) (hl : ∀ x, F x → B0 ≤ x) : ∀ x, F' x → B0 ≤ x := fun x hx => by
  rcases k.new x hx with z | z
  · exact hl x z
  · omega
theorem Te.left {B0 : Nat} {w0 w w' : World} {Fp Fq Fp' : Nat → Prop} {p q : Nat} {P Q : Par} {up uq up' : Us} (h : Te B0 w0 w Fp Fq p q P Q up uq) (k : B.Kp Fp Fp' w w') (hp : Po w' Fp' p P up') : Te B0 w0 w' Fp' Fq p q P Q up' uq :=
  ⟨h.be.trans (k.below _ h.b0 h.lp), Nat.le_trans h.b0 k.size, hp, h.q.kept k (fun x hx z => h.d x z hx), fun x hx z => by
    rcases k.new x hx with y | y
    · exact h.d x y z
    · have := h.q.lt x z; omega, kp_new k h.b0 h.lp, h.lq⟩
theorem Te.right {B0 : Nat} {w0 w w' : World} {Fp Fq Fq' : Nat → Prop} {p q : Nat} {P Q : Par} {up uq uq' : Us} (h : Te B0 w0 w Fp Fq p q P Q up uq) (k : B.Kp Fq Fq' w w') (hq : Po w' Fq' q Q uq') : Te B0 w0 w' Fp Fq' p q P Q up uq' :=
  ⟨h.be.trans (k.below _ h.b0 h.lq), Nat.le_trans h.b0 k.size, h.p.kept k (fun x hx z => h.d x hx z), hq, fun x hx z => by
    rcases k.new x z with y | y
    · exact h.d x hx y
    · have := h.p.lt x hx; omega, h.lp, kp_new k h.b0 h.lq⟩
/-! ### Calls that came in -/
def Dos (w : World) (ao : Option Addr) (l : Nat) : Prop := ∀ i, i < l → ∃ (b off : Nat) (K A : Int) (U : Nat), ao = some ⟨b, off, none⟩ ∧ b < w.heap.size ∧
  w.cell? ⟨b, off + i * 3, none⟩ = some (.int .i64 K) ∧ w.cell? ⟨b, off + i * 3 + 1, none⟩ = some (.int .i64 A) ∧ w.cell? ⟨b, off + i * 3 + 2, none⟩ = some (.int .u8 U) ∧
  (-9223372036854775808 ≤ K ∧ K ≤ 9223372036854775807) ∧ (-9223372036854775808 ≤ A ∧ A ≤ 9223372036854775807) ∧ U ≤ 255
theorem Dos.at' {w : World} {ao : Option Addr} {l : Nat} (h : Dos w ao l) {i : Nat} (hi : i < l) {W : World} (hW : Below w.heap.size w W) : ∃ (b off : Nat) (K A : Int) (U : Nat), ao = some ⟨b, off, none⟩ ∧
  W.cell? ⟨b, off + i * 3, none⟩ = some (.int .i64 K) ∧ W.cell? ⟨b, off + i * 3 + 1, none⟩ = some (.int .i64 A) ∧ W.cell? ⟨b, off + i * 3 + 2, none⟩ = some (.int .u8 U) ∧
  (-9223372036854775808 ≤ K ∧ K ≤ 9223372036854775807) ∧ (-9223372036854775808 ≤ A ∧ A ≤ 9223372036854775807) ∧ U ≤ 255 := by
  obtain ⟨b, off, K, A, U, h1, h2, h3, h4, h5, h6⟩ := h i hi
  exact ⟨b, off, K, A, U, h1, (hW.cell (p := ⟨b, _, none⟩) h2).trans h3, (hW.cell (p := ⟨b, _, none⟩) h2).trans h4, (hW.cell (p := ⟨b, _, none⟩) h2).trans h5, h6⟩
theorem wpList_load_wanted {P : Program} {w : World} {ops : Array Oper} {rest : List Oper} {o : Oper} {a : Act} {Q : Exit → Act → World → Prop} (hw : Region.wanted o (yielded ops a.tmps) = true) (t : TypeId) (x : Operand)
    (ho : o.op = .load t x) (u v : Value) (hx : a.eval x = u) (hrun : (Instr.loadAt t u).run P w = .ok v w) (h : wpList P ops Q rest (a.put o.dst v) w) : wpList P ops Q (o :: rest) a w := by
  unfold wpList
  rw [if_pos hw]
  left
  unfold Oper.wp
  simp [execOp, ho, hx, hrun, Result.andThen]
  exact h
theorem fe_ways {c : Cf} {n : Int} (h : fe c n ≠ 0) : (may c = false ∧ fe c n = 5) ∨ (may c = true ∧ fe c n = 270) := by
  unfold fe at h ⊢
  cases hm : may c
  · left; simp
  · right
    rw [hm] at h
    simp only [cond_true] at h ⊢
    refine ⟨trivial, ?_⟩
    cases hq : (decide (0 ≤ n) && decide (n < (c.pn : Int)))
    · rfl
    · rw [hq] at h; simp at h
end Go.Proofs.YtdempgjhjcjklaaGreat.P
