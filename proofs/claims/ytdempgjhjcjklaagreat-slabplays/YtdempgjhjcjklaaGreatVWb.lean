/- Pools whose free blocks are known as lists: which frame is told next; the chapter's example; no condition but those that each theorem names. -/
import Derived.Test.YtdempgjhjcjklaaGreatVPe
import Derived.Test.YtdempgjhjcjklaaGreatVWa
namespace Go.Proofs.YtdempgjhjcjklaaGreat.P
open Go.ChangeShapes Go.WideShapes Go.ChangeAt Go.RowKit
set_option linter.unusedVariables false

def Lv (P : Par) (us : Us) (Lc : Nat → Nat → List Nat) : Prop := ∀ i, i < P.k → ∃ tk, B.St P.N (opn P us i) (Lc i) tk
theorem lv_new (P : Par) : Lv P (fun _ => none) (fun _ => B.nwL P.N) := fun i hi => ⟨fun _ => none, by rw [opn_new]; exact B.St.new P.N⟩
theorem Lv.fre {P : Par} {us : Us} {Lc : Nat → Nat → List Nat} (h : Lv P us Lc) {i : Nat} (hi : i < P.k) : fre P us i = B.fr (Lc i) := by
  obtain ⟨tk, st⟩ := h i hi
  exact st.cn
theorem Lv.best {P : Par} {us : Us} {Lc : Nat → Nat → List Nat} (h : Lv P us Lc) (hk : 1 ≤ P.k) : best P us = bs (fun i => B.fr (Lc i)) (P.k - 1) := bs_congr _ (fun i hi => h.fre (by omega))
theorem Lv.nx {P : Par} {us : Us} {Lc : Nat → Nat → List Nat} (h : Lv P us Lc) {i o k a : Nat} {r : List Nat} (hi : i < P.k) (ho : o ≤ k) (hk : k ≤ 6) (he : ∀ j, j < k → o ≤ j → Lc i j = []) (hL : Lc i k = a :: r) : Nx (opn P us i) o a := by
  obtain ⟨tk, st⟩ := h i hi
  exact st_nx st ho hk (fun j h1 h2 => he j h2 h1) hL
theorem Lv.mark {P : Par} (hP : P.Ok) {us : Us} {Lc : Nat → Nat → List Nat} (h : Lv P us Lc) {i k a : Nat} {r : List Nat} (hi : i < P.k) (hk : k ≤ 6) (he : ∀ j, j < k → Lc i j = []) (hL : Lc i k = a :: r) (u : Nat) : Lv P (B.pt us (fm P i a) (some u)) (B.put Lc i (B.tkL (Lc i) 0 k a)) := by
  intro j hj
  by_cases e : j = i
  · subst e
    obtain ⟨tk, st⟩ := h j hj
    have s1 := (st.take (Nat.zero_le _) hk (fun m _ h2 => he m h2) hL).1
    rw [Nat.pow_zero, Nat.div_one] at s1
    refine ⟨B.pt tk a (some 0), ?_⟩
    rw [B.put_same, opn_same hP hj u]
    exact s1
  · obtain ⟨tk, st⟩ := h j hj
    refine ⟨tk, ?_⟩
    rw [B.put_other _ _ _ _ e, opn_other hP hi hj e]
    exact st
theorem Lv.take {P : Par} (hP : P.Ok) {us us' : Us} {Lc : Nat → Nat → List Nat} (h : Lv P us Lc) {i k a u g : Nat} {r : List Nat} (hb : bs (fun i => B.fr (Lc i)) (P.k - 1) = i) (hk : k ≤ 6) (he : ∀ j, j < k → Lc i j = []) (hL : Lc i k = a :: r) (hT : Tkn P us u g us') :
    g = fm P i a ∧ us' = B.pt us (fm P i a) (some u) ∧ Lv P us' (B.put Lc i (B.tkL (Lc i) 0 k a)) := by
  have hi := best_lt hP us
  rw [h.best hP.k1, hb] at hi
  have hn : Nx (opn P us i) 0 a := h.nx hi (Nat.zero_le _) hk (fun j h1 _ => he j h1) hL
  obtain ⟨a', h1, h2, h3⟩ := hT
  rw [h.best hP.k1, hb] at h1 h2
  obtain rfl := h1.uniq hn
  subst h2
  exact ⟨rfl, h3, by rw [h3]; exact h.mark hP hi hk he hL u⟩
theorem Lv.image {P : Par} (hP : P.Ok) {us : Us} {Lc : Nat → Nat → List Nat} (h : Lv P us Lc) {k a : Nat} {r : List Nat} (ho : P.o ≤ k) (hk : k ≤ 6) (he : ∀ j, j < k → P.o ≤ j → Lc 0 j = []) (hL : Lc 0 k = a :: r) : Lv P (mkI P us a (2 ^ P.o)) (B.put Lc 0 (B.tkL (Lc 0) P.o k a)) := by
  intro j hj
  by_cases e : j = 0
  · subst e
    obtain ⟨tk, st⟩ := h 0 hj
    obtain ⟨s1, _, s3, _⟩ := st.take ho hk (fun m h1 h2 => he m h2 h1) hL
    refine ⟨B.pt tk a (some P.o), ?_⟩
    rw [B.put_same, opn_image hP us s3]
    exact s1
  · obtain ⟨tk, st⟩ := h j hj
    refine ⟨tk, ?_⟩
    rw [B.put_other _ _ _ _ e, opn_mk_other hP us a _ hj e]
    exact st
def PU : Par := par us 0
theorem PU_ok : PU.Ok := par_ok (may_iff.1 us_may) (by decide)
def L1 : Nat → Nat → List Nat := B.put (fun _ => B.nwL 16) 0 (B.tkL (B.nwL 16) 1 4 0)
def L2 : Nat → Nat → List Nat := B.put L1 1 (B.tkL (L1 1) 0 4 0)
def L3 : Nat → Nat → List Nat := B.put L2 1 (B.tkL (L2 1) 0 0 1)
theorem u_nx : Nx (opn PU (fun _ => none) 0) PU.o 0 := (lv_new PU).nx (i := 0) (k := 4) (r := []) (by decide) (by decide) (by decide) (by decide) (by decide)
def u1 : Us := mkI PU (fun _ => none) 0 (2 ^ PU.o)
theorem u1_lv : Lv PU u1 L1 := (lv_new PU).image PU_ok (k := 4) (r := []) (by decide) (by decide) (by decide) (by decide)
theorem u_room : Room PU (fun _ => none) 0 (2 ^ PU.o) := room_of (u_nx.wh.1) (u_nx.wh.2)
theorem u1_c (u : Nat) (h : u ≠ 1) : cU u1 u 4096 = 0 := by
  unfold u1
  rw [cU_mk PU_ok u_room u (Nat.le_refl _), cU_none, if_neg h]
theorem Is.arg {w : World} {base : Nat} {v : Value} {l : List Int} (h : Is w base v l) : ∃ a c, v = .slice a l.length c ∧ Arg w a l.length (fun i => l.getD i 0) := by
  rcases h.own.shape with ⟨rfl, rfl⟩ | ⟨g, cap, L, rfl, hb, h1, h2, h3, h4⟩
  · exact ⟨_, _, rfl, Or.inl rfl⟩
  · refine ⟨_, _, rfl, Or.inr ⟨g, 0, rfl, hb.lt, fun i hi => ?_⟩⟩
    rw [Nat.zero_add, hb.cell i, ← List.getElem?_take_of_lt hi, h4, B.tv_get]
    simp [List.getD_eq_getElem?_getD, hi]
end Go.Proofs.YtdempgjhjcjklaaGreat.P
namespace Go.Proofs.YtdempgjhjcjklaaGreat.P
open Go.ChangeShapes Go.WideShapes Go.ChangeAt Go.RowKit
set_option linter.unusedVariables false
set_option maxRecDepth 8192

theorem kp_false {F : Nat → Prop} {w w' : World} (h : B.Kp (fun _ => False) F w w') : Below w.heap.size w w' := h.below _ (Nat.le_refl _) (fun _ z => z.elim)
end Go.Proofs.YtdempgjhjcjklaaGreat.P
namespace Go.Proofs.YtdempgjhjcjklaaGreat.P
open Go.ChangeShapes Go.WideShapes Go.ChangeAt Go.RowKit
set_option linter.unusedVariables false
set_option maxRecDepth 8192

def Tko (P : Par) (us : Us) (u g e : Nat) (us' : Us) : Prop := (e = 0 ∧ Tkn P us u g us' ∧ cU us u 4096 < P.q u) ∨ (e = 4 ∧ g = 0 ∧ us' = us ∧ P.q u ≤ cU us u 4096)
theorem Tko.uniq {P : Par} {us : Us} {u g g' e e' : Nat} {us' us'' : Us} (h : Tko P us u g e us') (h' : Tko P us u g' e' us'') : g = g' ∧ e = e' ∧ us' = us'' := by
  rcases h with ⟨rfl, h1, h2⟩ | ⟨rfl, rfl, rfl, h2⟩
  · rcases h' with ⟨rfl, h3, h4⟩ | ⟨rfl, rfl, rfl, h4⟩
    · have := h1.uniq h3
      exact ⟨this.1, rfl, this.2⟩
    · omega
  · rcases h' with ⟨rfl, h3, h4⟩ | ⟨rfl, rfl, rfl, h4⟩
    · omega
    · exact ⟨rfl, rfl, rfl⟩
theorem Take_use {w : World} {F : Nat → Prop} {p : Nat} {P : Par} {us : Us} (h : Po w F p P us) (u : Nat) (h2 : 2 ≤ u) (h6 : u ≤ 6) :
    Calls Tryz.prog 36 #[.pointer (some ⟨p, 0, none⟩), .int .u8 u] w fun x w' => ∃ (g e : Nat) (us' : Us) (F' : Nat → Prop), x = .returned (.tuple #[.int .i64 g, .int .i64 e]) ∧ Tko P us u g e us' ∧ Po w' F' p P us' ∧ B.Kp F F' w w' := by
  by_cases hq : cU us u 4096 < P.q u
  · refine (Take_p h u h2 h6 hq).mono ?_
    rintro x w' ⟨g, us', F', rfl, hT, hP, hK⟩
    exact ⟨g, 0, us', F', rfl, Or.inl ⟨rfl, hT, hq⟩, hP, hK⟩
  · refine (Take_mem h u h2 h6 (by omega)).mono ?_
    rintro x w' ⟨rfl, hb⟩
    exact ⟨0, 4, us, F, rfl, Or.inr ⟨rfl, rfl, rfl, by omega⟩, h.below hb, below_kp hb⟩
structure Te (B0 : Nat) (w0 w : World) (Fp Fq : Nat → Prop) (p q : Nat) (P Q : Par) (up uq : Us) : Prop where
  be : Below B0 w0 w
  b0 : B0 ≤ w.heap.size
  p : Po w Fp p P up
  q : Po w Fq q Q uq
  d : ∀ x, Fp x → ¬ Fq x
  lp : ∀ x, Fp x → B0 ≤ x
  lq : ∀ x, Fq x → B0 ≤ x
end Go.Proofs.YtdempgjhjcjklaaGreat.P
