/- The document's pool in memory: its struct, its own colours, its uses, its row of buddies; what keeps it, what turns one of these; no condition but those that each theorem names. -/
import Derived.Test.YtdempgjhjcjklaaGreatVPd
import Derived.Test.YtdempgjhjcjklaaGreatVBe
import Derived.Test.YtdempgjhjcjklaaGreatVOw
namespace Go.Proofs.YtdempgjhjcjklaaGreat.P
open B Go.ChangeShapes Go.WideShapes Go.ChangeAt Go.RowKit
set_option linter.unusedVariables false
set_option maxRecDepth 8192

def ptrs (bp : Nat → Nat) (m : Nat) : List Value := (List.range m).map fun i => .pointer (some ⟨bp i, 0, none⟩)
theorem ptrs_get (bp : Nat → Nat) {i m : Nat} (h : i < m) : (ptrs bp m)[i]? = some (.pointer (some ⟨bp i, 0, none⟩)) := by simp [ptrs, h]
theorem ptrs_succ (bp : Nat → Nat) (m q : Nat) : ptrs (put bp m q) (m + 1) = ptrs bp m ++ [.pointer (some ⟨q, 0, none⟩)] := by
  simp only [ptrs, List.range_succ, List.map_append, List.map_cons, List.map_nil, put_same]
  congr 1
  exact List.map_congr_left (fun i hi => by rw [put_other _ _ _ _ (by have := List.mem_range.1 hi; omega)])
def uL (us : Us) (n : Nat) : List Value := (List.range n).map fun g => .int .u8 ((us g).getD 0 : Nat)
theorem uL_len (us : Us) (n : Nat) : (uL us n).length = n := by simp [uL]
theorem uL_get (us : Us) {g n : Nat} (h : g < n) : (uL us n)[g]? = some (.int .u8 ((us g).getD 0 : Nat)) := by simp [uL, h]
theorem uL_set (us : Us) {g n : Nat} (v : Option Nat) (h : g < n) : (uL us n).set g (.int .u8 (v.getD 0 : Nat)) = uL (pt us g v) n := by
  apply List.ext_getElem?
  intro i
  by_cases hi : i < n
  · rw [uL_get _ hi, List.getElem?_set]
    by_cases e : g = i
    · subst e
      simp [pt, uL_len, hi]
    · rw [if_neg e, uL_get _ hi]
      simp [pt, Ne.symm e]
  · rw [List.getElem?_eq_none (by rw [List.length_set, uL_len]; omega), List.getElem?_eq_none (by rw [uL_len]; omega)]
theorem uL_none (n : Nat) : uL (fun _ => none) n = List.replicate n (.int .u8 0) := by
  apply List.ext_getElem?
  intro i
  by_cases hi : i < n
  · rw [uL_get _ hi]
    simp [hi]
  · rw [List.getElem?_eq_none (by rw [uL_len]; omega), List.getElem?_eq_none (by simp; omega)]
structure Xp (w : World) (m q gc cc gu : Nat) (vl : Value) (im : Bool) (G : Nat → Nat → Prop) (bp : Nat → Nat) (P : Par) (op : Nat → Nat → Bool) (tk : Nat → Nat → Option Nat) (us : Us) : Prop where
  mk' : m ≤ P.k
  lt : q < w.heap.size
  fz : ∀ i, w.frozen? ⟨q, i, none⟩ = false
  cC : w.cell? ⟨q, 1, none⟩ = some (.int .i64 P.C)
  c7 : w.cell? ⟨q, 17, none⟩ = some (.slice (some ⟨gc, 0, none⟩) P.k cc)
  co : w.cell? ⟨q, 18, none⟩ = some (.int .i64 P.o)
  cq : ∀ u, 2 ≤ u → u ≤ 6 → w.cell? ⟨q, 17 + u, none⟩ = some (.int .i64 (P.q u))
  cl : w.cell? ⟨q, 25, none⟩ = some vl
  cu : w.cell? ⟨q, 26, none⟩ = some (.slice (some ⟨gu, 0, none⟩) (P.N * P.C) (P.N * P.C))
  ci : w.cell? ⟨q, 27, none⟩ = some (.bool im)
  cm : w.cell? ⟨q, 28, none⟩ = some (.bool true)
  own : Own w (.slice (some ⟨gc, 0, none⟩) P.k cc) (cols P)
  use : Blk w gu 5 (uL us (P.N * P.C))
  row : w.ownsRow 0 119 1 vl m (ptrs bp m)
  bu : ∀ i, i < m → Re w (G i) (bp i) P.N (op i) (tk i)
  n1 : q ≠ gc
  n2 : q ≠ gu
  n3 : gc ≠ gu
  nl : ∀ g, vl.ownBlock = some g → g ≠ q ∧ g ≠ gc ∧ g ≠ gu
  g1 : ∀ i, i < m → ¬ G i q ∧ ¬ G i gc ∧ ¬ G i gu
  gl : ∀ i g, i < m → vl.ownBlock = some g → ¬ G i g
  g2 : ∀ i j x, i < m → j < m → i ≠ j → G i x → ¬ G j x
def xfoot (m q gc gu : Nat) (vl : Value) (G : Nat → Nat → Prop) : Nat → Prop := fun x => x = q ∨ x = gc ∨ x = gu ∨ vl.ownBlock = some x ∨ ∃ i, i < m ∧ G i x
theorem rw_lt {w : World} {v : Value} {j : Nat} {xs : List Value} {t : TypeId} (h : w.ownsRow 0 t 1 v j xs) : ∀ g, v.ownBlock = some g → g < w.heap.size := by
  intro g hg
  rcases h.2 with ⟨e, _⟩ | ⟨g', cap, cur, e, _, hb, _⟩
  · rw [e] at hg; cases hg
  · rw [e] at hg
    cases hg
    exact (Array.getElem?_eq_some_iff.1 hb).1
theorem rw_of_eq {w w' : World} {v : Value} {j : Nat} {xs : List Value} {t : TypeId} (h : w.ownsRow 0 t 1 v j xs) (e : ∀ g, v.ownBlock = some g → w'.heap[g]? = w.heap[g]?) : w'.ownsRow 0 t 1 v j xs := by
  refine ⟨h.1, ?_⟩
  rcases h.2 with q | ⟨g, cap, cur, q1, q2, q3, q4⟩
  · exact Or.inl q
  · exact Or.inr ⟨g, cap, cur, q1, q2, (e g (by rw [q1]; rfl)).trans q3, q4⟩
theorem Xp.gc_lt {w : World} {m q gc cc gu : Nat} {vl : Value} {im : Bool} {G : Nat → Nat → Prop} {bp : Nat → Nat} {P : Par} {op : Nat → Nat → Bool} {tk : Nat → Nat → Option Nat} {us : Us} (h : Xp w m q gc cc gu vl im G bp P op tk us) : gc < w.heap.size := h.own.lt gc rfl
theorem Xp.flt {w : World} {m q gc cc gu : Nat} {vl : Value} {im : Bool} {G : Nat → Nat → Prop} {bp : Nat → Nat} {P : Par} {op : Nat → Nat → Bool} {tk : Nat → Nat → Option Nat} {us : Us} (h : Xp w m q gc cc gu vl im G bp P op tk us) : ∀ x, xfoot m q gc gu vl G x → x < w.heap.size := by
  rintro x (rfl | rfl | rfl | hx | ⟨i, hi, hx⟩)
  · exact h.lt
  · exact h.gc_lt
  · exact h.use.lt
  · exact rw_lt h.row x hx
  · exact (h.bu i hi).lt x hx
theorem Xp.of_eq {w w' : World} {m q gc cc gu : Nat} {vl : Value} {im : Bool} {G : Nat → Nat → Prop} {bp : Nat → Nat} {P : Par} {op : Nat → Nat → Bool} {tk : Nat → Nat → Option Nat} {us : Us} (h : Xp w m q gc cc gu vl im G bp P op tk us) (hs : w.heap.size ≤ w'.heap.size) (e : ∀ x, xfoot m q gc gu vl G x → w'.heap[x]? = w.heap[x]?) : Xp w' m q gc cc gu vl im G bp P op tk us := by
  have ep := e q (Or.inl rfl)
  have c := fun i => World.cell?_of_block (w := w) (w' := w') (a := ⟨q, i, none⟩) ep
  exact { h with
    lt := Nat.lt_of_lt_of_le h.lt hs
    fz := fun i => (World.frozen?_of_block (w := w) (a := ⟨q, i, none⟩) ep).trans (h.fz i)
    cC := (c _).trans h.cC
    c7 := (c _).trans h.c7
    co := (c _).trans h.co
    cq := fun u h1 h2 => (c _).trans (h.cq u h1 h2)
    cl := (c _).trans h.cl
    cu := (c _).trans h.cu
    ci := (c _).trans h.ci
    cm := (c _).trans h.cm
    own := h.own.of_eq (fun g hg => by cases hg; exact e gc (Or.inr (Or.inl rfl)))
    use := h.use.of_eq (e gu (Or.inr (Or.inr (Or.inl rfl))))
    row := rw_of_eq h.row (fun g hg => e g (Or.inr (Or.inr (Or.inr (Or.inl hg)))))
    bu := fun i hi => (h.bu i hi).of_eq hs (fun k hk => e k (Or.inr (Or.inr (Or.inr (Or.inr ⟨i, hi, hk⟩))))) }
theorem Xp.below {w w' : World} {m q gc cc gu : Nat} {vl : Value} {im : Bool} {G : Nat → Nat → Prop} {bp : Nat → Nat} {P : Par} {op : Nat → Nat → Bool} {tk : Nat → Nat → Option Nat} {us : Us} (h : Xp w m q gc cc gu vl im G bp P op tk us) (k : Below w.heap.size w w') : Xp w' m q gc cc gu vl im G bp P op tk us :=
  h.of_eq k.size (fun x hx => k.block x (h.flt x hx))
theorem Xp.congr {w : World} {m q gc cc gu : Nat} {vl : Value} {im : Bool} {G : Nat → Nat → Prop} {bp : Nat → Nat} {P : Par} {op op' : Nat → Nat → Bool} {tk : Nat → Nat → Option Nat} {us : Us} (h : Xp w m q gc cc gu vl im G bp P op tk us) (e : ∀ i, i < m → op i = op' i) : Xp w m q gc cc gu vl im G bp P op' tk us :=
  { h with bu := fun i hi => by rw [← e i hi]; exact h.bu i hi }
theorem Xp.used {w : World} {m q gc cc gu : Nat} {vl : Value} {im : Bool} {G : Nat → Nat → Prop} {bp : Nat → Nat} {P : Par} {op : Nat → Nat → Bool} {tk : Nat → Nat → Option Nat} {us : Us} (h : Xp w m q gc cc gu vl im G bp P op tk us) (g : Nat) (hg : g < P.N * P.C) (v : Option Nat) :
    Xp (w.setCell ⟨gu, g, none⟩ (.int .u8 (v.getD 0 : Nat))) m q gc cc gu vl im G bp P op tk (pt us g v) := by
  have gr := grown_setCell' w gu g (.int .u8 (v.getD 0 : Nat))
  have bk : ∀ x, x < w.heap.size → x ≠ gu → (w.setCell ⟨gu, g, none⟩ (.int .u8 (v.getD 0 : Nat))).heap[x]? = w.heap[x]? := fun x hx hne => gr.block x hx (some_ne hne)
  have ep := bk q h.lt h.n2
  have c := fun i => World.cell?_of_block (w := w) (a := ⟨q, i, none⟩) ep
  exact { h with
    lt := Nat.lt_of_lt_of_le h.lt gr.size
    fz := fun i => (World.frozen?_of_block (w := w) (a := ⟨q, i, none⟩) ep).trans (h.fz i)
    cC := (c _).trans h.cC
    c7 := (c _).trans h.c7
    co := (c _).trans h.co
    cq := fun u h1 h2 => (c _).trans (h.cq u h1 h2)
    cl := (c _).trans h.cl
    cu := (c _).trans h.cu
    ci := (c _).trans h.ci
    cm := (c _).trans h.cm
    own := h.own.of_eq (fun k hk => by cases hk; exact bk gc h.gc_lt h.n3)
    use := by rw [← uL_set us v hg]; exact h.use.set g _
    row := rw_of_eq h.row (fun k hk => bk k (rw_lt h.row k hk) (h.nl k hk).2.2)
    bu := fun i hi => (h.bu i hi).of_eq gr.size (fun k hk => bk k ((h.bu i hi).lt k hk) (fun z => (h.g1 i hi).2.2 (z ▸ hk))) }
theorem Xp.imaged {w : World} {m q gc cc gu : Nat} {vl : Value} {im : Bool} {G : Nat → Nat → Prop} {bp : Nat → Nat} {P : Par} {op : Nat → Nat → Bool} {tk : Nat → Nat → Option Nat} {us : Us} (h : Xp w m q gc cc gu vl im G bp P op tk us) (b : Bool) :
    Xp (w.setCell ⟨q, 27, none⟩ (.bool b)) m q gc cc gu vl b G bp P op tk us := by
  have gr := grown_setCell' w q 27 (.bool b)
  have hs : (w.setCell ⟨q, 27, none⟩ (.bool b)).heap.size = w.heap.size := by simp [World.setCell]
  have c : ∀ i, i ≠ 27 → (w.setCell ⟨q, 27, none⟩ (.bool b)).cell? ⟨q, i, none⟩ = w.cell? ⟨q, i, none⟩ := fun i hi => World.cell?_setCell_other _ _ _ _ (by intro h; cases h; exact hi rfl)
  have bk : ∀ x, x < w.heap.size → x ≠ q → (w.setCell ⟨q, 27, none⟩ (.bool b)).heap[x]? = w.heap[x]? := fun x hx hne => gr.block x hx (some_ne hne)
  exact { h with
    lt := by rw [hs]; exact h.lt
    fz := fun i => by rw [World.frozen?_setCell]; exact h.fz i
    cC := (c _ (by omega)).trans h.cC
    c7 := (c _ (by omega)).trans h.c7
    co := (c _ (by omega)).trans h.co
    cq := fun u h1 h2 => (c _ (by omega)).trans (h.cq u h1 h2)
    cl := (c _ (by omega)).trans h.cl
    cu := (c _ (by omega)).trans h.cu
    ci := World.cell?_setCell_same _ _ _ h.ci
    cm := (c _ (by omega)).trans h.cm
    own := h.own.of_eq (fun k hk => by cases hk; exact bk gc h.gc_lt h.n1.symm)
    use := h.use.of_eq (bk gu h.use.lt h.n2.symm)
    row := rw_of_eq h.row (fun k hk => bk k (rw_lt h.row k hk) (h.nl k hk).1)
    bu := fun i hi => (h.bu i hi).of_eq (by omega) (fun k hk => bk k ((h.bu i hi).lt k hk) (fun z => (h.g1 i hi).1 (z ▸ hk))) }
theorem Xp.buddy {w w' : World} {m q gc cc gu : Nat} {vl : Value} {im : Bool} {G : Nat → Nat → Prop} {bp : Nat → Nat} {P : Par} {op : Nat → Nat → Bool} {tk : Nat → Nat → Option Nat} {us : Us} (h : Xp w m q gc cc gu vl im G bp P op tk us) (j : Nat) (hj : j < m) {op' : Nat → Bool} {tk' : Nat → Option Nat}
    (k : Kp (G j) (G j) w w') (hB : Re w' (G j) (bp j) P.N op' tk') : Xp w' m q gc cc gu vl im G bp P (put op j op') (put tk j tk') us := by
  have bk : ∀ x, x < w.heap.size → ¬ G j x → w'.heap[x]? = w.heap[x]? := fun x hx hne => k.block x hx hne
  have ep := bk q h.lt (h.g1 j hj).1
  have c := fun i => World.cell?_of_block (w := w) (w' := w') (a := ⟨q, i, none⟩) ep
  exact { h with
    lt := Nat.lt_of_lt_of_le h.lt k.size
    fz := fun i => (World.frozen?_of_block (w := w) (a := ⟨q, i, none⟩) ep).trans (h.fz i)
    cC := (c _).trans h.cC
    c7 := (c _).trans h.c7
    co := (c _).trans h.co
    cq := fun u h1 h2 => (c _).trans (h.cq u h1 h2)
    cl := (c _).trans h.cl
    cu := (c _).trans h.cu
    ci := (c _).trans h.ci
    cm := (c _).trans h.cm
    own := h.own.of_eq (fun g hg => by cases hg; exact bk gc h.gc_lt (h.g1 j hj).2.1)
    use := h.use.of_eq (bk gu h.use.lt (h.g1 j hj).2.2)
    row := rw_of_eq h.row (fun g hg => bk g (rw_lt h.row g hg) (h.gl j g hj hg))
    bu := fun i hi => by
      by_cases e : i = j
      · subst e
        rw [put_same, put_same]
        exact hB
      · rw [put_other _ _ _ _ e, put_other _ _ _ _ e]
        exact (h.bu i hi).of_eq k.size (fun x hx => bk x ((h.bu i hi).lt x hx) (h.g2 i j x hi hj e hx)) }
theorem Xp.grow {w w1 w2 : World} {m q gc cc gu : Nat} {vl : Value} {im : Bool} {G : Nat → Nat → Prop} {bp : Nat → Nat} {P : Par} {op : Nat → Nat → Bool} {tk : Nat → Nat → Option Nat} {us : Us} (h : Xp w m q gc cc gu vl im G bp P op tk us) (hm : m < P.k) {H : Nat → Prop} {b : Nat} {op' : Nat → Bool} {tk' : Nat → Option Nat}
    (k : Kp (fun _ => False) H w w1) (hB : Re w1 H b P.N op' tk') (g2 : w1.grownBy w2 vl.ownBlock) (gl c2 : Nat) (o2 : w2.ownsRow 0 119 1 (.slice (some ⟨gl, 0, none⟩) (m + 1) c2) (m + 1) (ptrs bp m ++ [.pointer (some ⟨b, 0, none⟩)])) (at2 : vl.ownBlock = some gl ∨ w1.heap.size ≤ gl) :
    Xp (w2.setCell ⟨q, 25, none⟩ (.slice (some ⟨gl, 0, none⟩) (m + 1) c2)) (m + 1) q gc cc gu (.slice (some ⟨gl, 0, none⟩) (m + 1) c2) im (put G m H) (put bp m b) P (put op m op') (put tk m tk') us := by
  have h1 := h.of_eq (w' := w1) k.size (fun x hx => k.block x (h.flt x hx) (fun z => z))
  have nw : ∀ x, x < w.heap.size → ¬ H x := fun x hx z => by
    rcases k.new x z with y | y
    · exact y
    · omega
  have vlt := rw_lt h.row
  have nl2 : gl ≠ q ∧ gl ≠ gc ∧ gl ≠ gu := by
    rcases at2 with z | z
    · exact h.nl gl z
    · have := h1.lt
      have := h1.gc_lt
      have := h1.use.lt
      omega
  have gr := grown_setCell' w2 q 25 (.slice (some ⟨gl, 0, none⟩) (m + 1) c2)
  have hs : (w2.setCell ⟨q, 25, none⟩ (.slice (some ⟨gl, 0, none⟩) (m + 1) c2)).heap.size = w2.heap.size := by simp [World.setCell]
  have hs2 := g2.size
  have bk2 : ∀ x, x < w1.heap.size → vl.ownBlock ≠ some x → w2.heap[x]? = w1.heap[x]? := fun x hx hne => g2.block x hx hne.symm
  have bk : ∀ x, x < w1.heap.size → vl.ownBlock ≠ some x → x ≠ q → (w2.setCell ⟨q, 25, none⟩ (.slice (some ⟨gl, 0, none⟩) (m + 1) c2)).heap[x]? = w1.heap[x]? := fun x hx h1 h2 => (gr.block x (by omega) (some_ne h2)).trans (bk2 x hx h1)
  have hq : vl.ownBlock ≠ some q := fun z => (h.nl q z).1 rfl
  have eq2 := bk2 q h1.lt hq
  have c : ∀ i, i ≠ 25 → (w2.setCell ⟨q, 25, none⟩ (.slice (some ⟨gl, 0, none⟩) (m + 1) c2)).cell? ⟨q, i, none⟩ = w1.cell? ⟨q, i, none⟩ := fun i hi =>
    (World.cell?_setCell_other _ _ _ _ (by intro h; cases h; exact hi rfl)).trans (World.cell?_of_block (w := w1) (w' := w2) (a := ⟨q, i, none⟩) eq2)
  exact { h1 with
    mk' := hm
    lt := by rw [hs]; have := h1.lt; omega
    fz := fun i => by rw [World.frozen?_setCell]; exact (World.frozen?_of_block (w := w1) (a := ⟨q, i, none⟩) eq2).trans (h1.fz i)
    cC := (c _ (by omega)).trans h1.cC
    c7 := (c _ (by omega)).trans h1.c7
    co := (c _ (by omega)).trans h1.co
    cq := fun u z1 z2 => (c _ (by omega)).trans (h1.cq u z1 z2)
    cl := World.cell?_setCell_same _ _ _ ((World.cell?_of_block (w := w1) (w' := w2) (a := ⟨q, 25, none⟩) eq2).trans h1.cl)
    cu := (c _ (by omega)).trans h1.cu
    ci := (c _ (by omega)).trans h1.ci
    cm := (c _ (by omega)).trans h1.cm
    own := h1.own.of_eq (fun g hg => by cases hg; exact bk gc h1.gc_lt (fun z => (h.nl gc z).2.1 rfl) h1.n1.symm)
    use := h1.use.of_eq (bk gu h1.use.lt (fun z => (h.nl gu z).2.2 rfl) h1.n2.symm)
    row := by
      rw [ptrs_succ]
      exact rw_of_eq o2 (fun g hg => by cases hg; exact gr.block gl (rw_lt o2 gl rfl) (some_ne nl2.1))
    bu := fun i hi => by
      by_cases e : i = m
      · subst e
        rw [put_same, put_same, put_same, put_same]
        exact hB.of_eq (by omega) (fun x hx => bk x (hB.lt x hx) (fun z => nw x (vlt x z) hx) (fun z => nw q h.lt (z ▸ hx)))
      · have hi' : i < m := by omega
        rw [put_other _ _ _ _ e, put_other _ _ _ _ e, put_other _ _ _ _ e, put_other _ _ _ _ e]
        exact (h1.bu i hi').of_eq (by omega) (fun x hx => bk x ((h1.bu i hi').lt x hx) (fun z => h.gl i x hi' z hx) (fun z => (h1.g1 i hi').1 (z ▸ hx)))
    nl := fun g hg => by cases hg; exact nl2
    g1 := fun i hi => by
      by_cases e : i = m
      · subst e
        rw [put_same]
        exact ⟨nw q h.lt, nw gc h.gc_lt, nw gu h.use.lt⟩
      · rw [put_other _ _ _ _ e]
        exact h1.g1 i (by omega)
    gl := fun i g hi hg z => by
      cases hg
      by_cases e : i = m
      · subst e
        rw [put_same] at z
        rcases at2 with y | y
        · exact nw gl (vlt gl y) z
        · have := hB.lt gl z
          omega
      · rw [put_other _ _ _ _ e] at z
        rcases at2 with y | y
        · exact h.gl i gl (by omega) y z
        · have := (h1.bu i (by omega)).lt gl z
          omega
    g2 := fun i i' x hi hi' hne z => by
      by_cases e : i = m
      · subst e
        rw [put_same] at z
        rw [put_other _ _ _ _ hne.symm]
        intro y
        exact nw x ((h.bu i' (by omega)).lt x y) z
      · rw [put_other _ _ _ _ e] at z
        by_cases e' : i' = m
        · subst e'
          rw [put_same]
          exact nw x ((h.bu i (by omega)).lt x z)
        · rw [put_other _ _ _ _ e']
          exact h1.g2 i i' x (by omega) (by omega) hne z }
theorem Xp.col {w : World} {m q gc cc gu : Nat} {vl : Value} {im : Bool} {G : Nat → Nat → Prop} {bp : Nat → Nat} {P : Par} {op : Nat → Nat → Bool} {tk : Nat → Nat → Option Nat} {us : Us} (h : Xp w m q gc cc gu vl im G bp P op tk us) {i : Nat} (hi : i < P.k) : w.cell? ⟨gc, i, none⟩ = some (.int .i64 (P.f i)) := by
  obtain ⟨g, c, e1, e2⟩ := h.own.cell (cols_get P hi)
  simp only [Value.slice.injEq, Option.some.injEq, Addr.mk.injEq] at e1
  obtain ⟨⟨rfl, _, _⟩, _, rfl⟩ := e1
  exact e2
theorem Xp.at {w : World} {m q gc cc gu : Nat} {vl : Value} {im : Bool} {G : Nat → Nat → Prop} {bp : Nat → Nat} {P : Par} {op : Nat → Nat → Bool} {tk : Nat → Nat → Option Nat} {us : Us} (h : Xp w m q gc cc gu vl im G bp P op tk us) (hm : 1 ≤ m) : ∃ gl cl, vl = .slice (some ⟨gl, 0, none⟩) m cl ∧ ∀ i, i < m → w.cell? ⟨gl, i, none⟩ = some (.pointer (some ⟨bp i, 0, none⟩)) := by
  rcases h.row.2 with ⟨_, e⟩ | ⟨g, cap, cur, e, _, hb, c1, c2, c3, c4⟩
  · omega
  · refine ⟨g, cap, e, fun i hi => ?_⟩
    have hblk : Blk w g 119 cur.toList := by unfold Blk; simpa using hb
    rw [hblk.cell i, ← List.getElem?_take_of_lt (show i < m * 1 by omega), c4, ptrs_get bp hi]
theorem Xp.ut {w : World} {m q gc cc gu : Nat} {vl : Value} {im : Bool} {G : Nat → Nat → Prop} {bp : Nat → Nat} {P : Par} {op : Nat → Nat → Bool} {tk : Nat → Nat → Option Nat} {us : Us} (h : Xp w m q gc cc gu vl im G bp P op tk us) {g : Nat} (hg : g < P.N * P.C) : w.cell? ⟨gu, g, none⟩ = some (.int .u8 ((us g).getD 0 : Nat)) := by rw [h.use.cell, uL_get us hg]
theorem reTake_ok {w : World} {H : Nat → Prop} {q n : Nat} {op : Nat → Bool} {tk : Nat → Option Nat} (h : Re w H q n op tk) (hl : ∀ i, op i = true → i < n) {L : Nat → List Nat} (hL : ∀ k, k ≤ 6 → Fit op k (L k)) (o k a : Nat) (r : List Nat) (ho : o ≤ k) (hk : k ≤ 6) (he : ∀ i, o ≤ i → i < k → L i = []) (hLk : L k = a :: r) (hao : a % 2 ^ o = 0) (han : a + 2 ^ o ≤ n) :
    Calls Tryz.prog 62 #[.pointer (some ⟨q, 0, none⟩), .int .i64 o] w fun e w' => e = .returned (.tuple #[.int .i64 a, .int .i64 0]) ∧ Re w' H q n (shut op o (a / 2 ^ o)) (pt tk a (some o)) ∧ Kp H H w w' := by
  obtain ⟨go, gt, hb, hH⟩ := h
  refine (rTake_ok hb hl hL o k a r ho hk he hLk hao han).mono ?_
  rintro e w' ⟨h1, h2, h3⟩
  exact ⟨h1, ⟨go, gt, h2, hH⟩, Kp.wide h3 (fun x hx => (hH x).2 (Or.inr hx))⟩
theorem reTake_none {w : World} {H : Nat → Prop} {q n : Nat} {op : Nat → Bool} {tk : Nat → Option Nat} (h : Re w H q n op tk) (hl : ∀ i, op i = true → i < n) {L : Nat → List Nat} (hL : ∀ k, k ≤ 6 → Fit op k (L k)) (o : Nat) (ho : o ≤ 6) (he : ∀ i, o ≤ i → i ≤ 6 → L i = []) :
    Calls Tryz.prog 62 #[.pointer (some ⟨q, 0, none⟩), .int .i64 o] w fun e w' => e = .returned (.tuple #[.int .i64 0, .int .i64 90]) ∧ Below w.heap.size w w' := by
  obtain ⟨go, gt, hb, hH⟩ := h
  refine (rTake_none hb hl hL o ho he).mono ?_
  rintro e w' ⟨h1, h2⟩
  exact ⟨h1, below_of h2 _ (Nat.le_refl _) (by simp)⟩
theorem reGive_ok {w : World} {H : Nat → Prop} {q n : Nat} {op : Nat → Bool} {tk : Nat → Option Nat} (h : Re w H q n op tk) (a : Nat) (han : a < n) (ht : tk a = some 0) :
    Calls Tryz.prog 120 #[.pointer (some ⟨q, 0, none⟩), .int .i64 a, .int .i64 0] w fun e w' => e = .returned (.int .i64 0) ∧ Re w' H q n (opened op 0 a) (pt tk a none) ∧ Kp H H w w' := by
  obtain ⟨go, gt, hb, hH⟩ := h
  have := rGive_ok hb a 0 (by omega) (by rw [Nat.pow_zero]; exact Nat.mod_one a) (by rw [Nat.pow_zero]; omega) ht
  rw [Nat.pow_zero, Nat.div_one] at this
  refine this.mono ?_
  rintro e w' ⟨h1, h2, h3⟩
  exact ⟨h1, ⟨go, gt, h2, hH⟩, Kp.wide h3 (fun x hx => (hH x).2 (Or.inr hx))⟩
theorem reFree {w : World} {H : Nat → Prop} {q n : Nat} {op : Nat → Bool} {tk : Nat → Option Nat} (h : Re w H q n op tk) : Calls Tryz.prog 76 #[.pointer (some ⟨q, 0, none⟩)] w fun e w' => e = .returned (.int .i64 (cnt op n : Nat)) ∧ w' = w := by
  obtain ⟨go, gt, hb, hH⟩ := h
  exact rFree_any hb
structure Ro (w : World) (F : Nat → Prop) (q : Nat) (P : Par) (us : Us) : Prop where
  ok : P.Ok
  va : Va P us
  me : ∃ gc cc gu vl G bp L tk, Xp w P.k q gc cc gu vl (decide (0 < cU us 1 4096)) G bp P (opn P us) tk us ∧ Pq P us L tk (cN P us) ∧ ∀ x, F x ↔ xfoot P.k q gc gu vl G x
theorem Ro.of_eq {w w' : World} {F : Nat → Prop} {q : Nat} {P : Par} {us : Us} (h : Ro w F q P us) (hs : w.heap.size ≤ w'.heap.size) (e : ∀ x, F x → w'.heap[x]? = w.heap[x]?) : Ro w' F q P us := by
  obtain ⟨gc, cc, gu, vl, G, bp, L, tk, h1, h2, h3⟩ := h.me
  exact ⟨h.ok, h.va, gc, cc, gu, vl, G, bp, L, tk, h1.of_eq hs (fun x hx => e x ((h3 x).2 hx)), h2, h3⟩
theorem Ro.lt {w : World} {F : Nat → Prop} {q : Nat} {P : Par} {us : Us} (h : Ro w F q P us) : ∀ x, F x → x < w.heap.size := by
  obtain ⟨gc, cc, gu, vl, G, bp, L, tk, h1, h2, h3⟩ := h.me
  exact fun x hx => h1.flt x ((h3 x).1 hx)
theorem Ro.below {w w' : World} {F : Nat → Prop} {q : Nat} {P : Par} {us : Us} (h : Ro w F q P us) (k : Below w.heap.size w w') : Ro w' F q P us := h.of_eq k.size (fun x hx => k.block x (h.lt x hx))
theorem Ro.kept {w w' : World} {F H H' : Nat → Prop} {q : Nat} {P : Par} {us : Us} (h : Ro w F q P us) (k : Kp H H' w w') (hd : ∀ x, F x → ¬ H x) : Ro w' F q P us := h.of_eq k.size (fun x hx => k.block x (h.lt x hx) (hd x hx))
theorem opn_lt {P : Par} {us : Us} {i : Nat} : ∀ x, opn P us i x = true → x < P.N := fun x hx => (opn_iff.1 hx).1
theorem fm_lt' {P : Par} (h : P.Ok) {i x : Nat} (hi : i < P.k) (hx : x < P.N) : fm P i x < P.N * P.C := by
  have h1 := Nat.mul_le_mul_right P.C (show x + 1 ≤ P.N from hx)
  have h3 := h.fC i hi
  rw [Nat.add_mul] at h1
  unfold fm
  omega
theorem Va.above {P : Par} (hP : P.Ok) {us : Us} (h : Va P us) {g : Nat} (hg : P.N * P.C ≤ g) : us g = none := by
  cases hu : us g with
  | none => rfl
  | some u =>
    obtain ⟨_, _, i, x, hi, hx, e⟩ := h.us1 g u hu
    have := fm_lt' hP hi hx
    omega
theorem cU_stop {us : Us} {n : Nat} (u : Nat) (h : ∀ g, n ≤ g → us g = none) : ∀ d, cU us u (n + d) = cU us u n
  | 0 => rfl
  | d + 1 => by
    rw [← Nat.add_assoc, cU, cU_stop u h d, h (n + d) (by omega)]
    simp
theorem Va.cnt {P : Par} (hP : P.Ok) {us : Us} (h : Va P us) (u : Nat) : cU us u (P.N * P.C) = cU us u 4096 := by
  have := hP.NF
  have e := cU_stop u (fun g hg => h.above hP hg) (4096 - P.N * P.C)
  rw [show P.N * P.C + (4096 - P.N * P.C) = 4096 by omega] at e
  exact e.symm
end Go.Proofs.YtdempgjhjcjklaaGreat.P
namespace Go.Proofs.YtdempgjhjcjklaaGreat.P
open B Go.ChangeShapes Go.WideShapes Go.ChangeAt Go.RowKit
set_option linter.unusedVariables false
set_option maxRecDepth 8192

theorem us_stop {us : Us} {n : Nat} (h : ∀ g, n ≤ g → us g = none) : ∀ d, B.us (n + d) us = B.us n us
  | 0 => rfl
  | d + 1 => by
    rw [← Nat.add_assoc, us_succ, us_stop h d, h (n + d) (by omega)]
    simp
theorem Va.list {P : Par} (hP : P.Ok) {us : Us} (h : Va P us) : B.us (P.N * P.C) us = B.us 4096 us := by
  have := hP.NF
  have e := us_stop (fun g hg => h.above hP hg) (4096 - P.N * P.C)
  rw [show P.N * P.C + (4096 - P.N * P.C) = 4096 by omega] at e
  exact e.symm
def n7L (k : Nat → Nat) : List Value := [.int .i64 (k 0 : Nat), .int .i64 (k 1 : Nat), .int .i64 (k 2 : Nat), .int .i64 (k 3 : Nat), .int .i64 (k 4 : Nat), .int .i64 (k 5 : Nat), .int .i64 (k 6 : Nat)]
theorem n7L_get (k : Nat → Nat) {u : Nat} (h : u < 7) : (n7L k)[u]? = some (.int .i64 (k u : Nat)) := by
  rcases (show u = 0 ∨ u = 1 ∨ u = 2 ∨ u = 3 ∨ u = 4 ∨ u = 5 ∨ u = 6 by omega) with rfl | rfl | rfl | rfl | rfl | rfl | rfl <;> rfl
theorem n7L_set (k : Nat → Nat) {u : Nat} (h : u < 7) (x : Nat) : (n7L k).set u (.int .i64 (x : Nat)) = n7L (put k u x) := by
  rcases (show u = 0 ∨ u = 1 ∨ u = 2 ∨ u = 3 ∨ u = 4 ∨ u = 5 ∨ u = 6 by omega) with rfl | rfl | rfl | rfl | rfl | rfl | rfl <;> rfl
def cF (us : Us) (x f : Nat) : Nat → Nat := fun u => if u = 0 then x else cU us u f
theorem cF_skip {us : Us} {x f : Nat} (h : us f = none) : cF us x (f + 1) = cF us x f := by
  funext u
  unfold cF
  rw [cU, h]
  simp
theorem cF_step {us : Us} {x f u : Nat} (hu : 1 ≤ u) (h : us f = some u) : cF us x (f + 1) = put (cF us x f) u (cF us x f u + 1) := by
  funext v
  by_cases e : v = u
  · subst e
    rw [put_same]
    unfold cF
    rw [if_neg (by omega), if_neg (by omega), cU, if_pos h]
  · rw [put_other _ _ _ _ e]
    unfold cF
    by_cases e0 : v = 0
    · rw [if_pos e0, if_pos e0]
    · rw [if_neg e0, if_neg e0, cU, if_neg (by rw [h]; intro q; cases q; exact e rfl), Nat.add_zero]
theorem cF_free (us : Us) (x y f : Nat) : put (cF us x f) 0 y = cF us y f := by
  funext v
  by_cases e : v = 0
  · subst e
    rw [put_same]
    rfl
  · rw [put_other _ _ _ _ e]
    unfold cF
    rw [if_neg e, if_neg e]
theorem cF_done {P : Par} (hP : P.Ok) {us : Us} (h : Va P us) : cF us (sf P us P.k) (P.N * P.C) = cN P us := by
  funext u
  unfold cF cN
  by_cases e : u = 0
  · rw [if_pos e, if_pos e]
  · rw [if_neg e, if_neg e, h.cnt hP]
end Go.Proofs.YtdempgjhjcjklaaGreat.P
namespace Go.Proofs.YtdempgjhjcjklaaGreat.P
open B Go.ChangeShapes Go.WideShapes Go.ChangeAt Go.RowKit
set_option linter.unusedVariables false
set_option maxRecDepth 8192

theorem rthere_p {w : World} {m q gc cc gu : Nat} {vl : Value} {im : Bool} {G : Nat → Nat → Prop} {bp : Nat → Nat} {P : Par} {op : Nat → Nat → Bool} {tk : Nat → Nat → Option Nat} {us : Us} (h : Xp w m q gc cc gu vl im G bp P op tk us) : Calls Tryz.prog 61 #[.pointer (some ⟨q, 0, none⟩)] w fun e w' => e = .returned (.bool true) ∧ w' = w := by
  have hc := h.cm
  clear h
  go_enter Tryz.func61, Tryz.ntmps61
  go_wp2
  go_ret
  exact ⟨rfl, rfl⟩
theorem rframe_p {w : World} {m q gc cc gu : Nat} {vl : Value} {im : Bool} {G : Nat → Nat → Prop} {bp : Nat → Nat} {P : Par} {op : Nat → Nat → Bool} {tk : Nat → Nat → Option Nat} {us : Us} (h : Xp w m q gc cc gu vl im G bp P op tk us) (hP : P.Ok) (i x : Nat) (hi : i < P.k) (hx : x < P.N) : Calls Tryz.prog 63 #[.pointer (some ⟨q, 0, none⟩), .int .i64 i, .int .i64 x] w fun e w' => e = .returned (.int .i64 (fm P i x : Nat)) ∧ Below w.heap.size w w' := by
  have c1 := h.cC
  have c2 := h.c7
  have c3 := h.col hi
  have hlt := fm_lt hP hi hx
  have hk2 := hP.k2
  have e1 : fm P i x = x * P.C + P.f i := rfl
  generalize fm P i x = g at *
  generalize P.f i = f at *
  have hw1 : IntKind.i64.wrap ((x : Int) * (P.C : Int)) = ((x * P.C : Nat) : Int) := by
    rw [← Int.natCast_mul]
    exact IntWalk.i64_in _ (by omega)
  generalize x * P.C = y at *
  have hw2 : IntKind.i64.wrap ((y : Int) + (f : Int)) = (g : Int) := by
    rw [e1, Int.natCast_add]
    exact IntWalk.i64_in _ (by omega)
  have hiI : (i : Int) < (P.k : Int) := by omega
  clear h hP e1
  go_enter Tryz.func63, Tryz.ntmps63
  go_wp2
  go_quiet (fail)
  go_wp2
  go_ret
  exact ⟨rfl, below_of (grown_drewN w _ none) _ (Nat.le_refl _) (by simp)⟩
theorem rquota_p {w : World} {m q gc cc gu : Nat} {vl : Value} {im : Bool} {G : Nat → Nat → Prop} {bp : Nat → Nat} {P : Par} {op : Nat → Nat → Bool} {tk : Nat → Nat → Option Nat} {us : Us} (h : Xp w m q gc cc gu vl im G bp P op tk us) (u : Nat) (h2 : 2 ≤ u) (h6 : u ≤ 6) : Calls Tryz.prog 75 #[.pointer (some ⟨q, 0, none⟩), .int .u8 u] w fun e w' => e = .returned (.int .i64 (P.q u : Nat)) ∧ w' = w := by
  have c := h.cq u h2 h6
  clear h
  rcases (show u = 2 ∨ u = 3 ∨ u = 4 ∨ u = 5 ∨ u = 6 by omega) with rfl | rfl | rfl | rfl | rfl
  all_goals (
    simp only [Nat.reduceAdd] at c
    go_enter Tryz.func75, Tryz.ntmps75
    go_wp2
    go_ret
    exact ⟨rfl, rfl⟩)
theorem us_le (us : Us) : ∀ n, (B.us n us).length ≤ n
  | 0 => by simp [B.us]
  | n + 1 => by
    have := us_le us n
    rw [us_succ, List.length_append]
    split <;> simp <;> omega
set_option maxHeartbeats 1000000 in
theorem rOwned_p {w : World} {F : Nat → Prop} {q : Nat} {P : Par} {us : Us} (h : Ro w F q P us) :
    Calls Tryz.prog 43 #[.pointer (some ⟨q, 0, none⟩)] w fun e w' => ∃ v, e = .returned v ∧ Os w' w.heap.size v us (B.us 4096 us) ∧ Below w.heap.size w w' := by
  obtain ⟨gc, cc, gu, vl, G, bp, L, tk, g1, g2, g3⟩ := h.me
  have hP := h.ok
  have C1 : Hid (Calls _ _ _ _ _) := rthere_p g1
  have HP1 : Hid (∀ W, Below w.heap.size w W → Xp W P.k q gc cc gu vl (decide (0 < cU us 1 4096)) G bp P (opn P us) tk us) := fun W hW => g1.below hW
  have hcu := g1.cu
  have HL : Hid (B.us (P.N * P.C) us = B.us 4096 us) := h.va.list hP
  have HV : Hid (∀ g u, us g = some u → 1 ≤ u ∧ u ≤ 6) := fun g u hu => ⟨(h.va.us1 g u hu).1, (h.va.us1 g u hu).2.1⟩
  have hn4 := hP.NF
  obtain ⟨n, hn⟩ : ∃ n, P.N * P.C = n := ⟨_, rfl⟩
  have HN : Hid (P.N * P.C = n) := hn
  rw [hn] at HL hn4 hcu
  obtain ⟨i0, hi0, hz0, hz1, hz2⟩ := info_parts Tryz.infoO
  clear h g1 g2 g3 hn
  go_enter Tryz.func43, Tryz.ntmps43
  go_wp2_with (go_at_call 61; refine C1.out.mono ?_; rintro e w' ⟨rfl, h⟩; obtain rfl := h.symm)
  clear hcu C1
  go_loopw [3, 4] (fun v z wr => ∃ (j : Nat) (vv : Value), vv = v ∧ j ≤ n ∧ z = .int .i64 j ∧ Os wr w.heap.size v us (B.us j us) ∧ Below w.heap.size w wr) (fun _ z _ => n - (iv z).toNat)
  case atStart => exact ⟨0, _, rfl, by omega, rfl, Os.nil _ _ _, Below.refl _ _⟩
  case round =>
    obtain ⟨j, v, hvv, hj, rfl, hO, hW⟩ := hrel
    subst hvv
    have HO : Hid (Os wr w.heap.size v us (B.us j us)) := hO
    have HW : Hid (Below w.heap.size w wr) := hW
    clear hO hW
    have hcu := (HP1.out wr HW.out).cu
    rw [HN.out] at hcu
    by_cases hlt : j < n
    · have hcg := (HP1.out wr HW.out).ut (g := j) (by rw [HN.out]; exact hlt)
      have hsz := HW.out.size
      have hlen := us_le us j
      have hjI : (j : Int) < (n : Int) := by omega
      have HS := us_succ us j
      cases hu : us j with
      | none =>
        rw [hu] at hcg HS
        have HS2 : Hid (B.us (j + 1) us = B.us j us) := by show _ = _; simpa using HS
        have hcg : wr.cell? ⟨gu, j, none⟩ = some (.int .u8 0) := hcg
        clear HS hu
        go_wp2
        go_roundw
        case rel => exact ⟨j + 1, _, rfl, by omega, by go_num, by rw [HS2.out]; exact HO.out, HW.out⟩
        case measure => simp [iv]; omega
      | some u =>
        rw [hu] at hcg HS
        have HS2 : Hid (B.us (j + 1) us = B.us j us ++ [j]) := by show _ = _; simpa using HS
        have HG : Hid ((us j).getD 0 = u) := by show (us j).getD 0 = u; rw [hu]; rfl
        have hcg : wr.cell? ⟨gu, j, none⟩ = some (.int .u8 (u : Nat)) := hcg
        have hv := HV.out j u hu
        have hu0 : ¬ ((u : Int) = 0) := by omega
        have hOw : Hid (wr.ownsRow w.heap.size 114 2 v (B.us j us).length (enO us (B.us j us))) := HO.out
        clear HS hu
        generalize hM : B.us j us = M at *
        go_wp2_with (at_builtin; refine wpList_append_own _ rfl (.tmp 25) (.tmp 35) 96 rfl w.heap.size 114 i0 _ 2 16 Tryz.underlying96 hi0 hz0 hz1 hz2 rfl (by decide) _ M.length _ rfl (hOw.out.alloc _) ⟨wr.heap.size, 0, none⟩ 1 1 [.int .i64 (j : Nat), .int .u8 (u : Nat)] rfl rfl (cell_two_new _ _ _ _) (by intro y hy; simp at hy; rcases hy with rfl | rfl <;> rfl) (by unfold maxLen; omega) (by omega) (by simp; omega) ?_; intro v2 w2 o2 gr2 nil2)
        go_roundw
        case rel =>
          refine ⟨j + 1, _, rfl, by omega, by go_num, ?_, (HW.out.alloc hsz _).grown gr2 (by simp; omega) (fun t ht => (HO.out.lt t ht).1)⟩
          rw [HS2.out]
          unfold Os
          rw [enO_snoc, List.length_append, HG.out]
          exact o2
        case measure => simp [iv]; omega
    · obtain rfl : j = n := by omega
      have HO2 : Hid (Os wr w.heap.size v us (B.us 4096 us)) := by rw [← HL.out]; exact HO.out
      go_wp2
      go_ret
      exact ⟨_, rfl, HO2.out, HW.out⟩
end Go.Proofs.YtdempgjhjcjklaaGreat.P
