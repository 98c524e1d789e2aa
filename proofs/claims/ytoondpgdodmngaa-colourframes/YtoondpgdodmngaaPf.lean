/- ColourFrames walked: of every number of frames, of colours, and list, the program's Frames and Count answer as the document's do; what is handed in is only read, what is answered is new memory. -/
import Derived.Test.YtoondpgdodmngaaLw
import Derived.OwnWalk
import Derived.Laws.OwnMore
namespace Go.Proofs.Ytoondpgdodmngaa
open Go.ChangeShapes Go.WideShapes Go.ChangeAt Go.RowKit
set_option linter.unusedVariables false

/-- What a Frames answers, in whichever world the list lies: the numbers L and the errno er. -/
def Ans (fid : FuncId) (F n : Int) (l : Nat) (f : Nat → Int) (L : List Int) (er : Int) : Prop := ∀ (w : World) (a : Option Addr) (c : Nat), Arg w a l f →
  Calls Try.prog fid #[.int .i64 F, .int .i64 n, .slice a l c] w fun e w' => ∃ v, e = .returned (.tuple #[v, .int .i64 er]) ∧ Is w' w.heap.size v L ∧ Below w.heap.size w w'
theorem ans_both (F n : Int) (l : Nat) (f : Nat → Int) (hl : l ≤ maxLen) : ∃ L er, Ans 16 F n l f L er ∧ Ans 17 F n l f L er ∧ L.length ≤ 4096 := by
  by_cases hF : 1 ≤ F ∧ F ≤ 4096
  · by_cases hn : okL n l f
    · obtain ⟨F', rfl⟩ := Int.eq_ofNat_of_zero_le (show 0 ≤ F by omega)
      refine ⟨fr F' n l f, 0, fun w a c hA => ?_, fun w a c hA => ?_, Nat.le_trans (fr_len _ _ _ _) (by omega)⟩
      · exact Frames_ok hl hA (by omega) hn
      · exact rFrames_ok hl hA (by omega) hn
    · refine ⟨[], 2, fun w a c hA => ?_, fun w a c hA => ?_, by simp⟩
      · exact (Frames_no hl hA hF hn).mono fun e w' ⟨h1, h2⟩ => ⟨_, h1, Is.nil _ _, h2⟩
      · exact (rFrames_no hl hA (fun q => hn q.2)).mono fun e w' ⟨h1, h2⟩ => ⟨_, h1, Is.nil _ _, h2⟩
  · refine ⟨[], 2, fun w a c hA => ?_, fun w a c hA => ?_, by simp⟩
    · exact (Frames_out hF).mono fun e w' ⟨h1, h2⟩ => ⟨_, h1, Is.nil _ _, h2⟩
    · exact (rFrames_no hl hA (fun q => hF q.1)).mono fun e w' ⟨h1, h2⟩ => ⟨_, h1, Is.nil _ _, h2⟩
theorem counts_both (F n c : Int) : ∃ v er, (∀ w, Calls Try.prog 19 #[.int .i64 F, .int .i64 n, .int .i64 c] w (Two v er w)) ∧ (∀ w, Calls Try.prog 20 #[.int .i64 F, .int .i64 n, .int .i64 c] w fun e w' => e = .returned (.tuple #[.int .i64 v, .int .i64 er]) ∧ Below w.heap.size w w') := by
  by_cases h : (1 ≤ F ∧ F ≤ 4096) ∧ (1 ≤ n ∧ n ≤ 16) ∧ 0 ≤ c ∧ c < n
  · obtain ⟨F', rfl⟩ := Int.eq_ofNat_of_zero_le (show 0 ≤ F by omega)
    exact ⟨_, _, fun w => Count_ok _ n c h.1.1 h.1.2 h.2.1.1 h.2.1.2 h.2.2.1 h.2.2.2 w, fun w => rCount_ok F' n c (by omega) h.2.1.1 h.2.1.2 h.2.2.1 h.2.2.2 w⟩
  · exact ⟨_, _, fun w => Count_no F n c h w, fun w => rCount_no F n c h w⟩
/-- A row of n ints of the call's own, whole. -/
def Rw (w : World) (base g n : Nat) (H : List Int) : Prop := H.length = n ∧ w.ownsRow base 3 1 (.slice (some ⟨g, 0, none⟩) n n) n (enI H)
theorem Rw.cell {w : World} {base g n : Nat} {H : List Int} (h : Rw w base g n H) {i : Nat} (hi : i < n) : w.cell? ⟨g, i, none⟩ = some (.int .i64 (nth H i)) := by
  rw [h.2.cellAt i (by omega)]
  exact enI_get (by rw [h.1]; exact hi)
theorem Rw.frozen {w : World} {base g n : Nat} {H : List Int} (h : Rw w base g n H) (i : Nat) : w.frozen? ⟨g, i, none⟩ = false := h.2.frozenAt i
theorem enI_set (H : List Int) (k : Nat) (v : Int) : enI (H.set k v) = (enI H).set k (.int .i64 v) := by simp [enI, List.map_set]
theorem Rw.set {w : World} {base g n : Nat} {H : List Int} (h : Rw w base g n H) (k : Nat) (v : Int) : Rw (w.setCell ⟨g, k, none⟩ (.int .i64 v)) base g n (H.set k v) :=
  ⟨by simpa using h.1, by rw [enI_set]; exact (h.2.stored k _).1⟩
theorem Rw.lt {w : World} {base g n : Nat} {H : List Int} (h : Rw w base g n H) : base ≤ g ∧ g < w.heap.size := h.2.lt g rfl
theorem Rw.arg {w : World} {base g n : Nat} {H : List Int} (h : Rw w base g n H) {m : Nat} (hm : m ≤ n) : Arg w (some ⟨g, 0, none⟩) m (nth H) :=
  Or.inr ⟨g, 0, rfl, h.lt.2, fun i hi => by rw [Nat.zero_add]; exact h.cell (by omega)⟩
theorem Rw.below {w w' : World} {base g n : Nat} {H : List Int} (h : Rw w base g n H) (hb : Below w.heap.size w w') : Rw w' base g n H :=
  ⟨h.1, h.2.kept (below_grow hb) (Or.inr (by simp [Value.ownBlock]))⟩
theorem Is.below {w w' : World} {base : Nat} {v : Value} {L : List Int} (h : Is w base v L) (hb : Below w.heap.size w w') : Is w' base v L := by
  refine World.ownsRow.kept h (below_grow hb) ?_
  cases q : v.ownBlock
  · exact Or.inl rfl
  · exact Or.inr (by simp)
theorem nth_set {H : List Int} {k : Nat} {v : Int} (hk : k < H.length) (i : Nat) : nth (H.set k v) i = if i = k then v else nth H i := by
  unfold nth
  simp only [List.getD_eq_getElem?_getD, List.getElem?_set]
  by_cases e : k = i
  · subst e; simp [hk]
  · rw [if_neg e, if_neg (fun q => e q.symm)]
/-- What the copy holds. -/
def tg (l : Nat) (f : Nat → Int) (i : Nat) : Int := if i < l then f i else -77
theorem made_Rw {w : World} {base g M : Nat} (h : w.ownsRow base 3 1 (.slice (some ⟨g, 0, none⟩) M M) M (madeCells #[.int .i64 0] (M * 1)).toList) : Rw w base g M (List.replicate M 0) := by
  refine ⟨by simp, ?_⟩
  rw [toList_madeCells_one] at h
  simpa [enI] using h
/-- The blocks from lo on that were there are as they were. -/
def Keep (lo : Nat) (W W' : World) : Prop := W.heap.size ≤ W'.heap.size ∧ ∀ i, lo ≤ i → i < W.heap.size → W'.heap[i]? = W.heap[i]?
theorem Keep.refl (lo : Nat) (W : World) : Keep lo W W := ⟨Nat.le_refl _, fun _ _ _ => rfl⟩
theorem Keep.grown {lo : Nat} {W W' W'' : World} {row : Option Nat} (h : Keep lo W W') (g : W'.grownBy W'' row) (hr : ∀ k, row = some k → k < lo ∨ W.heap.size ≤ k) : Keep lo W W'' := by
  refine ⟨Nat.le_trans h.1 g.size, fun i h1 h2 => (g.block i (by have := h.1; omega) (fun e => ?_)).trans (h.2 i h1 h2)⟩
  have := hr i e.symm
  omega
theorem Keep.arg {lo : Nat} {W W' : World} (h : Keep lo W W') {ao : Option Addr} {l : Nat} {f : Nat → Int} (hA : Arg W ao l f) (hlo : ∀ g off, ao = some ⟨g, off, none⟩ → lo ≤ g) : Arg W' ao l f := by
  rcases hA with q | ⟨b, off, e, hl, hr⟩
  · exact Or.inl q
  · have hh := h.2 b (hlo b off e) hl
    refine Or.inr ⟨b, off, e, Nat.lt_of_lt_of_le hl h.1, fun i hi => ?_⟩
    have := hr i hi
    simp only [World.cell?, hh] at this ⊢
    exact this
theorem Is.lo {w : World} {base : Nat} {ao : Option Addr} {l c : Nat} {L : List Int} (h : Is w base (.slice ao l c) L) : ∀ g off, ao = some ⟨g, off, none⟩ → base ≤ g := by
  intro g off e
  subst e
  rcases h.2 with ⟨q, _⟩ | ⟨g', c', cur, q, hb, _⟩
  · cases q
  · cases q; exact hb
end Go.Proofs.Ytoondpgdodmngaa
