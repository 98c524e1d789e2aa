/- What follows of the bounds where all costs are so many times as great, and which kind costs at most what another one does; a row of numbers that a call makes. -/
import Derived.Test.YtplffahgjekejaaRm
import Derived.Laws.AppendOwnNone
import Derived.Deep.AppendLies
namespace Go.Proofs.Ytplffahgjekejaa
open Go.ChangeShapes Go.WideShapes Go.ChangeAt Go.RowKit
set_option linter.unusedVariables false

/-- All costs n times as great. -/
def tm (n : Int) (c : Co) : Co := ⟨n * c.l1, n * c.llc, n * c.mi, n * c.fa, n * c.st, n * c.di⟩
theorem max_mul (n a b : Int) (h : 0 ≤ n) : max (n * a) (n * b) = n * max a b := by
  by_cases k : a ≤ b
  · have := Int.mul_le_mul_of_nonneg_left k h
    rw [show max a b = b by omega]
    omega
  · have := Int.mul_le_mul_of_nonneg_left (show b ≤ a by omega) h
    rw [show max a b = a by omega]
    omega
theorem ent_tm (n : Int) (c : Co) (s : Sh) : ent (tm n c) s = n * ent c s := Int.mul_left_comm _ _ _
theorem pag_tm (n : Int) (c : Co) : pag (tm n c) = n * pag c := by
  simp only [pag, tm, Int.mul_add, Int.mul_left_comm n]
theorem fin_tm (n : Int) (c : Co) (s : Sh) : fin (tm n c) s = n * fin c s := by
  simp only [fin, tm, Int.mul_add, Int.mul_left_comm n]
theorem bd_tm (n : Int) (h : 0 ≤ n) (c : Co) (s : Sh) (q : Nat) : bd (tm n c) s q = n * bd c s q := by
  have e := ent_tm n c s
  have p := pag_tm n c
  have f := fin_tm n c s
  rcases ways q with rfl | rfl | rfl | rfl | rfl | rfl | rfl | rfl | rfl | rfl | h'
  · simp only [bd, e, Int.mul_add, Int.mul_left_comm n]; rfl
  · simp only [bd, e, p, Int.mul_add, Int.mul_left_comm n]; rfl
  · simp only [bd, e, p, Int.mul_add, Int.mul_left_comm n]; rfl
  · simp only [bd, e, Int.mul_add, Int.mul_left_comm n]; rfl
  · simp only [bd, e, p, Int.mul_add, Int.mul_left_comm n]
  · simp only [bd, e, Int.mul_add, Int.mul_left_comm n]; rfl
  · simp only [bd]
    rw [← max_mul _ _ _ h]
    simp only [e, p, Int.mul_add, Int.mul_left_comm n]; rfl
  · simp only [bd, e, f, Int.mul_add, Int.mul_left_comm n]; rfl
  · simp only [bd, e, f, Int.mul_add, Int.mul_left_comm n]; rfl
  · exact e
  · rw [bd_great _ s q h', bd_great c s q h']
    exact e
theorem bd_order {c : Co} {s : Sh} (h : c.Ok) (k : s.Ok) : ¬ bd c s 9 < bd c s 8 ∧ ¬ bd c s 5 < bd c s 6 ∧ ¬ bd c s 7 < bd c s 4 ∧ ¬ bd c s 7 < bd c s 5 ∧ bd c s 0 = bd c s 10 ∧ bd c s 11 = bd c s 10 ∧ (bd c s 7 = bd c s 4 ∨ bd c s 7 ≠ bd c s 4 ∧ bd c s 7 = bd c s 5) := by
  obtain ⟨e0, e1, f0, f1, p0, p1, lp0, lp1, nm0, nm1, us0, us1⟩ := pt_of h k
  obtain ⟨a1, a2, a3, a4, b1, b2, d1, d2, e1', e2⟩ := h
  refine ⟨?_, ?_, ?_, ?_, rfl, rfl, ?_⟩
  · simp only [bd]; omega
  · simp only [bd, pag]; omega
  · simp only [bd]; omega
  · simp only [bd]; omega
  · simp only [bd]; omega
theorem Try.infoU : (Try.prog.info? 22).map (fun i => (i.zero, i.size, i.bytes)) = some (some (.int .u64 0), 1, 8) := by kernel_rfl
theorem info_parts {t : TypeId} {z : Option Value} {s b : Nat} (h : (Try.prog.info? t).map (fun i => (i.zero, i.size, i.bytes)) = some (z, s, b)) : ∃ i, Try.prog.info? t = some i ∧ i.zero = z ∧ i.size = s ∧ i.bytes = b := by
  cases hq : Try.prog.info? t with
  | none => simp [hq] at h
  | some i => simp [hq] at h; exact ⟨i, rfl, h.1, h.2.1, h.2.2⟩
/-- The first numbers of a row as values. -/
def enU (f : Nat → Int) : Nat → List Value
  | 0 => []
  | k + 1 => enU f k ++ [.int .u64 (f k)]
theorem enU_len (f : Nat → Int) (k : Nat) : (enU f k).length = k := by
  induction k with
  | zero => rfl
  | succ k ih => simp [enU, ih]
theorem enU_get (f : Nat → Int) (k i : Nat) (h : i < k) : (enU f k)[i]? = some (.int .u64 (f i)) := by
  induction k with
  | zero => omega
  | succ k ih =>
    simp only [enU]
    by_cases hi : i = k
    · subst hi
      rw [List.getElem?_append_right (by rw [enU_len]; omega), enU_len]
      simp
    · rw [List.getElem?_append_left (by rw [enU_len]; omega)]
      exact ih (by omega)
theorem cell_one_new (w : World) (v : Value) (t : TypeId) : ∀ j u, [v][j]? = some u → (w.alloc (.cells #[v] t)).cell? ((⟨w.heap.size, 0, none⟩ : Addr).add j) = some u := by
  intro j u hu
  rw [Go.WideShapes.add_plain, cell_of_row _ _ (0 + j) _ t (0, 0) (heap_alloc_last w _), Nat.zero_add]
  simpa using hu
theorem own_below {w w' : World} {base : Nat} {e : TypeId} {z : Nat} {v : Value} {n : Nat} {L : List Value} (h : w.ownsRow base e z v n L) (k : Below w.heap.size w w') : w'.ownsRow base e z v n L := by
  refine h.kept (row := none) ⟨k.os, k.tape, k.output, k.size, fun i hi _ => k.block i hi⟩ ?_
  by_cases hv : v.ownBlock = none
  · exact Or.inl hv
  · exact Or.inr hv
end Go.Proofs.Ytplffahgjekejaa
