/- What follows of the bounds: they do not fall where costs and numbers rise, Most is the greatest and one of them, nothing costs less than entering; how the statement raises numbers. -/
import Derived.Test.YtplffahgjekejaaOp
namespace Go.Proofs.Ytplffahgjekejaa
open Go.ChangeShapes Go.WideShapes Go.ChangeAt Go.RowKit
set_option linter.unusedVariables false

theorem mul_mono {a b x y : Int} (h0 : 0 ≤ a) (h1 : a ≤ x) (h2 : 0 ≤ b) (h3 : b ≤ y) : a * b ≤ x * y := Int.mul_le_mul h1 h3 h2 (Int.le_trans h0 h1)
/-- Costs and a shape that rise. -/
structure Le (c d : Co) (s t : Sh) : Prop where
  mi : c.mi ≤ d.mi
  fa : c.fa ≤ d.fa
  st : c.st ≤ d.st
  di : c.di ≤ d.di
  im : s.im = t.im
  us : s.us ≤ t.us
  li : s.li ≤ t.li
  no : s.no ≤ t.no
theorem bd_mono {c d : Co} {s t : Sh} (h : c.Ok) (k : s.Ok) (l : Le c d s t) (n : Nat) : bd c s n ≤ bd d t n := by
  obtain ⟨a1, a2, a3, a4, b1, b2, d1, d2, e1, e2⟩ := h
  obtain ⟨im, u1, u2, l1, l2, n1, n2⟩ := k
  obtain ⟨m1, m2, m3, m4, m5, m6, m7, m8⟩ := l
  have hp : pag c ≤ pag d := by unfold pag; omega
  have hp0 : 0 ≤ pag c := by unfold pag; omega
  have he : ent c s ≤ ent d t := mul_mono (by omega) (by omega) (by omega) m1
  have hf : fin c s ≤ fin d t := by
    have := mul_mono (a := 2 * s.us + 1) (x := 2 * t.us + 1) (b := c.st) (y := d.st) (by omega) (by omega) (by omega) m3
    unfold fin
    omega
  have hl : s.li * pag c ≤ t.li * pag d := mul_mono (by omega) m7 hp0 hp
  have hn : 16 * s.no * c.mi ≤ 16 * t.no * d.mi := mul_mono (by omega) (by omega) (by omega) m1
  rcases ways n with rfl | rfl | rfl | rfl | rfl | rfl | rfl | rfl | rfl | rfl | h
  all_goals try (simp only [bd] <;> omega)
  rw [bd_great c s n h, bd_great d t n h]
  exact he
theorem bd_ent {c : Co} {s : Sh} (h : c.Ok) (k : s.Ok) (n : Nat) : ent c s ≤ bd c s n := by
  have := bh_range h k n
  rw [bd_bh]
  omega
theorem bd_less {c : Co} {s : Sh} (h : c.Ok) (k : s.Ok) (n : Nat) : bd c s n < 1099511627776 := by
  have := bh_range h k n
  have := (pt_of h k).e1
  rw [bd_bh]
  omega
theorem bd_pos {c : Co} {s : Sh} (h : c.Ok) (k : s.Ok) (n : Nat) : 0 < bd c s n := by
  have := bd_ent h k n
  have := (pt_of h k).e0
  have := h.a1
  have := h.a2
  have := h.a3
  omega
theorem bd_mx (c : Co) (s : Sh) (n : Nat) : bd c s n ≤ mx c s 11 := by
  by_cases hn : n < 11
  · exact mx_ge c s 11 n hn
  · rw [bd_great c s n (by omega)]
    exact mx_ge c s 11 0 (by omega)
/-- Whether one of the first kinds' bounds is m. -/
def isB (c : Co) (s : Sh) (m : Int) : Nat → Bool
  | 0 => false
  | j + 1 => isB c s m j || (bd c s j == m)
theorem isB_of (c : Co) (s : Sh) (m : Int) (n i : Nat) (hi : i < n) (h : bd c s i = m) : isB c s m n = true := by
  induction n with
  | zero => omega
  | succ n ih =>
    simp only [isB]
    by_cases hn : i = n
    · subst hn
      simp [h]
    · rw [ih (by omega)]
      rfl
theorem mx_one (c : Co) (s : Sh) (n : Nat) : mx c s n = 0 ∨ ∃ i, i < n ∧ bd c s i = mx c s n := by
  induction n with
  | zero => exact Or.inl rfl
  | succ n ih =>
    simp only [mx]
    by_cases h : mx c s n ≤ bd c s n
    · exact Or.inr ⟨n, by omega, by omega⟩
    · rcases ih with h0 | ⟨i, hi, he⟩
      · exact Or.inl (by omega)
      · exact Or.inr ⟨i, by omega, by omega⟩
theorem isB_all {c : Co} {s : Sh} (h : c.Ok) (k : s.Ok) : isB c s (mx c s 11) 20 = true := by
  rcases mx_one c s 11 with h0 | ⟨i, hi, he⟩
  · have := bd_mx c s 0
    have := bd_pos h k 0
    omega
  · exact isB_of c s _ 20 i (by omega) he
/-- A number a little higher, within a bound. -/
def upN (n b m : Int) : Int := if m ≤ n then n else n + min b (m - n)
theorem upN_ge (n b m : Int) (h : 0 ≤ b) : n ≤ upN n b m := by unfold upN; split <;> omega
theorem upN_le (n b m : Int) (h : n ≤ m) : upN n b m ≤ m := by unfold upN; split <;> omega
theorem up_any (n b m : Int) (h0 : 0 ≤ n) (h1 : 0 ≤ b) (h2 : b < 18446744073709551616) (h3 : m ≤ 65536) (w : World) : Calls Try.prog 19 #[.int .u64 n, .int .u64 b, .int .u64 m] w fun e w' => e = .returned (.int .u64 (upN n b m)) ∧ w' = w := by
  unfold upN
  by_cases h : m ≤ n
  · rw [if_pos h]
    go_enter Try.func19, Try.ntmps19
    go_wp2
    go_ret
    exact ⟨rfl, rfl⟩
  · rw [if_neg h]
    obtain ⟨y, hy⟩ : ∃ y, n + min b (m - n) = y := ⟨_, rfl⟩
    rw [hy]
    go_enter Try.func19, Try.ntmps19
    go_wp2
    all_goals (go_ret; exact ⟨ret_int (by first | omega | go_num), rfl⟩)
/-- The seven cells of a rise. -/
structure Sev (w : World) (g : Nat) (x : Mo) : Prop where
  lt : g < w.heap.size
  c0 : w.cell? ⟨g, 0, none⟩ = some (.int .u64 x.mi)
  c1 : w.cell? ⟨g, 1, none⟩ = some (.int .u64 x.fa)
  c2 : w.cell? ⟨g, 2, none⟩ = some (.int .u64 x.st)
  c3 : w.cell? ⟨g, 3, none⟩ = some (.int .u64 x.di)
  c4 : w.cell? ⟨g, 4, none⟩ = some (.int .i64 x.us)
  c5 : w.cell? ⟨g, 5, none⟩ = some (.int .i64 x.li)
  c6 : w.cell? ⟨g, 6, none⟩ = some (.int .i64 x.no)
theorem sev_new (w : World) (x : Mo) : Sev (w.alloc (.cells #[.int .u64 x.mi, .int .u64 x.fa, .int .u64 x.st, .int .u64 x.di, .int .i64 x.us, .int .i64 x.li, .int .i64 x.no] 40)) w.heap.size x :=
  ⟨by simp, cell_new w _ 40 0, cell_new w _ 40 1, cell_new w _ 40 2, cell_new w _ 40 3, cell_new w _ 40 4, cell_new w _ 40 5, cell_new w _ 40 6⟩
theorem Sev.below {w w' : World} {g : Nat} {x : Mo} (h : Sev w g x) (k : Below w.heap.size w w') : Sev w' g x :=
  ⟨Nat.lt_of_lt_of_le h.lt k.size, (k.cell h.lt).trans h.c0, (k.cell h.lt).trans h.c1, (k.cell h.lt).trans h.c2, (k.cell h.lt).trans h.c3, (k.cell h.lt).trans h.c4, (k.cell h.lt).trans h.c5, (k.cell h.lt).trans h.c6⟩
end Go.Proofs.Ytplffahgjekejaa
