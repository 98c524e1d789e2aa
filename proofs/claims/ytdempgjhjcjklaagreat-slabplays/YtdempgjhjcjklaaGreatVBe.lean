/- Seven lists in new memory; no condition. -/
import Derived.Test.YtdempgjhjcjklaaGreatVBc
import Derived.Test.YtdempgjhjcjklaaGreatVBa
namespace Go.Proofs.YtdempgjhjcjklaaGreat.B
open Go.ChangeShapes Go.WideShapes Go.ChangeAt Go.RowKit
set_option linter.unusedVariables false

def Ls (B : Nat) (w : World) (v : Value) (M : Nat → List Int) : Prop := ∃ g cap F V, v = .slice (some ⟨g, 0, none⟩) 7 cap ∧ Rws w F g 7 M V ∧ ∀ b, F b → B ≤ b
structure Lst (B : Nat) (w : World) (v : Value) (j : Nat) (V : Nat → Value) (L : Nat → List Nat) : Prop where
  row : w.ownsRow 0 25 1 v j ((List.range j).map V)
  new : ∀ g, v.ownBlock = some g → B ≤ g
  own : ∀ i, i < j → Own w (V i) (ints (L i))
  far : ∀ i g, i < j → (V i).ownBlock = some g → B ≤ g ∧ v.ownBlock ≠ some g
  inj : ∀ i k g, i < j → k < j → i ≠ k → (V i).ownBlock = some g → (V k).ownBlock ≠ some g
theorem news_one (w : World) (x : Value) (ty : TypeId) : ∀ k u, [x][k]? = some u → (w.alloc (.cells #[x] ty)).cell? ((⟨w.heap.size, 0, none⟩ : Addr).add k) = some u := fun k u hk => by
  rw [Go.WideShapes.add_plain, Nat.zero_add]
  exact ((blk_new w [x] ty).cell k).trans hk
end Go.Proofs.YtdempgjhjcjklaaGreat.B
namespace Go.Proofs.YtdempgjhjcjklaaGreat.B
set_option linter.unusedVariables false

theorem mx_uniq_lt {op : Nat → Bool} {k q k' q' : Nat} (h : mx op k q) (h' : mx op k' q') (hk : k' ≤ 6) (hl : k < k') (hm : meets k q k' q') : False := by
  rw [meets_le (by omega)] at hm
  refine h.2 (by omega) (wh_down h'.1 (show k + 1 ≤ k' by omega) ?_)
  rw [half_up q k k' hl]
  exact hm
theorem meets_symm {i q o p : Nat} (h : meets i q o p) : meets o p i q := by
  obtain ⟨x, h1, h2⟩ := h
  exact ⟨x, h2, h1⟩
theorem mx_uniq {op : Nat → Bool} {k q k' q' : Nat} (h : mx op k q) (h' : mx op k' q') (hk : k ≤ 6) (hk' : k' ≤ 6) (hm : meets k q k' q') : k = k' ∧ q = q' := by
  by_cases h1 : k < k'
  · exact (mx_uniq_lt h h' hk' h1 hm).elim
  · by_cases h2 : k' < k
    · exact (mx_uniq_lt h' h hk h2 (meets_symm hm)).elim
    · obtain rfl : k = k' := by omega
      obtain ⟨x, e1, e2⟩ := hm
      exact ⟨rfl, e1.symm.trans e2⟩
structure Sc (op : Nat → Bool) (a : Nat) (M : Nat → List Nat) : Prop where
  pt : ∀ j b, j ≤ 6 → b % 2 ^ j = 0 → wh op j (b / 2 ^ j) → ¬ (b < a ∧ a < b + 2 ^ j)
  up : ∀ k, k ≤ 6 → (M k).Pairwise (· < ·)
  mem : ∀ k, k ≤ 6 → ∀ x, x ∈ M k ↔ x % 2 ^ k = 0 ∧ mx op k (x / 2 ^ k) ∧ x < a
theorem Sc.zero (op : Nat → Bool) : Sc op 0 (fun _ => []) :=
  ⟨fun j b _ _ _ h => by omega, fun k _ => by simp, fun k _ x => by simp⟩
theorem Sc.skip {op : Nat → Bool} {a : Nat} {M : Nat → List Nat} (h : Sc op a M) (ha : op a = false) : Sc op (a + 1) M := by
  refine ⟨fun j b hj hb hw hq => ?_, h.up, fun k hk x => ?_⟩
  · have := (wh_of hb).1 hw a (by omega) (by omega)
    rw [ha] at this
    cases this
  · rw [h.mem k hk x]
    constructor
    · exact fun q => ⟨q.1, q.2.1, by omega⟩
    · rintro ⟨q1, q2, q3⟩
      refine ⟨q1, q2, ?_⟩
      by_cases e : x = a
      · subst e
        have := q2.1 x rfl
        rw [ha] at this
        cases this
      · omega
theorem no_between {b c m : Nat} (hm : 0 < m) (hb : b % m = 0) (hc : c % m = 0) (h1 : b < c) (h2 : c < b + m) : False := by
  have h : (c - b) % m = 0 := by
    have := Nat.sub_mod_eq_zero_of_mod_eq (m := c) (n := b) (k := m) (by rw [hb, hc])
    exact this
  rw [Nat.mod_eq_of_lt (by omega)] at h
  omega
theorem Sc.add {op : Nat → Bool} {a : Nat} {M : Nat → List Nat} (h : Sc op a M) {k : Nat} (hk : k ≤ 6) (ha : a % 2 ^ k = 0) (hw : wh op k (a / 2 ^ k)) (hs : k < 6 → ¬ (a % 2 ^ (k + 1) = 0 ∧ wh op (k + 1) (a / 2 ^ (k + 1)))) :
    Sc op (a + 2 ^ k) (fun i => if i = k then M k ++ [a] else M i) := by
  have hp := Nat.two_pow_pos k
  have hm : mx op k (a / 2 ^ k) := by
    refine ⟨hw, fun h6 hq => ?_⟩
    have hb : (a / 2 ^ k / 2) = a / 2 ^ (k + 1) := (div_up1 a k).symm
    rw [hb] at hq
    have e1 := mul_mod (a / 2 ^ (k + 1)) (k + 1)
    have e2 := mul_div (a / 2 ^ (k + 1)) (k + 1)
    have e3 := (div_eq_iff (i := a) (q := a / 2 ^ (k + 1)) (k := k + 1)).1 rfl
    by_cases e : a / 2 ^ (k + 1) * 2 ^ (k + 1) = a
    · exact hs h6 ⟨by rw [← e]; exact e1, hq⟩
    · exact h.pt (k + 1) _ (by omega) e1 (by rw [e2]; exact hq) ⟨by omega, e3.2⟩
  refine ⟨fun j b hj hb hwb hq => ?_, fun i hi => ?_, fun i hi x => ?_⟩
  · by_cases hjk : j ≤ k
    · exact no_between (Nat.two_pow_pos j) hb (by rw [Nat.add_mod, pow_dvd_mod ha hjk, pow_dvd_mod (x := 2 ^ k) (k := k) (Nat.mod_self _) hjk]; simp) hq.1 hq.2
    · have hin : a / 2 ^ j = b / 2 ^ j := by
        have e1 : (a + 2 ^ k - 1) / 2 ^ k = a / 2 ^ k := by
          rw [div_eq_iff, mod_mul_div ha]
          omega
        have e2 : (a + 2 ^ k - 1) / 2 ^ j = b / 2 ^ j := by
          rw [div_eq_iff, mod_mul_div hb]
          omega
        rw [div_up a k j (by omega), ← e1, ← div_up _ k j (by omega), e2]
      have e3 := (div_eq_iff (i := a) (q := b / 2 ^ j) (k := j)).1 hin
      rw [mod_mul_div hb] at e3
      by_cases e : b = a
      · subst e
        exact hs (by omega) ⟨pow_dvd_mod hb (by omega), wh_down hwb (by omega) (div_up b (k + 1) j (by omega)).symm⟩
      · exact h.pt j b hj hb hwb ⟨by omega, e3.2⟩
  · by_cases e : i = k
    · subst e
      simp only [if_true]
      rw [List.pairwise_append]
      refine ⟨h.up i hi, by simp, fun x hx y hy => ?_⟩
      have := ((h.mem i hi x).1 hx).2.2
      rw [List.mem_singleton] at hy
      omega
    · simp only [e, if_false]
      exact h.up i hi
  · have key : x % 2 ^ i = 0 → mx op i (x / 2 ^ i) → a ≤ x → x < a + 2 ^ k → i = k ∧ x = a := by
      intro h1 h2 h3 h4
      have e1 : x / 2 ^ k = a / 2 ^ k := by
        rw [div_eq_iff, mod_mul_div ha]
        omega
      obtain ⟨e2, e3⟩ := mx_uniq h2 hm hi hk ⟨x, rfl, e1⟩
      subst e2
      refine ⟨rfl, ?_⟩
      rw [← mod_mul_div h1, e3, mod_mul_div ha]
    by_cases e : i = k
    · subst e
      simp only [if_true]
      rw [List.mem_append, List.mem_singleton, h.mem i hi x]
      constructor
      · rintro (q | rfl)
        · exact ⟨q.1, q.2.1, by omega⟩
        · exact ⟨ha, hm, by omega⟩
      · rintro ⟨q1, q2, q3⟩
        by_cases e2 : x < a
        · exact Or.inl ⟨q1, q2, e2⟩
        · exact Or.inr (key q1 q2 (by omega) q3).2
    · simp only [e, if_false]
      rw [h.mem i hi x]
      constructor
      · exact fun q => ⟨q.1, q.2.1, by omega⟩
      · rintro ⟨q1, q2, q3⟩
        refine ⟨q1, q2, ?_⟩
        by_cases e2 : x < a
        · exact e2
        · exact absurd (key q1 q2 (by omega) q3).1 e
theorem Sc.fit {op : Nat → Bool} {n : Nat} {M : Nat → List Nat} (h : Sc op n M) (hl : ∀ i, op i = true → i < n) (k : Nat) (hk : k ≤ 6) : Fit op k (M k) := by
  refine ⟨h.up k hk, fun x => ?_⟩
  rw [h.mem k hk x]
  constructor
  · exact fun q => ⟨q.1, q.2.1⟩
  · exact fun q => ⟨q.1, q.2, hl x (q.2.1 x rfl)⟩
end Go.Proofs.YtdempgjhjcjklaaGreat.B
namespace Go.Proofs.YtdempgjhjcjklaaGreat.B
open Go.ChangeShapes Go.WideShapes Go.ChangeAt Go.RowKit
set_option linter.unusedVariables false
set_option maxRecDepth 8192

def tn (tk : Nat → Option Nat) (i : Nat) : Int := match tk i with | none => 0 | some o => 1 + (o : Int)
structure Rb (w : World) (q go gt n : Nat) (op : Nat → Bool) (tk : Nat → Option Nat) : Prop where
  ql : q < w.heap.size
  ol : go < w.heap.size
  tl : gt < w.heap.size
  c0 : w.cell? ⟨q, 0, none⟩ = some (.slice (some ⟨go, 0, none⟩) n n)
  c1 : w.cell? ⟨q, 1, none⟩ = some (.slice (some ⟨gt, 0, none⟩) n n)
  oc : ∀ i, i < n → w.cell? ⟨go, i, none⟩ = some (.bool (op i))
  tc : ∀ i, i < n → w.cell? ⟨gt, i, none⟩ = some (.int .i64 (tn tk i))
  of : ∀ i, i < n → w.frozen? ⟨go, i, none⟩ = false
  tf : ∀ i, i < n → w.frozen? ⟨gt, i, none⟩ = false
  n1 : q ≠ go
  n2 : q ≠ gt
  n3 : go ≠ gt
  n4 : n ≤ 4096
theorem Rb.of_eq {w w' : World} {q go gt n : Nat} {op : Nat → Bool} {tk : Nat → Option Nat} (h : Rb w q go gt n op tk) (hs : w.heap.size ≤ w'.heap.size) (e0 : w'.heap[q]? = w.heap[q]?) (e1 : w'.heap[go]? = w.heap[go]?) (e2 : w'.heap[gt]? = w.heap[gt]?) : Rb w' q go gt n op tk :=
  ⟨Nat.lt_of_lt_of_le h.ql hs, Nat.lt_of_lt_of_le h.ol hs, Nat.lt_of_lt_of_le h.tl hs, (World.cell?_of_block (w := w) (a := ⟨q, 0, none⟩) e0).trans h.c0, (World.cell?_of_block (w := w) (a := ⟨q, 1, none⟩) e0).trans h.c1,
   fun i hi => (World.cell?_of_block (w := w) (a := ⟨go, i, none⟩) e1).trans (h.oc i hi), fun i hi => (World.cell?_of_block (w := w) (a := ⟨gt, i, none⟩) e2).trans (h.tc i hi),
   fun i hi => (World.frozen?_of_block (w := w) (a := ⟨go, i, none⟩) e1).trans (h.of i hi), fun i hi => (World.frozen?_of_block (w := w) (a := ⟨gt, i, none⟩) e2).trans (h.tf i hi), h.n1, h.n2, h.n3, h.n4⟩
def Re (w : World) (H : Nat → Prop) (q n : Nat) (op : Nat → Bool) (tk : Nat → Option Nat) : Prop := ∃ go gt, Rb w q go gt n op tk ∧ ∀ k, H k ↔ k = q ∨ k = go ∨ k = gt
theorem Re.lt {w : World} {H : Nat → Prop} {q n : Nat} {op : Nat → Bool} {tk : Nat → Option Nat} (h : Re w H q n op tk) : ∀ k, H k → k < w.heap.size := by
  obtain ⟨go, gt, h, hH⟩ := h
  intro k hk
  rcases (hH k).1 hk with rfl | rfl | rfl
  · exact h.ql
  · exact h.ol
  · exact h.tl
theorem Re.of_eq {w w' : World} {H : Nat → Prop} {q n : Nat} {op : Nat → Bool} {tk : Nat → Option Nat} (h : Re w H q n op tk) (hs : w.heap.size ≤ w'.heap.size) (e : ∀ k, H k → w'.heap[k]? = w.heap[k]?) : Re w' H q n op tk := by
  obtain ⟨go, gt, h, hH⟩ := h
  exact ⟨go, gt, h.of_eq hs (e q ((hH q).2 (Or.inl rfl))) (e go ((hH go).2 (Or.inr (Or.inl rfl)))) (e gt ((hH gt).2 (Or.inr (Or.inr rfl)))), hH⟩
theorem rNew_no (n : Int) (h : n < 0 ∨ 4096 < n) (w : World) : Calls Tryz.prog 60 #[.int .i64 n] w fun e w' => e = .returned (.tuple #[.pointer none, .int .i64 2]) ∧ w' = w := by
  go_enter Tryz.func60, Tryz.ntmps60
  go_wp2
  all_goals (go_ret2; exact ⟨rfl, rfl⟩)
theorem Tryz.infoB : (Tryz.prog.info? 4).map (fun i => (i.zero, i.size, i.bytes)) = some (some (.bool false), 1, 1) := by kernel_rfl
theorem makeB (n : Nat) (hn : n ≤ 4096) (w : World) : (Instr.makeSlice 137 (.int .i64 n) (.int .i64 n)).run Tryz.prog w = .ok (.slice (some ⟨w.heap.size, 0, none⟩) n n) (w.alloc (.cells (List.replicate n (.bool false)).toArray 4)) := by
  obtain ⟨i0, hi, hz0, hz1, hz2⟩ := info_parts Tryz.infoB
  have h := run_makeSlice (P := Tryz.prog) w 137 4 i0 (.bool false) Tryz.underlying137 hi hz0 .i64 .i64 n n (by omega) (by omega) (by rw [hz1]; simp; omega) (by rw [hz2]; omega) (by omega)
  rw [h]
  have e : madeCells (Value.bool false).cells ((n : Int).toNat * i0.size) = (List.replicate n (.bool false)).toArray := by
    apply Array.toList_inj.1
    rw [hz1, Int.toNat_natCast]
    show (madeCells #[.bool false] (n * 1)).toList = _
    rw [toList_madeCells_one, Nat.mul_one]
  rw [e, Int.toNat_natCast]
theorem makeI (n : Nat) (hn : n ≤ 4096) (w : World) : (Instr.makeSlice 25 (.int .i64 n) (.int .i64 n)).run Tryz.prog w = .ok (.slice (some ⟨w.heap.size, 0, none⟩) n n) (w.alloc (.cells (List.replicate n (.int .i64 0)).toArray 3)) := by
  obtain ⟨i0, hi, hz0, hz1, hz2⟩ := info_parts Tryz.infoI
  have h := run_makeSlice (P := Tryz.prog) w 25 3 i0 (.int .i64 0) Tryz.underlying25 hi hz0 .i64 .i64 n n (by omega) (by omega) (by rw [hz1]; simp; omega) (by rw [hz2]; omega) (by omega)
  rw [h]
  have e : madeCells (Value.int .i64 0).cells ((n : Int).toNat * i0.size) = (List.replicate n (.int .i64 0)).toArray := by
    apply Array.toList_inj.1
    rw [hz1, Int.toNat_natCast]
    show (madeCells #[.int .i64 0] (n * 1)).toList = _
    rw [toList_madeCells_one, Nat.mul_one]
  rw [e, Int.toNat_natCast]
def opm (m : Nat) : Nat → Bool := fun i => decide (i < m)
theorem rep_cell {w : World} {g n i : Nat} {ty : TypeId} {v : Value} (h : Blk w g ty (List.replicate n v)) (hi : i < n) : w.cell? ⟨g, i, none⟩ = some v := by
  rw [h.cell i]
  simp [hi]
theorem rb_new {w' : World} {q go gt n : Nat} (hn : n ≤ 4096) (hq : Blk w' q 155 [.slice (some ⟨go, 0, none⟩) n n, .slice (some ⟨gt, 0, none⟩) n n]) (ho : Blk w' go 4 (List.replicate n (.bool false))) (ht : Blk w' gt 3 (List.replicate n (.int .i64 0))) (n1 : q ≠ go) (n2 : q ≠ gt) (n3 : go ≠ gt) : Rb w' q go gt n (opm 0) (fun _ => none) :=
  ⟨hq.lt, ho.lt, ht.lt, hq.cell 0, hq.cell 1, fun i hi => by rw [rep_cell ho hi]; simp [opm], fun i hi => by rw [rep_cell ht hi]; rfl, fun i _ => ho.frozen i, fun i _ => ht.frozen i, n1, n2, n3, hn⟩
theorem Rb.open1 {w : World} {q go gt n : Nat} {op : Nat → Bool} {tk : Nat → Option Nat} (h : Rb w q go gt n op tk) (i : Nat) (hi : i < n) (b : Bool) : Rb (w.setCell ⟨go, i, none⟩ (.bool b)) q go gt n (fun j => if j = i then b else op j) tk := by
  have G := grown_setCell' w go i (.bool b)
  have s : (w.setCell ⟨go, i, none⟩ (.bool b)).heap.size = w.heap.size := by simp [World.setCell]
  refine ⟨by rw [s]; exact h.ql, by rw [s]; exact h.ol, by rw [s]; exact h.tl, (G.cell_far ⟨q, 0, none⟩ h.ql (some_ne h.n1)).trans h.c0, (G.cell_far ⟨q, 1, none⟩ h.ql (some_ne h.n1)).trans h.c1, fun j hj => ?_, fun j hj => (G.cell_far ⟨gt, j, none⟩ h.tl (some_ne (Ne.symm h.n3))).trans (h.tc j hj), fun j hj => by rw [World.frozen?_setCell]; exact h.of j hj, fun j hj => by rw [World.frozen?_setCell]; exact h.tf j hj, h.n1, h.n2, h.n3, h.n4⟩
  by_cases e : j = i
  · subst e
    rw [World.cell?_setCell_same _ _ _ (h.oc j hj), if_pos rfl]
  · rw [World.cell?_setCell_other _ _ _ _ (by intro h; cases h; exact e rfl), if_neg e]
    exact h.oc j hj
theorem Rb.congr {w : World} {q go gt n : Nat} {op op' : Nat → Bool} {tk tk' : Nat → Option Nat} (h : Rb w q go gt n op tk) (e : ∀ i, i < n → op i = op' i) (e' : ∀ i, i < n → tk i = tk' i) : Rb w q go gt n op' tk' :=
  ⟨h.ql, h.ol, h.tl, h.c0, h.c1, fun i hi => by rw [← e i hi]; exact h.oc i hi, fun i hi => by unfold tn; rw [← e' i hi]; exact h.tc i hi, h.of, h.tf, h.n1, h.n2, h.n3, h.n4⟩
set_option maxHeartbeats 1000000 in
theorem rNew_ok (n : Nat) (hn : n ≤ 4096) (w : World) : Calls Tryz.prog 60 #[.int .i64 n] w fun e w' => ∃ H q, e = .returned (.tuple #[.pointer (some ⟨q, 0, none⟩), .int .i64 0]) ∧ Re w' H q n (op0 n) (fun _ => none) ∧ Kp (fun _ => False) H w w' := by
  have m1 := makeB n hn
  have m2 := makeI n hn
  obtain ⟨RB, hRB⟩ : ∃ R, R = List.replicate n (Value.bool false) := ⟨_, rfl⟩
  obtain ⟨RI, hRI⟩ : ∃ R, R = List.replicate n (Value.int .i64 0) := ⟨_, rfl⟩
  rw [← hRB] at m1
  rw [← hRI] at m2
  have HRB : Hid (RB = List.replicate n (Value.bool false)) := hRB
  have HRI : Hid (RI = List.replicate n (Value.int .i64 0)) := hRI
  clear hRB hRI
  go_enter Tryz.func60, Tryz.ntmps60
  go_wp2
  go_region
  · have HR : Hid (Rb (((w.alloc (.cells RB.toArray 4)).alloc (.cells RI.toArray 3)).alloc (.cells #[.slice (some ⟨w.heap.size, 0, none⟩) n n, .slice (some ⟨w.heap.size + 1, 0, none⟩) n n] 155)).drew (w.heap.size + 1 + 1) (w.heap.size) (w.heap.size + 1) n (opm 0) (fun _ => none)) := by
      have b1 := blk_new w RB 4
      have b2 := blk_new (w.alloc (.cells RB.toArray 4)) RI 3
      have b3 := blk_new ((w.alloc (.cells RB.toArray 4)).alloc (.cells RI.toArray 3)) [.slice (some ⟨w.heap.size, 0, none⟩) n n, .slice (some ⟨w.heap.size + 1, 0, none⟩) n n] 155
      have s1 : (w.alloc (.cells RB.toArray 4)).heap.size = w.heap.size + 1 := by simp
      have s2 : ((w.alloc (.cells RB.toArray 4)).alloc (.cells RI.toArray 3)).heap.size = w.heap.size + 1 + 1 := by simp
      rw [s1] at b2
      rw [s2] at b3
      have b2 := b2.kept (World.grownBy_alloc _ (.cells [.slice (some ⟨w.heap.size, 0, none⟩) n n, .slice (some ⟨w.heap.size + 1, 0, none⟩) n n].toArray 155) none) (by simp)
      have b1 := (b1.kept (World.grownBy_alloc _ (.cells RI.toArray 3) none) (by simp)).kept (World.grownBy_alloc _ (.cells [.slice (some ⟨w.heap.size, 0, none⟩) n n, .slice (some ⟨w.heap.size + 1, 0, none⟩) n n].toArray 155) none) (by simp)
      have e1 := HRB.out
      have e2 := HRI.out
      subst e1
      subst e2
      have h := rb_new hn b3 b1 b2 (by omega) (by omega) (by omega)
      exact h.of_eq (Nat.le_refl _) rfl rfl rfl
    have HG : Hid (w.grownBy (((w.alloc (.cells RB.toArray 4)).alloc (.cells RI.toArray 3)).alloc (.cells #[.slice (some ⟨w.heap.size, 0, none⟩) n n, .slice (some ⟨w.heap.size + 1, 0, none⟩) n n] 155)).drew none) := (((World.grownBy_alloc _ _ none).trans (World.grownBy_alloc _ _ none)).trans (World.grownBy_alloc _ _ none)).trans (grown_drew _ _)
    generalize (((w.alloc (.cells RB.toArray 4)).alloc (.cells RI.toArray 3)).alloc (.cells #[.slice (some ⟨w.heap.size, 0, none⟩) n n, .slice (some ⟨w.heap.size + 1, 0, none⟩) n n] 155)).drew = W at *
    clear m1 m2 HRB HRI
    obtain ⟨go, hgo⟩ : ∃ go, go = w.heap.size := ⟨_, rfl⟩
    obtain ⟨gt, hgt⟩ : ∃ gt, gt = w.heap.size + 1 := ⟨_, rfl⟩
    obtain ⟨q, hq⟩ : ∃ q, q = w.heap.size + 1 + 1 := ⟨_, rfl⟩
    have HQ : Hid (w.heap.size ≤ q ∧ w.heap.size ≤ go ∧ w.heap.size ≤ gt) := by
      rw [hgo, hgt, hq]
      exact ⟨by omega, by omega, by omega⟩
    rw [← hq, ← hgt, ← hgo] at HR
    rw [← hq]
    generalize Value.slice (some ⟨w.heap.size, 0, none⟩) n n = X1
    generalize Value.slice (some ⟨w.heap.size + 1, 0, none⟩) n n = X2
    clear hgo hgt hq
    go_wp2
    go_loopw [5] (fun z wr => ∃ m : Nat, m ≤ n ∧ z = .int .i64 m ∧ Rb wr q go gt n (opm m) (fun _ => none) ∧ W.grownBy wr (some go)) (fun z _ => n - (iv z).toNat)
    case atStart => exact ⟨0, by omega, rfl, HR.out, World.grownBy.refl _ _⟩
    case round =>
      obtain ⟨m, hm, rfl, hR, hW⟩ := hrel
      have HRR : Hid (Rb wr q go gt n (opm m) (fun _ => none)) := hR
      have HWW : Hid (W.grownBy wr (some go)) := hW
      by_cases hmn : m < n
      · have d0 := hR.c0
        have d1 := hR.oc m hmn
        have d2 := hR.of m hmn
        have hmI : (m : Int) < (n : Int) := by omega
        clear hR hW
        go_wp2
        go_roundw
        case rel =>
          refine ⟨m + 1, by omega, by go_num, (HRR.out.open1 m hmn true).congr (fun i hi => ?_) (fun _ _ => rfl), HWW.out.trans (grown_setCell' _ _ _ _)⟩
          unfold opm
          by_cases e : i = m
          · subst e
            simp
          · rw [if_neg e]
            congr 1
            apply propext
            omega
        case measure => simp [iv]; omega
      · obtain rfl : m = n := by omega
        clear hR hW
        go_wp2
        go_ret2
        refine ⟨fun k => k = q ∨ k = go ∨ k = gt, q, rfl, ⟨go, gt, HRR.out, fun k => Iff.rfl⟩, ?_⟩
        have h1 := HG.out
        have h2 := HWW.out
        have h3 := HQ.out
        refine ⟨h2.os.trans h1.os, h2.tape.trans h1.tape, h2.output.trans h1.output, Nat.le_trans h1.size h2.size, fun k hk _ => (h2.block k (Nat.lt_of_lt_of_le hk h1.size) (some_ne (by omega))).trans (h1.block k hk (by simp)), ?_⟩
        rintro k (rfl | rfl | rfl)
        · exact Or.inr h3.1
        · exact Or.inr h3.2.1
        · exact Or.inr h3.2.2
  · have HR : Hid (Rb (((w.alloc (.cells RI.toArray 3)).alloc (.cells RB.toArray 4)).alloc (.cells #[.slice (some ⟨w.heap.size + 1, 0, none⟩) n n, .slice (some ⟨w.heap.size, 0, none⟩) n n] 155)).drew (w.heap.size + 1 + 1) (w.heap.size + 1) (w.heap.size) n (opm 0) (fun _ => none)) := by
      have b1 := blk_new w RI 3
      have b2 := blk_new (w.alloc (.cells RI.toArray 3)) RB 4
      have b3 := blk_new ((w.alloc (.cells RI.toArray 3)).alloc (.cells RB.toArray 4)) [.slice (some ⟨w.heap.size + 1, 0, none⟩) n n, .slice (some ⟨w.heap.size, 0, none⟩) n n] 155
      have s1 : (w.alloc (.cells RI.toArray 3)).heap.size = w.heap.size + 1 := by simp
      have s2 : ((w.alloc (.cells RI.toArray 3)).alloc (.cells RB.toArray 4)).heap.size = w.heap.size + 1 + 1 := by simp
      rw [s1] at b2
      rw [s2] at b3
      have b2 := b2.kept (World.grownBy_alloc _ (.cells [.slice (some ⟨w.heap.size + 1, 0, none⟩) n n, .slice (some ⟨w.heap.size, 0, none⟩) n n].toArray 155) none) (by simp)
      have b1 := (b1.kept (World.grownBy_alloc _ (.cells RB.toArray 4) none) (by simp)).kept (World.grownBy_alloc _ (.cells [.slice (some ⟨w.heap.size + 1, 0, none⟩) n n, .slice (some ⟨w.heap.size, 0, none⟩) n n].toArray 155) none) (by simp)
      have e1 := HRB.out
      have e2 := HRI.out
      subst e1
      subst e2
      have h := rb_new hn b3 b2 b1 (by omega) (by omega) (by omega)
      exact h.of_eq (Nat.le_refl _) rfl rfl rfl
    have HG : Hid (w.grownBy (((w.alloc (.cells RI.toArray 3)).alloc (.cells RB.toArray 4)).alloc (.cells #[.slice (some ⟨w.heap.size + 1, 0, none⟩) n n, .slice (some ⟨w.heap.size, 0, none⟩) n n] 155)).drew none) := (((World.grownBy_alloc _ _ none).trans (World.grownBy_alloc _ _ none)).trans (World.grownBy_alloc _ _ none)).trans (grown_drew _ _)
    generalize (((w.alloc (.cells RI.toArray 3)).alloc (.cells RB.toArray 4)).alloc (.cells #[.slice (some ⟨w.heap.size + 1, 0, none⟩) n n, .slice (some ⟨w.heap.size, 0, none⟩) n n] 155)).drew = W at *
    clear m1 m2 HRB HRI
    obtain ⟨go, hgo⟩ : ∃ go, go = w.heap.size + 1 := ⟨_, rfl⟩
    obtain ⟨gt, hgt⟩ : ∃ gt, gt = w.heap.size := ⟨_, rfl⟩
    obtain ⟨q, hq⟩ : ∃ q, q = w.heap.size + 1 + 1 := ⟨_, rfl⟩
    have HQ : Hid (w.heap.size ≤ q ∧ w.heap.size ≤ go ∧ w.heap.size ≤ gt) := by
      rw [hgo, hgt, hq]
      exact ⟨by omega, by omega, by omega⟩
    rw [← hq, ← hgo, ← hgt] at HR
    rw [← hq]
    generalize Value.slice (some ⟨w.heap.size + 1, 0, none⟩) n n = X1
    generalize Value.slice (some ⟨w.heap.size, 0, none⟩) n n = X2
    clear hgo hgt hq
    go_wp2
    go_loopw [5] (fun z wr => ∃ m : Nat, m ≤ n ∧ z = .int .i64 m ∧ Rb wr q go gt n (opm m) (fun _ => none) ∧ W.grownBy wr (some go)) (fun z _ => n - (iv z).toNat)
    case atStart => exact ⟨0, by omega, rfl, HR.out, World.grownBy.refl _ _⟩
    case round =>
      obtain ⟨m, hm, rfl, hR, hW⟩ := hrel
      have HRR : Hid (Rb wr q go gt n (opm m) (fun _ => none)) := hR
      have HWW : Hid (W.grownBy wr (some go)) := hW
      by_cases hmn : m < n
      · have d0 := hR.c0
        have d1 := hR.oc m hmn
        have d2 := hR.of m hmn
        have hmI : (m : Int) < (n : Int) := by omega
        clear hR hW
        go_wp2
        go_roundw
        case rel =>
          refine ⟨m + 1, by omega, by go_num, (HRR.out.open1 m hmn true).congr (fun i hi => ?_) (fun _ _ => rfl), HWW.out.trans (grown_setCell' _ _ _ _)⟩
          unfold opm
          by_cases e : i = m
          · subst e
            simp
          · rw [if_neg e]
            congr 1
            apply propext
            omega
        case measure => simp [iv]; omega
      · obtain rfl : m = n := by omega
        clear hR hW
        go_wp2
        go_ret2
        refine ⟨fun k => k = q ∨ k = go ∨ k = gt, q, rfl, ⟨go, gt, HRR.out, fun k => Iff.rfl⟩, ?_⟩
        have h1 := HG.out
        have h2 := HWW.out
        have h3 := HQ.out
        refine ⟨h2.os.trans h1.os, h2.tape.trans h1.tape, h2.output.trans h1.output, Nat.le_trans h1.size h2.size, fun k hk _ => (h2.block k (Nat.lt_of_lt_of_le hk h1.size) (some_ne (by omega))).trans (h1.block k hk (by simp)), ?_⟩
        rintro k (rfl | rfl | rfl)
        · exact Or.inr h3.1
        · exact Or.inr h3.2.1
        · exact Or.inr h3.2.2
set_option maxHeartbeats 1000000 in
theorem open_any {w : World} {q go gt n : Nat} {op : Nat → Bool} {tk : Nat → Option Nat} (h : Rb w q go gt n op tk) (hl : ∀ i, op i = true → i < n) (a k : Nat) (ha : a ≤ 4096) (hk : k ≤ 6) :
    Calls Tryz.prog 118 #[.pointer (some ⟨q, 0, none⟩), .int .i64 a, .int .i64 k] w fun e w' => ∃ r : Bool, e = .returned (.bool r) ∧ (r = true ↔ ∀ i, a ≤ i → i < a + 2 ^ k → op i = true) ∧ w' = w := by
  have HR : Hid (Rb w q go gt n op tk) := h
  have HL : Hid (∀ i, op i = true → i < n) := hl
  have d0 := h.c0
  have hn := h.n4
  have hsh := shl_wrap k hk
  have hpl := pow_le k hk
  obtain ⟨S, hS⟩ : ∃ S, 2 ^ k = S := ⟨_, rfl⟩
  rw [hS] at hsh hpl ⊢
  clear h hl hS
  by_cases hc : a + S ≤ n
  · have hcI : (a : Int) + (S : Int) ≤ (n : Int) := by omega
    have hwr : IntKind.i64.wrap ((a : Int) + (S : Int)) = (a : Int) + (S : Int) := IntWalk.i64_in _ (by omega)
    go_enter Tryz.func118, Tryz.ntmps118
    go_wp2
    go_loopw [8] (fun z wr => ∃ m : Nat, a ≤ m ∧ m ≤ a + S ∧ z = .int .i64 m ∧ wr = w ∧ ∀ i, a ≤ i → i < m → op i = true) (fun z _ => (a + S) - (iv z).toNat)
    case atStart => exact ⟨a, Nat.le_refl _, by omega, rfl, rfl, fun i h1 h2 => by omega⟩
    case round =>
      obtain ⟨m, h1, h2, rfl, hw, hall⟩ := hrel
      obtain rfl := hw
      have HA : Hid (∀ i, a ≤ i → i < m → op i = true) := hall
      clear hall
      by_cases hm : m < a + S
      · have hmI : (m : Int) < (a : Int) + (S : Int) := by omega
        have hmn : m < n := by omega
        have hmnI : (m : Int) < (n : Int) := by omega
        have d1 := HR.out.oc m hmn
        cases hop : op m with
        | true =>
          have HOP : Hid (op m = true) := hop
          rw [hop] at d1
          clear hop
          go_wp2
          go_roundw
          case rel =>
            refine ⟨m + 1, by omega, by omega, by go_num, by simp, fun i q1 q2 => ?_⟩
            by_cases e : i = m
            · rw [e]; exact HOP.out
            · exact HA.out i q1 (by omega)
          case measure => simp [iv]; omega
        | false =>
          have HOP : Hid (op m = false) := hop
          rw [hop] at d1
          clear hop
          go_wp2
          go_ret
          refine ⟨false, rfl, ?_, rfl⟩
          simp only [Bool.false_eq_true, false_iff]
          intro q
          have := q m h1 hm
          rw [HOP.out] at this
          cases this
      · have hmI : (a : Int) + (S : Int) ≤ (m : Int) := by omega
        go_wp2
        go_ret
        refine ⟨true, rfl, ?_, rfl⟩
        simp only [true_iff]
        exact fun i q1 q2 => HA.out i q1 (by omega)
  · have hcI : (n : Int) < (a : Int) + (S : Int) := by omega
    have hwr : IntKind.i64.wrap ((a : Int) + (S : Int)) = (a : Int) + (S : Int) := IntWalk.i64_in _ (by omega)
    go_enter Tryz.func118, Tryz.ntmps118
    go_wp2
    go_ret
    refine ⟨false, rfl, ?_, rfl⟩
    simp only [Bool.false_eq_true, false_iff]
    intro q
    have := HL.out _ (q (a + S - 1) (by omega) (by omega))
    omega
end Go.Proofs.YtdempgjhjcjklaaGreat.B
namespace Go.Proofs.YtdempgjhjcjklaaGreat.B
open Go.ChangeShapes Go.WideShapes Go.ChangeAt Go.RowKit
set_option linter.unusedVariables false
set_option maxRecDepth 8192

theorem sorted_len : ∀ (l : List Nat) (b a : Nat), l.Pairwise (· < ·) → (∀ x ∈ l, b ≤ x ∧ x < a) → b + l.length ≤ a ∨ l = []
  | [], _, _, _, _ => Or.inr rfl
  | x :: l, b, a, h, hx => by
    have h' := List.pairwise_cons.1 h
    have h1 := hx x (by simp)
    rcases sorted_len l (x + 1) a h'.2 (fun y hy => ⟨h'.1 y hy, (hx y (List.mem_cons_of_mem _ hy)).2⟩) with q | q
    · left
      simp
      omega
    · left
      subst q
      simp
      omega
theorem sorted_le {l : List Nat} {a : Nat} (h : l.Pairwise (· < ·)) (hx : ∀ x ∈ l, x < a) : l.length ≤ a := by
  rcases sorted_len l 0 a h (fun x hq => ⟨Nat.zero_le _, hx x hq⟩) with q | q
  · omega
  · subst q; simp
theorem Sc.len {op : Nat → Bool} {a : Nat} {M : Nat → List Nat} (h : Sc op a M) (k : Nat) (hk : k ≤ 6) : (M k).length ≤ a :=
  sorted_le (h.up k hk) (fun x hx => ((h.mem k hk x).1 hx).2.2)
def Sst (w wr : World) (g : Nat) (op : Nat → Bool) (n a : Nat) : Prop := a ≤ n ∧ ∃ M, Sc op a M ∧ ∃ F V, Rws wr F g 7 (fun i => ints (M i)) V ∧ (∀ b, F b → w.heap.size ≤ b) ∧ w.grownBy wr none
theorem make7 (w : World) : (Instr.makeSlice 156 (.int .i64 7) (.int .i64 7)).run Tryz.prog w = .ok (.slice (some ⟨w.heap.size, 0, none⟩) 7 7) (w.alloc (.cells (List.replicate 7 (.slice none 0 0)).toArray 25)) := by
  obtain ⟨i0, hi, hz0, hz1, hz2⟩ := info_parts Tryz.infoS
  have h := run_makeSlice (P := Tryz.prog) w 156 25 i0 (.slice none 0 0) Tryz.underlying156 hi hz0 .i64 .i64 7 7 (by omega) (by omega) (by rw [hz1]; simp) (by rw [hz2]; omega) (by omega)
  rw [h]
  have e : madeCells (Value.slice none 0 0).cells ((7 : Int).toNat * i0.size) = (List.replicate 7 (.slice none 0 0)).toArray := by
    apply Array.toList_inj.1
    rw [hz1]
    show (madeCells #[.slice none 0 0] (7 * 1)).toList = _
    rw [toList_madeCells_one]
  rw [e]
  rfl
theorem rws_new (w : World) (k : Nat) : Rws (w.alloc (.cells (List.replicate k (.slice none 0 0)).toArray 25)) (fun b => b = w.heap.size) w.heap.size k (fun _ => []) (fun _ => .slice none 0 0) := by
  have hb := blk_new w (List.replicate k (.slice none 0 0)) 25
  exact ⟨fun b e => by subst e; exact hb.lt, rfl, fun i b _ h => (by cases h), fun i hi => rep_cell hb hi, fun i _ => hb.frozen i, fun i _ => Own.nil _, fun i _ h => (by cases h), fun i j b _ _ _ h => (by cases h)⟩
theorem tmod_nat (a b : Nat) : ((a : Int).tmod (b : Int)) = ((a % b : Nat) : Int) := by
  rw [Int.tmod_eq_emod_of_nonneg (by omega)]
  rfl
theorem shl_two (k : Nat) (hk : k ≤ 6) : IntKind.i64.wrap ((2 : Int) * 2 ^ k) = ((2 ^ (k + 1) : Nat) : Int) := by
  rcases six hk with rfl | rfl | rfl | rfl | rfl | rfl | rfl <;> rfl
set_option maxHeartbeats 2000000 in
theorem rLists_ok {w : World} {q go gt n : Nat} {op : Nat → Bool} {tk : Nat → Option Nat} (h : Rb w q go gt n op tk) (hl : ∀ i, op i = true → i < n) {L : Nat → List Nat} (hL : ∀ k, k ≤ 6 → Fit op k (L k)) :
    Calls Tryz.prog 93 #[.pointer (some ⟨q, 0, none⟩)] w fun e w' => ∃ v, e = .returned v ∧ Ls w.heap.size w' v (fun i => ints (L i)) ∧ w.grownBy w' none := by
  have HR : Hid (Rb w q go gt n op tk) := h
  have HL : Hid (∀ i, op i = true → i < n) := hl
  have HLF : Hid (∀ k, k ≤ 6 → Fit op k (L k)) := hL
  have hn := h.n4
  have hm7 := make7
  have HRN : Hid (Rws (w.alloc (.cells (List.replicate 7 (.slice none 0 0)).toArray 25)) (fun b => b = w.heap.size) w.heap.size 7 (fun _ => []) (fun _ => .slice none 0 0)) := rws_new w 7
  have HGN : Hid (w.grownBy (w.alloc (.cells (List.replicate 7 (.slice none 0 0)).toArray 25)) none) := World.grownBy_alloc _ _ none
  clear h hl hL
  generalize (List.replicate 7 (Value.slice none 0 0)).toArray = C7 at *
  obtain ⟨g, hg⟩ : ∃ g, g = w.heap.size := ⟨_, rfl⟩
  have HGE : Hid (g = w.heap.size) := hg
  have hgm : (Instr.makeSlice 156 (.int .i64 7) (.int .i64 7)).run Tryz.prog w = .ok (.slice (some ⟨g, 0, none⟩) 7 7) (w.alloc (.cells C7 25)) := by rw [hg]; exact hm7 w
  clear hm7 hg
  obtain ⟨i0, hi0, hz0, hz1, hz2⟩ := info_parts Tryz.infoI
  go_enter Tryz.func93, Tryz.ntmps93
  go_wp2
  go_loopw [4] (fun z wr => ∃ a : Nat, z = .int .i64 a ∧ Sst w wr g op n a) (fun z _ => n - (iv z).toNat)
  case atStart =>
    refine ⟨0, rfl, Nat.zero_le _, fun _ => [], Sc.zero op, fun b => b = w.heap.size, fun _ => .slice none 0 0, ?_, fun b e => by omega, HGN.out⟩
    rw [HGE.out]
    exact HRN.out
  case round =>
    obtain ⟨a, rfl, hS⟩ := hrel
    have han := hS.1
    have HST : Hid (Sst w wr g op n a) := hS
    obtain ⟨_, M, hsc, F, V, hrw, hfb, hgr⟩ := hS
    have HSC : Hid (Sc op a M) := hsc
    have HRW : Hid (Rws wr F g 7 (fun i => ints (M i)) V) := hrw
    have HFB : Hid (∀ b, F b → w.heap.size ≤ b) := hfb
    have HG : Hid (w.grownBy wr none) := hgr
    have HRB : Hid (Rb wr q go gt n op tk) := HR.out.of_eq hgr.size (hgr.block q HR.out.ql (by simp)) (hgr.block go HR.out.ol (by simp)) (hgr.block gt HR.out.tl (by simp))
    have d0 := HRB.out.c0
    clear hsc hrw hfb hgr HRN HGN hgm
    by_cases hlt : a < n
    · have hltI : (a : Int) < (n : Int) := by omega
      have d1 := HRB.out.oc a hlt
      cases hop : op a with
      | false =>
        have HSK : Hid (Sst w wr g op n (a + 1)) := ⟨by omega, M, HSC.out.skip hop, F, V, HRW.out, HFB.out, HG.out⟩
        rw [hop] at d1
        clear hop
        go_wp2
        exact ⟨⟨a + 1, by go_num, HSK.out⟩, by simp [iv]; omega⟩
      | true =>
        have HOP : Hid (op a = true) := hop
        rw [hop] at d1
        clear hop
        go_wp2
        go_loopw [5] (fun z wq => ∃ k : Nat, k ≤ 6 ∧ z = .int .i64 k ∧ wq = wr ∧ a % 2 ^ k = 0 ∧ wh op k (a / 2 ^ k)) (fun z _ => 6 - (iv z).toNat)
        case atStart =>
          refine ⟨0, by omega, rfl, rfl, by omega, fun i hi => ?_⟩
          have e : i = a := by simpa using hi
          rw [e]
          exact HOP.out
        case round =>
          obtain ⟨k, hk, rfl, hw, hmo, hwo⟩ := hrel
          obtain rfl := hw
          have HMO : Hid (a % 2 ^ k = 0) := hmo
          have HWO : Hid (wh op k (a / 2 ^ k)) := hwo
          have hbd := wh_le HL.out hmo hwo
          clear hmo hwo
          have hsh := shl_wrap k hk
          have hpl := pow_le k hk
          obtain ⟨S, hS⟩ : ∃ S, 2 ^ k = S := ⟨_, rfl⟩
          have HS : Hid (2 ^ k = S) := hS
          rw [hS] at hsh hpl hbd
          clear hS
          by_cases hk6 : k < 6
          · have hsh2 := shl_two k hk
            have hpl2 := pow_le (k + 1) (by omega)
            have htm := tmod_nat a (2 ^ (k + 1))
            have CO : Hid (Calls _ _ _ _ _) := open_any HRB.out HL.out a (k + 1) (by omega) (by omega)
            obtain ⟨S2, hS2⟩ : ∃ S, 2 ^ (k + 1) = S := ⟨_, rfl⟩
            have HS2 : Hid (2 ^ (k + 1) = S2) := hS2
            rw [hS2] at hsh2 hpl2 htm CO
            rw [show ((k + 1 : Nat) : Int) = (k : Int) + 1 by omega] at CO
            clear hS2
            have hk6I : (k : Int) < 6 := by omega
            have hk1 : IntKind.i64.wrap ((k : Int) + 1) = (k : Int) + 1 := IntWalk.i64_in _ (by omega)
            by_cases hmod : a % S2 = 0
            · rw [hmod] at htm
              have HMOD : Hid (a % S2 = 0) := hmod
              clear hmod
              go_wp2_with fail
              refine CO.out.mono ?_
              rintro e w' ⟨r, rfl, hr, h⟩
              obtain rfl := h.symm
              cases r with
              | true =>
                have HRT : Hid (wh op (k + 1) (a / 2 ^ (k + 1))) := by
                  have hm1 : a % 2 ^ (k + 1) = 0 := by rw [HS2.out]; exact HMOD.out
                  rw [wh_of hm1, HS2.out]
                  exact hr.1 rfl
                clear hr CO
                go_wp2
                go_roundw
                case rel => exact ⟨k + 1, by omega, by go_num, by simp, by rw [HS2.out]; exact HMOD.out, HRT.out⟩
                case measure => simp [iv]; omega
              | false =>
                have HSTOP : Hid (k < 6 → ¬ (a % 2 ^ (k + 1) = 0 ∧ wh op (k + 1) (a / 2 ^ (k + 1)))) := fun _ z => by
                  rw [wh_of z.1, HS2.out] at z
                  have := hr.2 z.2
                  cases this
                clear hr CO
                have HP : Hid (Rws wr F g 7 (fun i => ints (M i)) V) := HRW.out
                have hr := HP.out.row k (by omega)
                have hw1 := HP.out.own k (by omega)
                obtain ⟨g0, c0, hv⟩ := hw1.len
                rw [hv] at hr hw1
                have HV : Hid (V k = _) := hv
                have HO : Hid (Own wr _ _) := hw1
                clear hv hw1
                rw [ints_len] at hr HV HO
                have hf := HP.out.fz k (by omega)
                have hm : (M k).length ≤ 4096 := Nat.le_trans (HSC.out.len k (by omega)) (by omega)
                obtain ⟨m, hme⟩ : ∃ m, (M k).length = m := ⟨_, rfl⟩
                have HME : Hid ((M k).length = m) := hme
                rw [hme] at hr HV HO hm
                clear hme
                have hpw : g < wr.heap.size := HP.out.lt _ HP.out.fg
                have HOW : Hid (∀ W, Below wr.heap.size wr W → W.ownsRow 0 3 1 (.slice g0 m c0) m (tv (ints (M k)))) := fun W hW => by
                  have := HO.out.of_eq (w' := W) (fun c hc => hW.block c (HO.out.lt c hc))
                  unfold Own at this
                  rwa [ints_len, HME.out] at this
                have HB1 : Hid (Below wr.heap.size wr (wr.alloc (.cells #[.int .i64 a] 3))) := (Below.refl _ wr).alloc (Nat.le_refl _) _
                have HN1 : Hid (∀ c u, [Value.int .i64 (a : Int)][c]? = some u → (wr.alloc (.cells #[.int .i64 a] 3)).cell? ((⟨wr.heap.size, 0, none⟩ : Addr).add c) = some u) := news_one wr _ 3
                have HT : Hid (∀ v ∈ [Value.int .i64 (a : Int)], v.oneCell' = true) := by
                  intro v hv
                  simp at hv
                  subst hv
                  rfl
                have HC : Hid (∀ w1, wr.grownBy w1 (Value.slice g0 m c0).ownBlock → w1.cell? ⟨g, k, none⟩ = some (.slice g0 m c0) ∧ w1.frozen? ⟨g, k, none⟩ = false) := fun w1 G => by
                  have := HP.out.vg k (by omega)
                  rw [HV.out] at this
                  exact ⟨(G.cell_far ⟨g, k, none⟩ hpw (fun e => this e.symm)).trans hr, (G.frozen_far ⟨g, k, none⟩ hpw (fun e => this e.symm)).trans hf⟩
                have hk0 : (0 : Int) ≤ (k : Int) := by omega
                have hk7 : (k : Int) < 7 := by omega
                have hwr : IntKind.i64.wrap ((a : Int) + (S : Int)) = (a : Int) + (S : Int) := IntWalk.i64_in _ (by omega)
                go_wp2_with (first | (at_builtin; refine wpList_append_lies _ rfl (.tmp 47) (.tmp 49) 25 rfl 0 3 i0 _ 1 8 Tryz.underlying25 hi0 hz0 hz1 hz2 rfl (by decide) (.slice g0 m c0) m (tv (ints (M k))) rfl (HOW.out _ HB1.out) ⟨wr.heap.size, 0, none⟩ 1 1 [.int .i64 a] rfl rfl HN1.out HT.out (by omega) (by unfold maxLen; omega) (by omega) (Nat.zero_le _) (wr.heap.size + 1) (by simp) ?_; intro g1 k1 w1 o1 gr1 at1 lt1; have G1 : Hid (wr.grownBy w1 (Value.slice g0 m c0).ownBlock) := (World.grownBy_alloc wr _ _).trans gr1; obtain ⟨r1, r2⟩ := HC.out w1 G1.out))
                have HX : Hid (Sst w (w1.setCell ⟨g, k, none⟩ (.slice (some ⟨g1, 0, none⟩) (m + 1) k1)) g op n (a + S)) := by
                  have hz := HP.out.turn k (by omega) (.slice (some ⟨g1, 0, none⟩) (m + 1) k1) (ints (M k ++ [a])) (w1 := w1) (by rw [HV.out]; exact G1.out) (by
                    unfold Own
                    have e1 : (ints (M k ++ [a])).length = m + 1 := by rw [ints_len, List.length_append, HME.out]; rfl
                    have e2 : tv (ints (M k ++ [a])) = tv (ints (M k)) ++ [.int .i64 a] := by simp [ints, tv]
                    rw [e1, e2]
                    exact o1) (fun c hc => by
                    rw [HV.out]
                    obtain rfl : g1 = c := by simpa [Value.ownBlock] using hc
                    rcases at1 with z | z
                    · exact Or.inl z
                    · exact Or.inr (by omega))
                  obtain ⟨R1, K1⟩ := hz
                  have hsc := HSC.out.add (k := k) (by omega) HMO.out HWO.out HSTOP.out
                  rw [HS.out] at hsc
                  refine ⟨by omega, _, hsc, _, _, R1.congr (fun i hi => ?_), ?_, ?_⟩
                  · unfold put
                    by_cases e : i = k
                    · subst e
                      rw [if_pos rfl, if_pos rfl]
                    · rw [if_neg e, if_neg e]
                  · intro b hb
                    rcases hb with z | z
                    · exact HFB.out b z
                    · exact Nat.le_trans HG.out.size z.1
                  · refine ⟨K1.os.trans HG.out.os, K1.tape.trans HG.out.tape, K1.output.trans HG.out.output, Nat.le_trans HG.out.size K1.size, fun c hc hn => (K1.block c (Nat.lt_of_lt_of_le hc HG.out.size) (fun z => by have := HFB.out c z; omega)).trans (HG.out.block c hc hn)⟩
                clear r1 r2 G1 gr1 o1 at1 lt1 HC HT HN1 HB1 HOW hr hf HV HO HP HRW
                generalize w1.setCell ⟨g, k, none⟩ (.slice (some ⟨g1, 0, none⟩) (m + 1) k1) = w5 at *
                go_wp2
                exact ⟨⟨a + S, by go_num, HX.out⟩, by simp [iv]; omega⟩
            · have hmodI : ¬ (((a % S2 : Nat) : Int) = 0) := by omega
              have HSTOP : Hid (k < 6 → ¬ (a % 2 ^ (k + 1) = 0 ∧ wh op (k + 1) (a / 2 ^ (k + 1)))) := fun _ z => by
                have := z.1
                rw [HS2.out] at this
                exact hmod this
              obtain ⟨R, hR⟩ : ∃ R, a % S2 = R := ⟨_, rfl⟩
              rw [hR] at htm hmodI
              clear hmod hR CO
              have HP : Hid (Rws wr F g 7 (fun i => ints (M i)) V) := HRW.out
              have hr := HP.out.row k (by omega)
              have hw1 := HP.out.own k (by omega)
              obtain ⟨g0, c0, hv⟩ := hw1.len
              rw [hv] at hr hw1
              have HV : Hid (V k = _) := hv
              have HO : Hid (Own wr _ _) := hw1
              clear hv hw1
              rw [ints_len] at hr HV HO
              have hf := HP.out.fz k (by omega)
              have hm : (M k).length ≤ 4096 := Nat.le_trans (HSC.out.len k (by omega)) (by omega)
              obtain ⟨m, hme⟩ : ∃ m, (M k).length = m := ⟨_, rfl⟩
              have HME : Hid ((M k).length = m) := hme
              rw [hme] at hr HV HO hm
              clear hme
              have hpw : g < wr.heap.size := HP.out.lt _ HP.out.fg
              have HOW : Hid (∀ W, Below wr.heap.size wr W → W.ownsRow 0 3 1 (.slice g0 m c0) m (tv (ints (M k)))) := fun W hW => by
                have := HO.out.of_eq (w' := W) (fun c hc => hW.block c (HO.out.lt c hc))
                unfold Own at this
                rwa [ints_len, HME.out] at this
              have HB1 : Hid (Below wr.heap.size wr (wr.alloc (.cells #[.int .i64 a] 3))) := (Below.refl _ wr).alloc (Nat.le_refl _) _
              have HN1 : Hid (∀ c u, [Value.int .i64 (a : Int)][c]? = some u → (wr.alloc (.cells #[.int .i64 a] 3)).cell? ((⟨wr.heap.size, 0, none⟩ : Addr).add c) = some u) := news_one wr _ 3
              have HT : Hid (∀ v ∈ [Value.int .i64 (a : Int)], v.oneCell' = true) := by
                intro v hv
                simp at hv
                subst hv
                rfl
              have HC : Hid (∀ w1, wr.grownBy w1 (Value.slice g0 m c0).ownBlock → w1.cell? ⟨g, k, none⟩ = some (.slice g0 m c0) ∧ w1.frozen? ⟨g, k, none⟩ = false) := fun w1 G => by
                have := HP.out.vg k (by omega)
                rw [HV.out] at this
                exact ⟨(G.cell_far ⟨g, k, none⟩ hpw (fun e => this e.symm)).trans hr, (G.frozen_far ⟨g, k, none⟩ hpw (fun e => this e.symm)).trans hf⟩
              have hk0 : (0 : Int) ≤ (k : Int) := by omega
              have hk7 : (k : Int) < 7 := by omega
              have hwr : IntKind.i64.wrap ((a : Int) + (S : Int)) = (a : Int) + (S : Int) := IntWalk.i64_in _ (by omega)
              go_wp2_with (first | (at_builtin; refine wpList_append_lies _ rfl (.tmp 47) (.tmp 49) 25 rfl 0 3 i0 _ 1 8 Tryz.underlying25 hi0 hz0 hz1 hz2 rfl (by decide) (.slice g0 m c0) m (tv (ints (M k))) rfl (HOW.out _ HB1.out) ⟨wr.heap.size, 0, none⟩ 1 1 [.int .i64 a] rfl rfl HN1.out HT.out (by omega) (by unfold maxLen; omega) (by omega) (Nat.zero_le _) (wr.heap.size + 1) (by simp) ?_; intro g1 k1 w1 o1 gr1 at1 lt1; have G1 : Hid (wr.grownBy w1 (Value.slice g0 m c0).ownBlock) := (World.grownBy_alloc wr _ _).trans gr1; obtain ⟨r1, r2⟩ := HC.out w1 G1.out))
              have HX : Hid (Sst w (w1.setCell ⟨g, k, none⟩ (.slice (some ⟨g1, 0, none⟩) (m + 1) k1)) g op n (a + S)) := by
                have hz := HP.out.turn k (by omega) (.slice (some ⟨g1, 0, none⟩) (m + 1) k1) (ints (M k ++ [a])) (w1 := w1) (by rw [HV.out]; exact G1.out) (by
                  unfold Own
                  have e1 : (ints (M k ++ [a])).length = m + 1 := by rw [ints_len, List.length_append, HME.out]; rfl
                  have e2 : tv (ints (M k ++ [a])) = tv (ints (M k)) ++ [.int .i64 a] := by simp [ints, tv]
                  rw [e1, e2]
                  exact o1) (fun c hc => by
                  rw [HV.out]
                  obtain rfl : g1 = c := by simpa [Value.ownBlock] using hc
                  rcases at1 with z | z
                  · exact Or.inl z
                  · exact Or.inr (by omega))
                obtain ⟨R1, K1⟩ := hz
                have hsc := HSC.out.add (k := k) (by omega) HMO.out HWO.out HSTOP.out
                rw [HS.out] at hsc
                refine ⟨by omega, _, hsc, _, _, R1.congr (fun i hi => ?_), ?_, ?_⟩
                · unfold put
                  by_cases e : i = k
                  · subst e
                    rw [if_pos rfl, if_pos rfl]
                  · rw [if_neg e, if_neg e]
                · intro b hb
                  rcases hb with z | z
                  · exact HFB.out b z
                  · exact Nat.le_trans HG.out.size z.1
                · refine ⟨K1.os.trans HG.out.os, K1.tape.trans HG.out.tape, K1.output.trans HG.out.output, Nat.le_trans HG.out.size K1.size, fun c hc hn => (K1.block c (Nat.lt_of_lt_of_le hc HG.out.size) (fun z => by have := HFB.out c z; omega)).trans (HG.out.block c hc hn)⟩
              clear r1 r2 G1 gr1 o1 at1 lt1 HC HT HN1 HB1 HOW hr hf HV HO HP HRW
              generalize w1.setCell ⟨g, k, none⟩ (.slice (some ⟨g1, 0, none⟩) (m + 1) k1) = w5 at *
              go_wp2
              exact ⟨⟨a + S, by go_num, HX.out⟩, by simp [iv]; omega⟩
          · have HSTOP : Hid (k < 6 → ¬ (a % 2 ^ (k + 1) = 0 ∧ wh op (k + 1) (a / 2 ^ (k + 1)))) := fun z => absurd z hk6
            have hk6I : ¬ ((k : Int) < 6) := by omega
            have HP : Hid (Rws wr F g 7 (fun i => ints (M i)) V) := HRW.out
            have hr := HP.out.row k (by omega)
            have hw1 := HP.out.own k (by omega)
            obtain ⟨g0, c0, hv⟩ := hw1.len
            rw [hv] at hr hw1
            have HV : Hid (V k = _) := hv
            have HO : Hid (Own wr _ _) := hw1
            clear hv hw1
            rw [ints_len] at hr HV HO
            have hf := HP.out.fz k (by omega)
            have hm : (M k).length ≤ 4096 := Nat.le_trans (HSC.out.len k (by omega)) (by omega)
            obtain ⟨m, hme⟩ : ∃ m, (M k).length = m := ⟨_, rfl⟩
            have HME : Hid ((M k).length = m) := hme
            rw [hme] at hr HV HO hm
            clear hme
            have hpw : g < wr.heap.size := HP.out.lt _ HP.out.fg
            have HOW : Hid (∀ W, Below wr.heap.size wr W → W.ownsRow 0 3 1 (.slice g0 m c0) m (tv (ints (M k)))) := fun W hW => by
              have := HO.out.of_eq (w' := W) (fun c hc => hW.block c (HO.out.lt c hc))
              unfold Own at this
              rwa [ints_len, HME.out] at this
            have HB1 : Hid (Below wr.heap.size wr (wr.alloc (.cells #[.int .i64 a] 3))) := (Below.refl _ wr).alloc (Nat.le_refl _) _
            have HN1 : Hid (∀ c u, [Value.int .i64 (a : Int)][c]? = some u → (wr.alloc (.cells #[.int .i64 a] 3)).cell? ((⟨wr.heap.size, 0, none⟩ : Addr).add c) = some u) := news_one wr _ 3
            have HT : Hid (∀ v ∈ [Value.int .i64 (a : Int)], v.oneCell' = true) := by
              intro v hv
              simp at hv
              subst hv
              rfl
            have HC : Hid (∀ w1, wr.grownBy w1 (Value.slice g0 m c0).ownBlock → w1.cell? ⟨g, k, none⟩ = some (.slice g0 m c0) ∧ w1.frozen? ⟨g, k, none⟩ = false) := fun w1 G => by
              have := HP.out.vg k (by omega)
              rw [HV.out] at this
              exact ⟨(G.cell_far ⟨g, k, none⟩ hpw (fun e => this e.symm)).trans hr, (G.frozen_far ⟨g, k, none⟩ hpw (fun e => this e.symm)).trans hf⟩
            have hk0 : (0 : Int) ≤ (k : Int) := by omega
            have hk7 : (k : Int) < 7 := by omega
            have hwr : IntKind.i64.wrap ((a : Int) + (S : Int)) = (a : Int) + (S : Int) := IntWalk.i64_in _ (by omega)
            go_wp2_with (first | (at_builtin; refine wpList_append_lies _ rfl (.tmp 47) (.tmp 49) 25 rfl 0 3 i0 _ 1 8 Tryz.underlying25 hi0 hz0 hz1 hz2 rfl (by decide) (.slice g0 m c0) m (tv (ints (M k))) rfl (HOW.out _ HB1.out) ⟨wr.heap.size, 0, none⟩ 1 1 [.int .i64 a] rfl rfl HN1.out HT.out (by omega) (by unfold maxLen; omega) (by omega) (Nat.zero_le _) (wr.heap.size + 1) (by simp) ?_; intro g1 k1 w1 o1 gr1 at1 lt1; have G1 : Hid (wr.grownBy w1 (Value.slice g0 m c0).ownBlock) := (World.grownBy_alloc wr _ _).trans gr1; obtain ⟨r1, r2⟩ := HC.out w1 G1.out))
            have HX : Hid (Sst w (w1.setCell ⟨g, k, none⟩ (.slice (some ⟨g1, 0, none⟩) (m + 1) k1)) g op n (a + S)) := by
              have hz := HP.out.turn k (by omega) (.slice (some ⟨g1, 0, none⟩) (m + 1) k1) (ints (M k ++ [a])) (w1 := w1) (by rw [HV.out]; exact G1.out) (by
                unfold Own
                have e1 : (ints (M k ++ [a])).length = m + 1 := by rw [ints_len, List.length_append, HME.out]; rfl
                have e2 : tv (ints (M k ++ [a])) = tv (ints (M k)) ++ [.int .i64 a] := by simp [ints, tv]
                rw [e1, e2]
                exact o1) (fun c hc => by
                rw [HV.out]
                obtain rfl : g1 = c := by simpa [Value.ownBlock] using hc
                rcases at1 with z | z
                · exact Or.inl z
                · exact Or.inr (by omega))
              obtain ⟨R1, K1⟩ := hz
              have hsc := HSC.out.add (k := k) (by omega) HMO.out HWO.out HSTOP.out
              rw [HS.out] at hsc
              refine ⟨by omega, _, hsc, _, _, R1.congr (fun i hi => ?_), ?_, ?_⟩
              · unfold put
                by_cases e : i = k
                · subst e
                  rw [if_pos rfl, if_pos rfl]
                · rw [if_neg e, if_neg e]
              · intro b hb
                rcases hb with z | z
                · exact HFB.out b z
                · exact Nat.le_trans HG.out.size z.1
              · refine ⟨K1.os.trans HG.out.os, K1.tape.trans HG.out.tape, K1.output.trans HG.out.output, Nat.le_trans HG.out.size K1.size, fun c hc hn => (K1.block c (Nat.lt_of_lt_of_le hc HG.out.size) (fun z => by have := HFB.out c z; omega)).trans (HG.out.block c hc hn)⟩
            clear r1 r2 G1 gr1 o1 at1 lt1 HC HT HN1 HB1 HOW hr hf HV HO HP HRW
            generalize w1.setCell ⟨g, k, none⟩ (.slice (some ⟨g1, 0, none⟩) (m + 1) k1) = w5 at *
            go_wp2
            exact ⟨⟨a + S, by go_num, HX.out⟩, by simp [iv]; omega⟩
    · have HFIN : Hid (Ls w.heap.size wr (.slice (some ⟨g, 0, none⟩) 7 7) (fun i => ints (L i))) := by
        obtain rfl : a = n := by omega
        refine ⟨g, 7, F, V, rfl, HRW.out.congr (fun i hi => ?_), HFB.out⟩
        rw [((HSC.out.fit HL.out i (by omega)).uniq (HLF.out i (by omega)))]
      have hltI : (n : Int) ≤ (a : Int) := by omega
      go_wp2
      go_ret
      exact ⟨_, rfl, HFIN.out, HG.out⟩
end Go.Proofs.YtdempgjhjcjklaaGreat.B
namespace Go.Proofs.YtdempgjhjcjklaaGreat.B
open Go.ChangeShapes Go.WideShapes Go.ChangeAt Go.RowKit
set_option linter.unusedVariables false
set_option maxRecDepth 8192

def mkp (op : Nat → Bool) (a m : Nat) (b : Bool) : Nat → Bool := fun i => if a ≤ i ∧ i < m then b else op i
theorem mkp_shut (op : Nat → Bool) (o a : Nat) (ha : a % 2 ^ o = 0) : mkp op a (a + 2 ^ o) false = shut op o (a / 2 ^ o) := by
  funext i
  unfold mkp shut
  have e := @div_eq_iff i (a / 2 ^ o) o
  rw [mod_mul_div ha] at e
  by_cases h : i / 2 ^ o = a / 2 ^ o
  · rw [if_pos (e.1 h), if_pos h]
  · rw [if_neg (fun q => h (e.2 q)), if_neg h]
theorem mkp_opened (op : Nat → Bool) (o a : Nat) (ha : a % 2 ^ o = 0) : mkp op a (a + 2 ^ o) true = opened op o (a / 2 ^ o) := by
  funext i
  unfold mkp opened
  have e := @div_eq_iff i (a / 2 ^ o) o
  rw [mod_mul_div ha] at e
  by_cases h : i / 2 ^ o = a / 2 ^ o
  · rw [if_pos (e.1 h), if_pos h]
  · rw [if_neg (fun q => h (e.2 q)), if_neg h]
theorem Rb.mk1 {w : World} {q go gt n : Nat} {op : Nat → Bool} {tk : Nat → Option Nat} {a m : Nat} {b : Bool} (h : Rb w q go gt n (mkp op a m b) tk) (h1 : a ≤ m) (hm : m < n) : Rb (w.setCell ⟨go, m, none⟩ (.bool b)) q go gt n (mkp op a (m + 1) b) tk := by
  refine (h.open1 m hm b).congr (fun i hi => ?_) (fun _ _ => rfl)
  unfold mkp
  by_cases e : i = m
  · rw [if_pos e, if_pos (by omega)]
  · rw [if_neg e]
    by_cases e2 : a ≤ i ∧ i < m
    · rw [if_pos e2, if_pos (by omega)]
    · rw [if_neg e2, if_neg (by omega)]
theorem Rb.tk1 {w : World} {q go gt n : Nat} {op : Nat → Bool} {tk : Nat → Option Nat} (h : Rb w q go gt n op tk) (a : Nat) (ha : a < n) (v : Option Nat) (x : Int) (hx : x = tn (pt tk a v) a) : Rb (w.setCell ⟨gt, a, none⟩ (.int .i64 x)) q go gt n op (pt tk a v) := by
  have G := grown_setCell' w gt a (.int .i64 x)
  have s : (w.setCell ⟨gt, a, none⟩ (.int .i64 x)).heap.size = w.heap.size := by simp [World.setCell]
  refine ⟨by rw [s]; exact h.ql, by rw [s]; exact h.ol, by rw [s]; exact h.tl, (G.cell_far ⟨q, 0, none⟩ h.ql (some_ne h.n2)).trans h.c0, (G.cell_far ⟨q, 1, none⟩ h.ql (some_ne h.n2)).trans h.c1, fun j hj => (G.cell_far ⟨go, j, none⟩ h.ol (some_ne h.n3)).trans (h.oc j hj), fun j hj => ?_, fun j hj => by rw [World.frozen?_setCell]; exact h.of j hj, fun j hj => by rw [World.frozen?_setCell]; exact h.tf j hj, h.n1, h.n2, h.n3, h.n4⟩
  by_cases e : j = a
  · subst e
    rw [World.cell?_setCell_same _ _ _ (h.tc j hj), hx]
  · rw [World.cell?_setCell_other _ _ _ _ (by intro h; cases h; exact e rfl), h.tc j hj]
    unfold tn pt
    rw [if_neg e]
theorem rTake_no {w : World} (q : Nat) (o : Int) (ho : o < 0 ∨ 6 < o) : Calls Tryz.prog 62 #[.pointer (some ⟨q, 0, none⟩), .int .i64 o] w fun e w' => e = .returned (.tuple #[.int .i64 0, .int .i64 2]) ∧ w' = w := by
  go_enter Tryz.func62, Tryz.ntmps62
  go_wp2
  all_goals (go_ret2; exact ⟨rfl, rfl⟩)
theorem Ls.cell {B : Nat} {w : World} {v : Value} {M : Nat → List Int} (h : Ls B w v M) : ∃ g cap, v = .slice (some ⟨g, 0, none⟩) 7 cap ∧ g < w.heap.size ∧ ∀ i, i < 7 → ∃ a c, w.cell? ⟨g, i, none⟩ = some (.slice a (M i).length c) ∧ Own w (.slice a (M i).length c) (M i) := by
  obtain ⟨g, cap, F, V, rfl, R, _⟩ := h
  refine ⟨g, cap, rfl, R.lt _ R.fg, fun i hi => ?_⟩
  obtain ⟨a, c, e⟩ := (R.own i hi).len
  have h1 := R.row i hi
  have h2 := R.own i hi
  rw [e] at h1 h2
  exact ⟨a, c, h1, h2⟩
theorem rTake_none {w : World} {q go gt n : Nat} {op : Nat → Bool} {tk : Nat → Option Nat} (h : Rb w q go gt n op tk) (hl : ∀ i, op i = true → i < n) {L : Nat → List Nat} (hL : ∀ k, k ≤ 6 → Fit op k (L k)) (o : Nat) (ho : o ≤ 6) (he : ∀ i, o ≤ i → i ≤ 6 → L i = []) :
    Calls Tryz.prog 62 #[.pointer (some ⟨q, 0, none⟩), .int .i64 o] w fun e w' => e = .returned (.tuple #[.int .i64 0, .int .i64 90]) ∧ w.grownBy w' none := by
  have CL : Hid (Calls _ _ _ _ _) := rLists_ok h hl hL
  have HE : Hid (∀ i, o ≤ i → i ≤ 6 → L i = []) := he
  clear h hl hL he
  go_enter Tryz.func62, Tryz.ntmps62
  go_wp2_with fail
  refine CL.out.mono ?_
  rintro e w1 ⟨v, rfl, hls, hg1⟩
  obtain ⟨g, cap, rfl, hgl, hc⟩ := hls.cell
  have HC : Hid (∀ i, o ≤ i → i ≤ 6 → ∃ a c, w1.cell? ⟨g, i, none⟩ = some (.slice a 0 c)) := fun i h1 h2 => by
    obtain ⟨a, c, e, _⟩ := hc i (by omega)
    rw [HE.out i h1 h2] at e
    exact ⟨a, c, e⟩
  have HG : Hid (w.grownBy w1 none) := hg1
  clear hc hls hg1 CL
  go_wp2
  go_loopw [7] (fun z wr => ∃ j : Nat, o ≤ j ∧ j ≤ 7 ∧ z = .int .i64 j ∧ wr = w1) (fun z _ => (7 - iv z).toNat)
  case atStart => exact ⟨o, Nat.le_refl _, by omega, rfl, rfl⟩
  case round =>
    obtain ⟨j, h1, h2, rfl, hw⟩ := hrel
    obtain rfl := hw
    by_cases hj : j ≤ 6
    · obtain ⟨a, c, hc⟩ := HC.out j h1 hj
      have hj0 : (0 : Int) ≤ (j : Int) := by omega
      have hj7 : (j : Int) < 7 := by omega
      go_wp2
      exact ⟨⟨j + 1, by omega, by omega, by go_num, by simp⟩, by simp [iv]; omega⟩
    · obtain rfl : j = 7 := by omega
      go_wp2
      go_ret2
      exact ⟨rfl, HG.out⟩
set_option maxHeartbeats 1000000 in
theorem rTake_ok {w : World} {q go gt n : Nat} {op : Nat → Bool} {tk : Nat → Option Nat} (h : Rb w q go gt n op tk) (hl : ∀ i, op i = true → i < n) {L : Nat → List Nat} (hL : ∀ k, k ≤ 6 → Fit op k (L k)) (o k a : Nat) (r : List Nat) (ho : o ≤ k) (hk : k ≤ 6) (he : ∀ i, o ≤ i → i < k → L i = []) (hLk : L k = a :: r) (hao : a % 2 ^ o = 0) (han : a + 2 ^ o ≤ n) :
    Calls Tryz.prog 62 #[.pointer (some ⟨q, 0, none⟩), .int .i64 o] w fun e w' => e = .returned (.tuple #[.int .i64 a, .int .i64 0]) ∧ Rb w' q go gt n (shut op o (a / 2 ^ o)) (pt tk a (some o)) ∧ Kp (fun k => k = go ∨ k = gt) (fun k => k = go ∨ k = gt) w w' := by
  have CL : Hid (Calls _ _ _ _ _) := rLists_ok h hl hL
  have HE : Hid (∀ i, o ≤ i → i < k → L i = []) := he
  have HLk : Hid (L k = a :: r) := hLk
  have HR : Hid (Rb w q go gt n op tk) := h
  have HSH : Hid (∀ S, 2 ^ o = S → mkp op a (a + S) false = shut op o (a / 2 ^ o)) := fun S e => by rw [← e]; exact mkp_shut op o a hao
  have hn := h.n4
  have hsh := shl_wrap o (by omega)
  have hpl := pow_le o (by omega)
  obtain ⟨S, hS⟩ : ∃ S, 2 ^ o = S := ⟨_, rfl⟩
  have HS : Hid (2 ^ o = S) := hS
  rw [hS] at hsh hpl han
  clear h hl hL he hLk hao hS
  go_enter Tryz.func62, Tryz.ntmps62
  go_wp2_with fail
  refine CL.out.mono ?_
  rintro e w1 ⟨v, rfl, hls, hg1⟩
  obtain ⟨g, cap, rfl, hgl, hc⟩ := hls.cell
  have HC : Hid (∀ i, o ≤ i → i < k → ∃ a c, w1.cell? ⟨g, i, none⟩ = some (.slice a 0 c)) := fun i h1 h2 => by
    obtain ⟨a, c, e, _⟩ := hc i (by omega)
    rw [HE.out i h1 h2] at e
    exact ⟨a, c, e⟩
  obtain ⟨b1, c1, e1, o1⟩ := hc k (by omega)
  rw [HLk.out] at e1 o1
  obtain ⟨b2, c2, e2, e3⟩ := o1.cell (k := 0) (t := (a : Int)) (by simp [ints])
  cases e2
  have hln : (ints (a :: r)).length = r.length + 1 := by simp [ints]
  rw [hln] at e1
  obtain ⟨m0, hm0⟩ : ∃ m, r.length = m := ⟨_, rfl⟩
  rw [hm0] at e1
  have HG : Hid (w.grownBy w1 none) := hg1
  have HR1 : Hid (Rb w1 q go gt n op tk) := HR.out.of_eq hg1.size (hg1.block q HR.out.ql (by simp)) (hg1.block go HR.out.ol (by simp)) (hg1.block gt HR.out.tl (by simp))
  clear hc hls hg1 CL o1 hln hm0
  go_wp2
  go_loopw [7] (fun z wr => ∃ j : Nat, o ≤ j ∧ j ≤ k ∧ z = .int .i64 j ∧ wr = w1) (fun z _ => (7 - iv z).toNat)
  case atStart => exact ⟨o, Nat.le_refl _, by omega, rfl, rfl⟩
  case round =>
    obtain ⟨j, h1, h2, rfl, hw⟩ := hrel
    obtain rfl := hw.symm
    by_cases hj : j < k
    · obtain ⟨a, c, hc⟩ := HC.out j h1 hj
      have hj0 : (0 : Int) ≤ (j : Int) := by omega
      have hj7 : (j : Int) < 7 := by omega
      clear e1 e3
      go_wp2
      exact ⟨⟨j + 1, by omega, by omega, by go_num, by simp⟩, by simp [iv]; omega⟩
    · obtain rfl : j = k := by omega
      have hj0 : (0 : Int) ≤ (j : Int) := by omega
      have hj7 : (j : Int) < 7 := by omega
      have hwr : IntKind.i64.wrap ((a : Int) + (S : Int)) = (a : Int) + (S : Int) := IntWalk.i64_in _ (by omega)
      clear HC
      go_wp2
      go_loopw [9] (fun z wq => ∃ m : Nat, a ≤ m ∧ m ≤ a + S ∧ z = .int .i64 m ∧ Rb wq q go gt n (mkp op a m false) tk ∧ w1.grownBy wq (some go)) (fun z _ => (a + S) - (iv z).toNat)
      case atStart =>
        refine ⟨a, Nat.le_refl _, by omega, rfl, HR1.out.congr (fun i hi => ?_) (fun _ _ => rfl), World.grownBy.refl _ _⟩
        unfold mkp
        rw [if_neg (by omega)]
      case round =>
        obtain ⟨m, q1, q2, rfl, hR, hW⟩ := hrel
        have HRR : Hid (Rb wr q go gt n (mkp op a m false) tk) := hR
        have HW : Hid (w1.grownBy wr (some go)) := hW
        have d0 := hR.c0
        have d1 := hR.c1
        by_cases hm : m < a + S
        · have hmn : m < n := by omega
          have hmnI : (m : Int) < (n : Int) := by omega
          have hmI : (m : Int) < (a : Int) + (S : Int) := by omega
          have d2 := hR.oc m hmn
          have d3 := hR.of m hmn
          clear hR hW
          go_wp2
          exact ⟨⟨m + 1, by omega, by omega, by go_num, HRR.out.mk1 q1 hmn, HW.out.trans (grown_setCell' _ _ _ _)⟩, by simp [iv]; omega⟩
        · have hmI : (a : Int) + (S : Int) ≤ (m : Int) := by omega
          obtain rfl : m = a + S := by omega
          have han' : a < n := by omega
          have hanI : (a : Int) < (n : Int) := by omega
          have d2 := hR.tc a han'
          have d3 := hR.tf a han'
          have ho1 : IntKind.i64.wrap (1 + (o : Int)) = 1 + (o : Int) := IntWalk.i64_in _ (by omega)
          have HF : Hid (Rb (wr.setCell ⟨gt, a, none⟩ (.int .i64 (1 + (o : Int)))) q go gt n (shut op o (a / 2 ^ o)) (pt tk a (some o)) ∧ Kp (fun k => k = go ∨ k = gt) (fun k => k = go ∨ k = gt) w (wr.setCell ⟨gt, a, none⟩ (.int .i64 (1 + (o : Int))))) := by
            have hz := HRR.out.tk1 a han' (some o) (1 + (o : Int)) (by simp [tn, pt])
            rw [HSH.out S HS.out] at hz
            refine ⟨hz, ?_⟩
            have k1 : Kp (fun k => k = go ∨ k = gt) (fun k => k = go ∨ k = gt) w w1 := Kp.of_none HG.out
            have k2 : Kp (fun k => k = go ∨ k = gt) (fun k => k = go ∨ k = gt) w1 wr := Kp.of_grown HW.out (fun c e => by cases e; exact Or.inl rfl) (fun _ z => Or.inl z)
            have k3 : Kp (fun k => k = go ∨ k = gt) (fun k => k = go ∨ k = gt) wr (wr.setCell ⟨gt, a, none⟩ (.int .i64 (1 + (o : Int)))) := Kp.of_grown (grown_setCell' _ _ _ _) (fun c e => by cases e; exact Or.inr rfl) (fun _ z => Or.inl z)
            exact (k1.trans k2).trans k3
          generalize tn tk a = old at *
          clear hR hW HRR HW
          go_wp2
          go_ret2
          exact ⟨rfl, HF.out⟩
theorem rGive_no {w : World} (q : Nat) (a o : Int) (ho : o < 0 ∨ 6 < o ∨ a < 0) : Calls Tryz.prog 120 #[.pointer (some ⟨q, 0, none⟩), .int .i64 a, .int .i64 o] w fun e w' => e = .returned (.int .i64 2) ∧ w' = w := by
  go_enter Tryz.func120, Tryz.ntmps120
  go_wp2
  all_goals (go_ret; exact ⟨rfl, rfl⟩)
set_option maxHeartbeats 1000000 in
theorem rGive_ok {w : World} {q go gt n : Nat} {op : Nat → Bool} {tk : Nat → Option Nat} (h : Rb w q go gt n op tk) (a o : Nat) (ho : o ≤ 6) (hao : a % 2 ^ o = 0) (han : a + 2 ^ o ≤ n) (ht : tk a = some o) :
    Calls Tryz.prog 120 #[.pointer (some ⟨q, 0, none⟩), .int .i64 a, .int .i64 o] w fun e w' => e = .returned (.int .i64 0) ∧ Rb w' q go gt n (opened op o (a / 2 ^ o)) (pt tk a none) ∧ Kp (fun k => k = go ∨ k = gt) (fun k => k = go ∨ k = gt) w w' := by
  have HSH : Hid (∀ S, 2 ^ o = S → mkp op a (a + S) true = opened op o (a / 2 ^ o)) := fun S e => by rw [← e]; exact mkp_opened op o a hao
  have hn := h.n4
  have hsh := shl_wrap o (by omega)
  have hpl := pow_le o (by omega)
  obtain ⟨S, hS⟩ : ∃ S, 2 ^ o = S := ⟨_, rfl⟩
  have HS : Hid (2 ^ o = S) := hS
  rw [hS] at hsh hpl han
  have han' : a < n := by omega
  have hanI : (a : Int) < (n : Int) := by omega
  have e1 := h.c1
  have e2 := h.tc a han'
  have e3 := h.tf a han'
  have hto : tn tk a = 1 + (o : Int) := by unfold tn; rw [ht]
  rw [hto] at e2
  have HR1 : Hid (Rb (w.setCell ⟨gt, a, none⟩ (.int .i64 0)) q go gt n op (pt tk a none)) := h.tk1 a han' none 0 (by simp [tn, pt])
  have ho1 : IntKind.i64.wrap (1 + (o : Int)) = 1 + (o : Int) := IntWalk.i64_in _ (by omega)
  have hwr : IntKind.i64.wrap ((a : Int) + (S : Int)) = (a : Int) + (S : Int) := IntWalk.i64_in _ (by omega)
  clear h hao hS hto ht
  go_enter Tryz.func120, Tryz.ntmps120
  go_wp2
  go_loopw [7] (fun z wq => ∃ m : Nat, a ≤ m ∧ m ≤ a + S ∧ z = .int .i64 m ∧ Rb wq q go gt n (mkp op a m true) (pt tk a none) ∧ (w.setCell ⟨gt, a, none⟩ (.int .i64 0)).grownBy wq (some go)) (fun z _ => (a + S) - (iv z).toNat)
  case atStart =>
    refine ⟨a, Nat.le_refl _, by omega, rfl, HR1.out.congr (fun i hi => ?_) (fun _ _ => rfl), World.grownBy.refl _ _⟩
    unfold mkp
    rw [if_neg (by omega)]
  case round =>
    obtain ⟨m, q1, q2, rfl, hR, hW⟩ := hrel
    have HRR : Hid (Rb wr q go gt n (mkp op a m true) (pt tk a none)) := hR
    have HW : Hid ((w.setCell ⟨gt, a, none⟩ (.int .i64 0)).grownBy wr (some go)) := hW
    have d0 := hR.c0
    by_cases hm : m < a + S
    · have hmn : m < n := by omega
      have hmnI : (m : Int) < (n : Int) := by omega
      have hmI : (m : Int) < (a : Int) + (S : Int) := by omega
      have d2 := hR.oc m hmn
      have d3 := hR.of m hmn
      clear hR hW e1 e2 e3
      go_wp2
      exact ⟨⟨m + 1, by omega, by omega, by go_num, HRR.out.mk1 q1 hmn, HW.out.trans (grown_setCell' _ _ _ _)⟩, by simp [iv]; omega⟩
    · have hmI : (a : Int) + (S : Int) ≤ (m : Int) := by omega
      have HF : Hid (Rb wr q go gt n (opened op o (a / 2 ^ o)) (pt tk a none) ∧ Kp (fun k => k = go ∨ k = gt) (fun k => k = go ∨ k = gt) w wr) := by
        obtain rfl : m = a + S := by omega
        have hz := HRR.out
        rw [HSH.out S HS.out] at hz
        refine ⟨hz, ?_⟩
        have k1 : Kp (fun k => k = go ∨ k = gt) (fun k => k = go ∨ k = gt) w (w.setCell ⟨gt, a, none⟩ (.int .i64 0)) := Kp.of_grown (grown_setCell' _ _ _ _) (fun c e => by cases e; exact Or.inr rfl) (fun _ z => Or.inl z)
        have k2 : Kp (fun k => k = go ∨ k = gt) (fun k => k = go ∨ k = gt) (w.setCell ⟨gt, a, none⟩ (.int .i64 0)) wr := Kp.of_grown HW.out (fun c e => by cases e; exact Or.inl rfl) (fun _ z => Or.inl z)
        exact k1.trans k2
      clear hR hW e1 e2 e3 HRR HW
      go_wp2
      go_ret
      exact ⟨rfl, HF.out⟩
theorem cnt_le (op : Nat → Bool) : ∀ n, cnt op n ≤ n
  | 0 => Nat.le_refl _
  | n + 1 => by
    have := cnt_le op n
    simp only [cnt]
    split <;> omega
set_option maxHeartbeats 1000000 in
theorem rFree_any {w : World} {q go gt n : Nat} {op : Nat → Bool} {tk : Nat → Option Nat} (h : Rb w q go gt n op tk) : Calls Tryz.prog 76 #[.pointer (some ⟨q, 0, none⟩)] w fun e w' => e = .returned (.int .i64 (cnt op n : Nat)) ∧ w' = w := by
  have HR : Hid (Rb w q go gt n op tk) := h
  have d0 := h.c0
  have hn := h.n4
  clear h
  go_enter Tryz.func76, Tryz.ntmps76
  go_wp2
  go_loopw [3, 4] (fun y z wr => ∃ m : Nat, m ≤ n ∧ y = .int .i64 (cnt op m : Nat) ∧ z = .int .i64 m ∧ wr = w) (fun _ z _ => n - (iv z).toNat)
  case atStart => exact ⟨0, by omega, rfl, rfl, rfl⟩
  case round =>
    obtain ⟨m, hm, rfl, rfl, hw⟩ := hrel
    obtain rfl := hw
    have hcl := cnt_le op m
    by_cases hlt : m < n
    · have d1 := HR.out.oc m hlt
      have hltI : (m : Int) < (n : Int) := by omega
      have HCN : Hid (cnt op (m + 1) = cnt op m + if op m then 1 else 0) := rfl
      cases hop : op m with
      | true =>
        rw [hop] at d1 HCN
        have HCN1 : Hid (cnt op (m + 1) = cnt op m + 1) := HCN.out
        clear hop HCN
        generalize cnt op m = c at *
        go_wp2
        exact ⟨⟨m + 1, by omega, by rw [HCN1.out]; go_num, by go_num, by simp⟩, by simp [iv]; omega⟩
      | false =>
        rw [hop] at d1 HCN
        have HCN1 : Hid (cnt op (m + 1) = cnt op m) := HCN.out
        clear hop HCN
        generalize cnt op m = c at *
        go_wp2
        exact ⟨⟨m + 1, by omega, by rw [HCN1.out], by go_num, by simp⟩, by simp [iv]; omega⟩
    · obtain rfl : m = n := by omega
      go_wp2
      go_ret
      exact ⟨rfl, rfl⟩
end Go.Proofs.YtdempgjhjcjklaaGreat.B
