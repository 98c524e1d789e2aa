/- Of a configuration that may be: each colour's owner, the colours of all partitions are together at most the colours, slots and totals fit; a row of counters beside a configuration's box and a partition's; make of such a row; no condition but that the configuration may be. -/
import Derived.Test.YtifchflbhdnfaaaVQb
namespace Go.Proofs.Ytifchflbhdnfaaa
open Go.ChangeShapes Go.WideShapes Go.ChangeAt Go.RowKit
set_option linter.unusedVariables false

theorem ow_none {c : Cf} {x : Int} {k : Nat} (h : ∀ q, q < k → has (c.pf q).n (c.pf q).f x = false) : ow c x k = none := by
  induction k with
  | zero => rfl
  | succ k ih =>
    rw [ow_succ_none (ih fun q hq => h q (by omega)), h k (by omega)]
    rfl
theorem ow_own {c : Cf} (h : c.Ok) {p i : Nat} (hp : p < c.pn) (hi : i < (c.pf p).n) : ow c ((c.pf p).f i) p = none ∧ ow c ((c.pf p).f i) c.pn = some p := by
  have k := h.part hp
  have h0 : ow c ((c.pf p).f i) p = none := ow_none fun q hq => by
    cases e : has (c.pf q).n (c.pf q).f ((c.pf p).f i)
    · rfl
    · obtain ⟨j, hj, ej⟩ := has_iff.1 e
      have := sh_iff.2 ⟨q, hq, j, hj, has_iff.2 ⟨i, hi, ej.symm⟩⟩
      rw [k.sh] at this
      cases this
  have h1 : ow c ((c.pf p).f i) (p + 1) = some p := by
    rw [ow_succ_none h0, has_iff.2 ⟨i, hi, rfl⟩]
    rfl
  exact ⟨h0, ow_more h1 (by omega)⟩
/-- A colour was met: in the first p partitions, or among the first i colours of partition p. -/
def met (c : Cf) (p i : Nat) (x : Int) : Bool := (ow c x p).isSome || has i (c.pf p).f x
/-- As a number. -/
def mv (c : Cf) (p i : Nat) (x : Int) : Int := bif met c p i x then 1 else 0
theorem met_next (c : Cf) (p : Nat) (x : Int) : met c (p + 1) 0 x = met c p (c.pf p).n x := by
  unfold met
  rw [has_zero, Bool.or_false]
  cases e : ow c x p
  · rw [ow_succ_none e]
    cases has (c.pf p).n (c.pf p).f x <;> rfl
  · rw [ow_more e (show p ≤ p + 1 by omega)]
    rfl
theorem met_start (c : Cf) (x : Int) : met c 0 0 x = false := by simp [met, ow, has_zero]
theorem met_all (c : Cf) (x : Int) (p : Nat) : met c p 0 x = (ow c x p).isSome := by simp [met, has_zero]
theorem met_succ (c : Cf) (p i : Nat) (x : Int) : met c p (i + 1) x = (met c p i x || (c.pf p).f i == x) := by simp [met, has_succ, Bool.or_assoc]
theorem met_new {c : Cf} (h : c.Ok) {p i : Nat} (hp : p < c.pn) (hi : i < (c.pf p).n) : met c p i ((c.pf p).f i) = false := by
  unfold met
  rw [(ow_own h hp hi).1]
  cases e : has i (c.pf p).f ((c.pf p).f i)
  · rfl
  · obtain ⟨j, hj, ej⟩ := has_iff.1 e
    have := rise_mono (h.part hp).ri hj hi
    omega
theorem mv_next (c : Cf) (p : Nat) (x : Int) : mv c (p + 1) 0 x = mv c p (c.pf p).n x := by unfold mv; rw [met_next]
theorem mv_start (c : Cf) (x : Int) : mv c 0 0 x = 0 := by unfold mv; rw [met_start]; rfl
theorem mv_new {c : Cf} (h : c.Ok) {p i : Nat} (hp : p < c.pn) (hi : i < (c.pf p).n) : mv c p i ((c.pf p).f i) = 0 ∧ mv c p (i + 1) ((c.pf p).f i) = 1 := by
  unfold mv
  rw [met_succ, met_new h hp hi]
  exact ⟨rfl, by rw [beq_self_eq_true]; rfl⟩
theorem mv_other (c : Cf) (p i : Nat) {x : Int} (hx : ¬ (c.pf p).f i = x) : mv c p (i + 1) x = mv c p i x := by
  unfold mv
  rw [met_succ, show ((c.pf p).f i == x) = false from beq_eq_false_iff_ne.2 hx, Bool.or_false]
theorem mv_ways (c : Cf) (p i : Nat) (x : Int) : mv c p i x = 0 ∨ mv c p i x = 1 := by unfold mv; cases met c p i x <;> simp
/-- The colours met, counted. -/
def su (c : Cf) (p i : Nat) : Nat → Int
  | 0 => 0
  | n + 1 => su c p i n + mv c p i n
theorem su_le (c : Cf) (p i n : Nat) : su c p i n ≤ n := by
  induction n with
  | zero => exact Int.le_refl _
  | succ n ih =>
    have := mv_ways c p i n
    simp only [su]
    omega
theorem su_same {c : Cf} {p i q j : Nat} (h : ∀ x, mv c p i x = mv c q j x) (n : Nat) : su c p i n = su c q j n := by
  induction n with
  | zero => rfl
  | succ n ih => simp only [su]; rw [ih, h]
theorem su_succ {c : Cf} (h : c.Ok) {p i : Nat} (hp : p < c.pn) (hi : i < (c.pf p).n) {k : Nat} (hk : (c.pf p).f i = k) (n : Nat) : su c p (i + 1) n = su c p i n + (if k < n then 1 else 0) := by
  have h1 := mv_new h hp hi
  rw [hk] at h1
  induction n with
  | zero => simp [su]
  | succ n ih =>
    simp only [su]
    rw [ih]
    by_cases e : k = n
    · subst e
      rw [h1.1, h1.2, if_neg (by omega), if_pos (by omega)]
    · rw [mv_other c p i (x := n) (by rw [hk]; omega)]
      by_cases e2 : k < n
      · rw [if_pos e2, if_pos (by omega)]; omega
      · rw [if_neg e2, if_neg (by omega)]; omega
theorem su_row {c : Cf} (h : c.Ok) {p : Nat} (hp : p < c.pn) (i : Nat) (hi : i ≤ (c.pf p).n) : su c p i c.C.toNat = su c p 0 c.C.toNat + i := by
  induction i with
  | zero => simp
  | succ i ih =>
    have hr := rise_at (h.part hp).ri (show i < (c.pf p).n by omega)
    rw [su_succ h hp (by omega) (k := ((c.pf p).f i).toNat) (by omega), if_pos (by omega), ih (by omega)]
    omega
/-- The colours of the first k partitions. -/
def ns (c : Cf) : Nat → Int
  | 0 => 0
  | k + 1 => ns c k + (c.pf k).n
theorem su_ns {c : Cf} (h : c.Ok) (p : Nat) (hp : p ≤ c.pn) : su c p 0 c.C.toNat = ns c p := by
  induction p with
  | zero =>
    have : ∀ n, su c 0 0 n = 0 := fun n => by
      induction n with
      | zero => rfl
      | succ n ih => simp only [su]; rw [ih, mv_start]; rfl
    rw [this]
    rfl
  | succ p ih =>
    rw [su_same (mv_next c p), su_row h (by omega) _ (Nat.le_refl _), ih (by omega)]
    rfl
theorem ns_nonneg (c : Cf) (p : Nat) : 0 ≤ ns c p := by
  induction p with
  | zero => exact Int.le_refl _
  | succ p ih => simp only [ns]; omega
theorem ns_le {c : Cf} (h : c.Ok) (p : Nat) (hp : p ≤ c.pn) : ns c p ≤ c.C := by
  have h1 := su_le c p 0 c.C.toNat
  have h2 := h.m.C
  rw [su_ns h p hp] at h1
  omega
theorem fr_nonneg {c : Cf} (h : c.Ok) : 0 ≤ c.F / c.C := Int.ediv_nonneg (by have := h.m.F1; omega) (by have := h.m.C; omega)
theorem fr_le {c : Cf} (h : c.Ok) (p : Nat) (hp : p ≤ c.pn) : 0 ≤ ns c p * (c.F / c.C) ∧ ns c p * (c.F / c.C) ≤ c.F := by
  have h1 := ns_le h p hp
  have h0 := fr_nonneg h
  refine ⟨Int.mul_nonneg (ns_nonneg c p) h0, ?_⟩
  have h2 : ns c p * (c.F / c.C) ≤ c.C * (c.F / c.C) := Int.mul_le_mul_of_nonneg_right h1 h0
  have h3 : c.C * (c.F / c.C) ≤ c.F := Int.mul_ediv_self_le (by have := h.m.C; omega)
  omega
theorem fr_succ (c : Cf) (p : Nat) : ns c p * (c.F / c.C) + (c.pf p).n * (c.F / c.C) = ns c (p + 1) * (c.F / c.C) := by
  simp only [ns]
  rw [Int.add_mul]
theorem zs_sm {c : Cf} (h : c.Ok) (p : Nat) (hp : p ≤ c.pn) : zs c p = sm c p := by
  induction p with
  | zero => rfl
  | succ p ih =>
    have k := h.part (show p < c.pn by omega)
    have hz : zOk (c.pf p) = true := by simp only [zOk, inB_iff]; exact ⟨k.z0, k.z1⟩
    simp only [zs, sm]
    rw [ih (by omega), hz]
    rfl
theorem zs_le {c : Cf} (h : c.Ok) (p : Nat) (hp : p ≤ c.pn) : 0 ≤ zs c p ∧ zs c p ≤ 1024 := by
  refine ⟨by rw [zs_sm h p hp]; exact sm_nonneg c p, ?_⟩
  cases p with
  | zero => exact (by decide : (0 : Int) ≤ 1024)
  | succ p =>
    have k := (h.part (show p < c.pn by omega)).sm
    simp only [zs]
    rw [zs_sm h p (by omega)]
    exact k
/-- What a partition that may be has at most. -/
theorem part_fit {c : Cf} (h : c.Ok) {p : Nat} (hp : p < c.pn) : im (c.pf p) + (c.pf p).u + (c.pf p).t + (c.pf p).s + (c.pf p).r + (c.pf p).d ≤ (c.pf p).n * (c.F / c.C) := by
  have k := (h.part hp).fit (mOk_iff.2 h.m)
  unfold fit at k
  simp only [Bool.and_eq_true, decide_eq_true_eq] at k
  exact k.2
theorem owP_ok {c : Cf} (hm : may c = true) {x : Int} (h0 : 0 ≤ x) (h1 : x < c.C) : owE c x = 0 ∧ owP c x = ow c x c.pn := by
  have he : owE c x = 0 := by
    unfold owE
    rw [hm]
    simp [h0, h1]
  exact ⟨he, by unfold owP; rw [if_pos he]⟩
/-- A row of n counters. -/
def Cnt (w : World) (g n : Nat) (f : Nat → Int) : Prop := Blk w g 3 ((List.range n).map fun x => .int .i64 (f x))
theorem Cnt.cell {w : World} {g n : Nat} {f : Nat → Int} (h : Cnt w g n f) {k : Nat} (hk : k < n) : w.cell? ⟨g, k, none⟩ = some (.int .i64 (f k)) := by
  rw [Blk.cell h k]
  simp [hk]
theorem Cnt.frozen {w : World} {g n : Nat} {f : Nat → Int} (h : Cnt w g n f) (k : Nat) : w.frozen? ⟨g, k, none⟩ = false := Blk.frozen h k
theorem Cnt.below {w w' : World} {g n : Nat} {f : Nat → Int} (h : Cnt w g n f) (k : Below w.heap.size w w') : Cnt w' g n f := Blk.below h k
theorem Cnt.congr {w : World} {g n : Nat} {f f' : Nat → Int} (h : Cnt w g n f) (e : ∀ x, x < n → f' x = f x) : Cnt w g n f' := by
  have : ((List.range n).map fun x => Value.int .i64 (f' x)) = (List.range n).map fun x => Value.int .i64 (f x) := List.map_congr_left fun x hx => by rw [e x (List.mem_range.1 hx)]
  unfold Cnt
  rw [this]
  exact h
theorem Cnt.set {w : World} {g n : Nat} {f f' : Nat → Int} (h : Cnt w g n f) (k : Nat) (v : Int) (e : ∀ x, x < n → f' x = if x = k then v else f x) : Cnt (w.setCell ⟨g, k, none⟩ (.int .i64 v)) g n f' := by
  have h1 := Blk.set h k (.int .i64 v)
  have : ((List.range n).map fun x => Value.int .i64 (f x)).set k (.int .i64 v) = (List.range n).map fun x => Value.int .i64 (f' x) := by
    apply List.ext_getElem?
    intro i
    rw [List.getElem?_set]
    by_cases hi : i < n
    · by_cases hk : k = i
      · subst hk
        simp [hi, e k hi]
      · rw [if_neg hk]
        simp [hi, e i hi, Ne.symm hk]
    · by_cases hk : k = i
      · subst hk
        simp [hi]
      · rw [if_neg hk]
        simp [hi]
  rw [this] at h1
  exact h1
theorem Try.infoInt : (Try.prog.info? 3).map (fun i => (i.zero, i.size, i.bytes)) = some (some (.int .i64 0), 1, 8) := by kernel_rfl
/-- What make([]int, n) gives. -/
theorem make_ints (n : Nat) (hn : n ≤ 4096) (w : World) : (Instr.makeSlice 25 (.int .i64 n) (.int .i64 n)).run Try.prog w = .ok (.slice (some ⟨w.heap.size, 0, none⟩) n n) (w.alloc (.cells (Array.replicate n (.int .i64 0)) 3)) := by
  rw [← List.toArray_replicate]
  obtain ⟨i0, hi, hz0, hz1, hz2⟩ := info_parts Try.infoInt
  have h := run_makeSlice (P := Try.prog) w 25 3 i0 (.int .i64 0) Try.underlying25 hi hz0 .i64 .i64 n n (by omega) (by omega) (by rw [hz1]; simp; omega) (by rw [hz2]; omega) (by omega)
  rw [h]
  have e : madeCells (Value.int .i64 0).cells ((n : Int).toNat * i0.size) = (List.replicate n (.int .i64 0)).toArray := by
    apply Array.toList_inj.1
    rw [hz1, Int.toNat_natCast]
    show (madeCells #[.int .i64 0] (n * 1)).toList = _
    rw [toList_madeCells_one, Nat.mul_one]
  rw [e, Int.toNat_natCast]
theorem cnt_new (w : World) (n : Nat) {f : Nat → Int} (e : ∀ x, f x = 0) : Cnt (w.alloc (.cells (Array.replicate n (.int .i64 0)) 3)) w.heap.size n f := by
  rw [← List.toArray_replicate]
  have : ((List.range n).map fun x => Value.int .i64 (f x)) = List.replicate n (.int .i64 0) := by
    apply List.ext_getElem?
    intro i
    by_cases hi : i < n <;> simp [hi, e]
  unfold Cnt
  rw [this]
  exact blk_new w _ _
/-- Where PlanParts stands: the configuration's box, the counters. -/
structure Sp (w0 w : World) (g1 g7 : Nat) (a : Ad) (c : Cf) (f : Nat → Int) : Prop where
  be : Below w0.heap.size w0 w
  l1 : w0.heap.size ≤ g1
  lo : g1 < g7
  bx : Sev w g1 a c
  ci0 : Cin w0 a c
  n : Cnt w g7 c.C.toNat f
theorem Sp.ci {w0 w : World} {g1 g7 : Nat} {a : Ad} {c : Cf} {f : Nat → Int} (h : Sp w0 w g1 g7 a c f) : Cin w a c := h.ci0.below h.be
theorem Sp.below {w0 w w' : World} {g1 g7 : Nat} {a : Ad} {c : Cf} {f : Nat → Int} (h : Sp w0 w g1 g7 a c f) (k : Below w.heap.size w w') : Sp w0 w' g1 g7 a c f := ⟨h.be.trans (k.mono h.be.size), h.l1, h.lo, h.bx.below k, h.ci0, h.n.below k⟩
theorem Sp.set {w0 w : World} {g1 g7 : Nat} {a : Ad} {c : Cf} {f f' : Nat → Int} (h : Sp w0 w g1 g7 a c f) (k : Nat) (v : Int) (e : ∀ x, x < c.C.toNat → f' x = if x = k then v else f x) : Sp w0 (w.setCell ⟨g7, k, none⟩ (.int .i64 v)) g1 g7 a c f' :=
  ⟨h.be.trans (below_setCell (by have := h.l1; have := h.lo; omega) h.be.size k _), h.l1, h.lo, h.bx.of_eq (heap_set_ne (by have := h.lo; omega) k _) (Nat.lt_of_lt_of_le h.bx.lt (grown_setCell' w _ k _).size), h.ci0, h.n.set k v e⟩
theorem Sp.congr {w0 w : World} {g1 g7 : Nat} {a : Ad} {c : Cf} {f f' : Nat → Int} (h : Sp w0 w g1 g7 a c f) (e : ∀ x, x < c.C.toNat → f' x = f x) : Sp w0 w g1 g7 a c f' := ⟨h.be, h.l1, h.lo, h.bx, h.ci0, h.n.congr e⟩
theorem Ebx.set {w : World} {b g : Nat} {q : Option Addr} {m : Nat} {x : Pa} (h : Ebx w b q m x) (hne : b ≠ g) (k : Nat) (v : Value) : Ebx (w.setCell ⟨g, k, none⟩ v) b q m x := by
  have e : ∀ j, (w.setCell ⟨g, k, none⟩ v).cell? ⟨b, j, none⟩ = w.cell? ⟨b, j, none⟩ := fun j => by
    simp only [World.cell?]
    rw [heap_set_ne hne k v]
  exact ⟨Nat.lt_of_lt_of_le h.lt (grown_setCell' w g k v).size, (e _).trans h.c0, (e _).trans h.c1, (e _).trans h.c2, (e _).trans h.c3, (e _).trans h.c4, (e _).trans h.c5, (e _).trans h.c6, (e _).trans h.c7⟩
/-- The same, and partition p in a box. -/
structure Sq (w0 w : World) (g1 g7 g9 : Nat) (a : Ad) (c : Cf) (f : Nat → Int) (p : Nat) : Prop where
  sp : Sp w0 w g1 g7 a c f
  eb : Ebx w g9 (a.ca p) (a.cc p) (c.pf p)
  ne : g7 < g9
theorem Sq.below {w0 w w' : World} {g1 g7 g9 : Nat} {a : Ad} {c : Cf} {f : Nat → Int} {p : Nat} (h : Sq w0 w g1 g7 g9 a c f p) (k : Below w.heap.size w w') : Sq w0 w' g1 g7 g9 a c f p := ⟨h.sp.below k, h.eb.below k, h.ne⟩
theorem Sq.set {w0 w : World} {g1 g7 g9 : Nat} {a : Ad} {c : Cf} {f f' : Nat → Int} {p : Nat} (h : Sq w0 w g1 g7 g9 a c f p) (k : Nat) (v : Int) (e : ∀ x, x < c.C.toNat → f' x = if x = k then v else f x) : Sq w0 (w.setCell ⟨g7, k, none⟩ (.int .i64 v)) g1 g7 g9 a c f' p :=
  ⟨h.sp.set k v e, h.eb.set (by have := h.ne; omega) k _, h.ne⟩
end Go.Proofs.Ytifchflbhdnfaaa
