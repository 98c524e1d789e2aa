/- Layer 18, plain mathematics: words whose set bits are the free slots; the lowest set bit of a word; how many bits a word has set, as math/bits reckons it; no condition but those named. -/
import Derived.Test.YtncelpphbhcogaaDoorSb
import Derived.Lib.TrailingZeros
namespace Go.Proofs.YtncelpphbhcogaaDoor.Z
open Go
set_option linter.unusedVariables false

/-- What is free. -/
def fl (T : List Bool) : List Bool := T.map (fun b => !b)
theorem fl_len (T : List Bool) : (fl T).length = T.length := List.length_map _
theorem fl_get (T : List Bool) (k : Nat) : (fl T)[k]? = (T[k]?).map (fun b => !b) := List.getElem?_map ..
theorem fl_set (T : List Bool) (k : Nat) (b : Bool) : (fl T).set k (!b) = fl (T.set k b) := by
  unfold fl
  rw [List.map_set]
theorem fl_c (T : List Bool) : cT (fl T) + cT T = T.length := by
  induction T with
  | nil => rfl
  | cons x T ih =>
    unfold cT fl at *
    cases x <;> simp_all <;> omega
/-- Words whose set bits are the free slots. -/
def Wd (W : List Nat) (T : List Bool) : Prop := Bw false W (fl T)
theorem Wd.at' {W : List Nat} {T : List Bool} (h : Wd W T) {k : Nat} (hk : k < T.length) : T[k]? = some (!(W.getD (k / 64) 0).testBit (k % 64)) := by
  have := Bw.at' h (k := k) (by rw [fl_len]; exact hk)
  rw [fl_get, List.getElem?_eq_getElem hk] at this
  rw [List.getElem?_eq_getElem hk]
  simp only [Option.map_some, Option.some.injEq] at this ⊢
  rw [← this, Bool.not_not]
theorem Wd.word {W : List Nat} {T : List Bool} (h : Wd W T) {k : Nat} (hk : k < T.length) : k / 64 < W.length := Bw.word h (by rw [fl_len]; exact hk)
theorem Wd.in' {W : List Nat} {T : List Bool} (h : Wd W T) {k : Nat} (hk : k / 64 < W.length) (hb : (W.getD (k / 64) 0).testBit (k % 64) = true) : k < T.length := by
  rw [h.bit k (by omega)] at hb
  by_cases q : k < T.length
  · exact q
  · rw [getD_hi (by rw [fl_len]; omega)] at hb
    cases hb
theorem Wd.lt {W : List Nat} {T : List Bool} (h : Wd W T) {j : Nat} : W.getD j 0 < 2 ^ 64 := by
  by_cases q : j < W.length
  · rw [getD_lt q]; exact Bw.lt h j q
  · rw [List.getD_eq_getElem?_getD, List.getElem?_eq_none (by omega)]
    exact Nat.two_pow_pos 64
theorem Wd.none_ {W : List Nat} {T : List Bool} (h : Wd W T) (g : ∀ j, j < W.length → W.getD j 0 = 0) : Full T := fun k hk => by
  rw [h.at' hk, g _ (h.word hk), Nat.zero_testBit]
  rfl
theorem Wd.first {W : List Nat} {T : List Bool} (h : Wd W T) {j c : Nat} (hj : j < W.length) (g : ∀ i, i < j → W.getD i 0 = 0) (hc : c < 64) (hb : (W.getD j 0).testBit c = true) (hlo : ∀ i, i < c → (W.getD j 0).testBit i = false) : Fr T (j * 64 + c) := by
  have e1 : (j * 64 + c) / 64 = j := by omega
  have e2 : (j * 64 + c) % 64 = c := by omega
  have hk : j * 64 + c < T.length := h.in' (by rw [e1]; exact hj) (by rw [e1, e2]; exact hb)
  refine ⟨by rw [h.at' hk, e1, e2, hb]; rfl, fun k hkk => ?_⟩
  rw [h.at' (by omega)]
  by_cases q : k / 64 < j
  · rw [g _ q, Nat.zero_testBit]; rfl
  · have : k / 64 = j := by omega
    rw [this, hlo _ (by omega)]; rfl
/-- One slot turned: taken (its bit cleared), given back (its bit set). -/
theorem Wd.turn {W : List Nat} {T : List Bool} (h : Wd W T) {k : Nat} (hk : k < T.length) {w' : Nat} {b : Bool} (hw : w' < 2 ^ 64)
    (hb : ∀ j, j < 64 → w'.testBit j = if j = k % 64 then !b else (W.getD (k / 64) 0).testBit j) : Wd (W.set (k / 64) w') (T.set k b) := by
  unfold Wd
  rw [← fl_set]
  exact Bw.turn h (by rw [fl_len]; exact hk) hw hb
theorem Wd.give {W : List Nat} {T : List Bool} (h : Wd W T) {k : Nat} (hk : k < T.length) : Wd (W.set (k / 64) (W.getD (k / 64) 0 ||| 2 ^ (k % 64))) (T.set k false) :=
  h.turn hk (or_lt h.lt (Nat.mod_lt _ (by omega))) (fun j hj => or_bit _ _ j)
theorem Wd.take {W : List Nat} {T : List Bool} (h : Wd W T) {k : Nat} (hk : k < T.length) : Wd (W.set (k / 64) (W.getD (k / 64) 0 &&& (2 ^ 64 - 1 - 2 ^ (k % 64)))) (T.set k true) :=
  h.turn hk (Nat.lt_of_le_of_lt Nat.and_le_left h.lt) (fun j hj => and_not_bit (compl_bit (Nat.mod_lt _ (by omega))) hj)
theorem Wd.free {W : List Nat} {T : List Bool} (h : Wd W T) : ((W.map pc).sum : Int) = T.length - cT T := by
  rw [← Bw.total h]
  have := fl_c T
  omega
theorem getD_bz {T : List Bool} {k : Nat} (h : k < T.length) : T[k]? = some (T.getD k false) := getD_some h
theorem Wd.bit' {W : List Nat} {T : List Bool} (h : Wd W T) {k : Nat} (hk : k < T.length) : (W.getD (k / 64) 0).testBit (k % 64) = !(T.getD k false) := by
  have e := h.at' hk
  rw [getD_bz hk] at e
  rw [Option.some.inj e, Bool.not_not]
/-- New words: bit after bit set. -/
def upW (n m j : Nat) : List Bool := List.replicate (min j n) false ++ List.replicate (n - j) true
theorem wd_all (n m : Nat) (h : n ≤ 64 * m) : Wd (List.replicate m 0) (List.replicate n true) := by
  have := bw_new n m h
  unfold Wd fl nw at *
  rwa [List.map_replicate]
theorem cl_set (n k : Nat) (h : k < n) : (List.replicate k false ++ List.replicate (n - k) true).set k false = List.replicate (k + 1) false ++ List.replicate (n - (k + 1)) true := by
  rw [List.set_append_right _ _ (by simp), List.length_replicate, Nat.sub_self, show n - k = n - (k + 1) + 1 by omega, List.replicate_succ, List.set_cons_zero, List.replicate_succ', List.append_assoc]
  rfl
/-- The lowest set bit. -/
theorem ctz_bits {x : Nat} (h0 : x ≠ 0) (h : x < 2 ^ 64) : Lib.ctz 64 x < 64 ∧ x.testBit (Lib.ctz 64 x) = true ∧ ∀ i, i < Lib.ctz 64 x → x.testBit i = false := by
  obtain ⟨m, hm, hk⟩ := Lib.ctzFrom_spec 64 x (by omega) h
  have e : Lib.ctz 64 x = Lib.ctzFrom 64 x := by simp [Lib.ctz, h0]
  rw [e]
  generalize Lib.ctzFrom 64 x = k at *
  subst hm
  refine ⟨hk, ?_, fun i hi => ?_⟩
  · rw [Nat.mul_comm, Nat.testBit_mul_two_pow]
    simp [Nat.testBit_zero]
  · rw [Nat.mul_comm, Nat.testBit_mul_two_pow]
    simp
    omega
/-- Eight bytes as a number. -/
def ex : List Nat → Nat
  | [] => 0
  | a :: l => a + 256 * ex l
theorem and_split (u v : Nat) : u &&& v = (u % 256 &&& v % 256) + 256 * (u / 256 &&& v / 256) := by
  have h1 : (u &&& v) % 2 ^ 8 = (u % 2 ^ 8) &&& (v % 2 ^ 8) := Nat.and_mod_two_pow
  have h2 : (u &&& v) / 2 ^ 8 = (u / 2 ^ 8) &&& (v / 2 ^ 8) := Nat.and_div_two_pow
  have e : (2 : Nat) ^ 8 = 256 := rfl
  rw [e] at h1 h2
  rw [← h1, ← h2]
  omega
theorem ex_map (l : List Nat) (f : Nat → Nat) (a : Nat) : ex ((a :: l).map f) = f a + 256 * ex (l.map f) := rfl
def c1 (a : Nat) : Nat := (a / 2 &&& 85) + (a &&& 85)
def c2 (a : Nat) : Nat := (a / 4 &&& 51) + (a &&& 51)
def c3 (a : Nat) : Nat := (a + a / 16) % 16
theorem tab1 : ∀ a, a < 256 → ∀ e, e < 2 → (a / 2 + 128 * e) &&& 85 = a / 2 &&& 85 := by decide +kernel
theorem tab2 : ∀ a, a < 256 → ∀ e, e < 4 → (a / 4 + 64 * e) &&& 51 = a / 4 &&& 51 := by decide +kernel
theorem tab3 : ∀ a, a < 256 → a &&& 15 = a % 16 := by decide +kernel
theorem tabs : ∀ a, a < 256 → c1 a < 256 ∧ c2 (c1 a) ≤ 68 ∧ c2 (c1 a) % 16 ≤ 4 ∧ c3 (c2 (c1 a)) ≤ 8 ∧ c3 (c2 (c1 a)) = cnt (fun j => a.testBit j) 0 8 := by decide +kernel
theorem st1 : ∀ l : List Nat, (∀ a ∈ l, a < 256) → (ex l / 2 &&& ex (l.map fun _ => 85)) + (ex l &&& ex (l.map fun _ => 85)) = ex (l.map c1)
  | [], _ => rfl
  | a :: l, h => by
    have ih := st1 l (fun x hx => h x (List.mem_cons_of_mem _ hx))
    have ha := h a (List.mem_cons_self)
    rw [ex_map, ex_map, and_split (ex (a :: l) / 2), and_split (ex (a :: l))]
    have hc : c1 a = (a / 2 &&& 85) + (a &&& 85) := rfl
    rw [hc, ← tab1 a ha (ex l % 2) (by omega)]
    have e1 : ex (a :: l) / 2 % 256 = a / 2 + 128 * (ex l % 2) := by show (a + 256 * ex l) / 2 % 256 = _; omega
    have e2 : ex (a :: l) / 2 / 256 = ex l / 2 := by show (a + 256 * ex l) / 2 / 256 = _; omega
    have e3 : ex (a :: l) % 256 = a := by show (a + 256 * ex l) % 256 = _; omega
    have e4 : ex (a :: l) / 256 = ex l := by show (a + 256 * ex l) / 256 = _; omega
    have e5 : (85 + 256 * ex (l.map fun _ => 85)) % 256 = 85 := by omega
    have e6 : (85 + 256 * ex (l.map fun _ => 85)) / 256 = ex (l.map fun _ => 85) := by omega
    rw [e1, e2, e3, e4, e5, e6]
    omega
theorem st2 : ∀ l : List Nat, (∀ a ∈ l, a < 256) → (ex l / 4 &&& ex (l.map fun _ => 51)) + (ex l &&& ex (l.map fun _ => 51)) = ex (l.map c2)
  | [], _ => rfl
  | a :: l, h => by
    have ih := st2 l (fun x hx => h x (List.mem_cons_of_mem _ hx))
    have ha := h a (List.mem_cons_self)
    rw [ex_map, ex_map, and_split (ex (a :: l) / 4), and_split (ex (a :: l))]
    have hc : c2 a = (a / 4 &&& 51) + (a &&& 51) := rfl
    rw [hc, ← tab2 a ha (ex l % 4) (by omega)]
    have e1 : ex (a :: l) / 4 % 256 = a / 4 + 64 * (ex l % 4) := by show (a + 256 * ex l) / 4 % 256 = _; omega
    have e2 : ex (a :: l) / 4 / 256 = ex l / 4 := by show (a + 256 * ex l) / 4 / 256 = _; omega
    have e3 : ex (a :: l) % 256 = a := by show (a + 256 * ex l) % 256 = _; omega
    have e4 : ex (a :: l) / 256 = ex l := by show (a + 256 * ex l) / 256 = _; omega
    have e5 : (51 + 256 * ex (l.map fun _ => 51)) % 256 = 51 := by omega
    have e6 : (51 + 256 * ex (l.map fun _ => 51)) / 256 = ex (l.map fun _ => 51) := by omega
    rw [e1, e2, e3, e4, e5, e6]
    omega
theorem st3 : ∀ l : List Nat, (∀ a ∈ l, a ≤ 68 ∧ a % 16 ≤ 4) → (ex l / 16 + ex l) &&& ex (l.map fun _ => 15) = ex (l.map c3)
  | [], _ => rfl
  | a :: l, h => by
    have ih := st3 l (fun x hx => h x (List.mem_cons_of_mem _ hx))
    have ha := h a (List.mem_cons_self)
    have hE : ex l % 16 ≤ 4 := by
      cases l with
      | nil => show 0 % 16 ≤ 4; omega
      | cons b l =>
        have := (h b (by simp)).2
        show (b + 256 * ex l) % 16 ≤ 4
        omega
    rw [ex_map, ex_map, and_split (ex (a :: l) / 16 + ex (a :: l))]
    have e1 : (ex (a :: l) / 16 + ex (a :: l)) % 256 = a + a / 16 + 16 * (ex l % 16) := by show ((a + 256 * ex l) / 16 + (a + 256 * ex l)) % 256 = _; omega
    have e2 : (ex (a :: l) / 16 + ex (a :: l)) / 256 = ex l / 16 + ex l := by show ((a + 256 * ex l) / 16 + (a + 256 * ex l)) / 256 = _; omega
    have e5 : (15 + 256 * ex (l.map fun _ => 15)) % 256 = 15 := by omega
    have e6 : (15 + 256 * ex (l.map fun _ => 15)) / 256 = ex (l.map fun _ => 15) := by omega
    rw [e1, e2, e5, e6, ih, tab3 _ (by omega)]
    unfold c3
    omega
theorem pc_ex : ∀ l : List Nat, (∀ a ∈ l, a < 256) → cnt (fun j => (ex l).testBit j) 0 (8 * l.length) = (l.map fun a => cnt (fun j => a.testBit j) 0 8).sum
  | [], _ => rfl
  | a :: l, h => by
    have ih := pc_ex l (fun x hx => h x (List.mem_cons_of_mem _ hx))
    have ha := h a (List.mem_cons_self)
    have hb : ∀ j, (ex (a :: l)).testBit j = if j < 8 then a.testBit j else (ex l).testBit (j - 8) := fun j => by
      have := Nat.testBit_two_pow_mul_add (ex l) (b := a) (i := 8) ha j
      rw [← this]
      show (a + 256 * ex l).testBit j = _
      rw [Nat.add_comm]
    rw [List.length_cons, show 8 * (l.length + 1) = 8 + 8 * l.length by omega, cnt_add, List.map_cons, List.sum_cons, ← ih]
    congr 1
    · exact cnt_congr (fun i hi => by rw [hb, if_pos (by omega)])
    · exact cnt_congr (fun i hi => by rw [hb, if_neg (by omega)]; congr 1; omega)
/-- A word's bytes. -/
def by8 (x : Nat) : List Nat := [x % 256, x / 256 % 256, x / 65536 % 256, x / 16777216 % 256, x / 4294967296 % 256, x / 1099511627776 % 256, x / 281474976710656 % 256, x / 72057594037927936 % 256]
theorem by8_lt (x : Nat) : ∀ a ∈ by8 x, a < 256 := fun a h => by
  simp only [by8, List.mem_cons, List.mem_nil_iff, or_false] at h
  omega
theorem by8_ex {x : Nat} (h : x < 18446744073709551616) : ex (by8 x) = x := by
  simp only [by8, ex]
  omega
/-- How many bits are set, by sums of ever greater pieces. -/
theorem swar {x : Nat} (h : x < 18446744073709551616) : ∃ p0 p1 p2 p3 p4 p5 p6 p7 x1 x2 x3 : Nat, (x / 2 &&& 6148914691236517205) + (x &&& 6148914691236517205) = x1 ∧ x1 < 18446744073709551616 ∧ (x1 / 4 &&& 3689348814741910323) + (x1 &&& 3689348814741910323) = x2 ∧ x2 ≤ 4919131752989213764 ∧ (x2 / 16 + x2) &&& 1085102592571150095 = x3 ∧
    x3 = ex [p0, p1, p2, p3, p4, p5, p6, p7] ∧ (p0 ≤ 8 ∧ p1 ≤ 8 ∧ p2 ≤ 8 ∧ p3 ≤ 8 ∧ p4 ≤ 8 ∧ p5 ≤ 8 ∧ p6 ≤ 8 ∧ p7 ≤ 8) ∧ p0 + p1 + p2 + p3 + p4 + p5 + p6 + p7 = pc x := by
  have hl := by8_lt x
  have h1 := st1 (by8 x) hl
  have h2 := st2 ((by8 x).map c1) (fun a ha => by obtain ⟨b, hb, rfl⟩ := List.mem_map.1 ha; exact (tabs b (hl b hb)).1)
  have h3 := st3 (((by8 x).map c1).map c2) (fun a ha => by
    obtain ⟨b, hb, rfl⟩ := List.mem_map.1 ha
    obtain ⟨d, hd, rfl⟩ := List.mem_map.1 hb
    exact ⟨(tabs d (hl d hd)).2.1, (tabs d (hl d hd)).2.2.1⟩)
  rw [show (((by8 x).map c1).map c2).map (fun _ => 15) = (by8 x).map (fun _ => 15) by simp only [List.map_map]; rfl] at h3
  rw [show ((by8 x).map c1).map (fun _ => 51) = (by8 x).map (fun _ => 51) by simp only [List.map_map]; rfl] at h2
  rw [show ex ((by8 x).map fun _ => 15) = 1085102592571150095 by simp [by8, ex]] at h3
  rw [show ex ((by8 x).map fun _ => 51) = 3689348814741910323 by simp [by8, ex]] at h2
  rw [show ex ((by8 x).map fun _ => 85) = 6148914691236517205 by simp [by8, ex]] at h1
  rw [List.map_map, List.map_map] at h3
  rw [List.map_map] at h2
  have hp := pc_ex (by8 x) hl
  rw [by8_ex h] at h1 hp
  have t0 := tabs _ (hl (x % 256) (by simp [by8]))
  have t1 := tabs _ (hl (x / 256 % 256) (by simp [by8]))
  have t2 := tabs _ (hl (x / 65536 % 256) (by simp [by8]))
  have t3 := tabs _ (hl (x / 16777216 % 256) (by simp [by8]))
  have t4 := tabs _ (hl (x / 4294967296 % 256) (by simp [by8]))
  have t5 := tabs _ (hl (x / 1099511627776 % 256) (by simp [by8]))
  have t6 := tabs _ (hl (x / 281474976710656 % 256) (by simp [by8]))
  have t7 := tabs _ (hl (x / 72057594037927936 % 256) (by simp [by8]))
  have e8 : pc x = cnt (fun j => x.testBit j) 0 64 := pc_cnt x 64
  have l8 : 8 * (by8 x).length = 64 := rfl
  rw [l8] at hp
  rw [e8, hp]
  clear hp e8 l8 hl
  refine ⟨c3 (c2 (c1 (x % 256))), c3 (c2 (c1 (x / 256 % 256))), c3 (c2 (c1 (x / 65536 % 256))), c3 (c2 (c1 (x / 16777216 % 256))), c3 (c2 (c1 (x / 4294967296 % 256))), c3 (c2 (c1 (x / 1099511627776 % 256))), c3 (c2 (c1 (x / 281474976710656 % 256))), c3 (c2 (c1 (x / 72057594037927936 % 256))), ex ((by8 x).map c1), ex ((by8 x).map (c2 ∘ c1)), ex ((by8 x).map (c3 ∘ c2 ∘ c1)), h1, ?_, h2, ?_, h3, by simp only [by8, List.map_cons, List.map_nil, Function.comp_apply], ⟨t0.2.2.2.1, t1.2.2.2.1, t2.2.2.2.1, t3.2.2.2.1, t4.2.2.2.1, t5.2.2.2.1, t6.2.2.2.1, t7.2.2.2.1⟩, ?_⟩
  · clear h1 h2 h3
    simp only [by8, List.map_cons, List.map_nil, ex]
    omega
  · clear h1 h2 h3
    simp only [by8, List.map_cons, List.map_nil, ex, Function.comp_apply]
    omega
  · clear h1 h2 h3
    simp only [by8, List.map_cons, List.map_nil, List.sum_cons, List.sum_nil] at *
    omega
theorem fold8 {x3 p0 p1 p2 p3 p4 p5 p6 p7 : Nat} (h : x3 = ex [p0, p1, p2, p3, p4, p5, p6, p7]) (hp : p0 ≤ 8 ∧ p1 ≤ 8 ∧ p2 ≤ 8 ∧ p3 ≤ 8 ∧ p4 ≤ 8 ∧ p5 ≤ 8 ∧ p6 ≤ 8 ∧ p7 ≤ 8) : ∃ x4 x5 x6 : Nat, x3 + x3 / 256 = x4 ∧ x4 < 18446744073709551616 ∧ x4 + x4 / 65536 = x5 ∧ x5 < 18446744073709551616 ∧ x5 + x5 / 4294967296 = x6 ∧ x6 < 18446744073709551616 ∧ x6 % 128 = p0 + p1 + p2 + p3 + p4 + p5 + p6 + p7 := by
  have e : x3 = p0 + 256 * p1 + 65536 * p2 + 16777216 * p3 + 4294967296 * p4 + 1099511627776 * p5 + 281474976710656 * p6 + 72057594037927936 * p7 := by
    rw [h]; simp only [ex]; omega
  clear h
  have d1 : x3 / 256 = p1 + 256 * p2 + 65536 * p3 + 16777216 * p4 + 4294967296 * p5 + 1099511627776 * p6 + 281474976710656 * p7 := by omega
  refine ⟨_, _, _, rfl, by omega, rfl, ?_, rfl, ?_, ?_⟩
  all_goals
    rw [d1, e]
    clear d1 e
    have d2 : (p0 + 256 * p1 + 65536 * p2 + 16777216 * p3 + 4294967296 * p4 + 1099511627776 * p5 + 281474976710656 * p6 + 72057594037927936 * p7 + (p1 + 256 * p2 + 65536 * p3 + 16777216 * p4 + 4294967296 * p5 + 1099511627776 * p6 + 281474976710656 * p7)) / 65536 = (p2 + p3) + 256 * (p3 + p4) + 65536 * (p4 + p5) + 16777216 * (p5 + p6) + 4294967296 * (p6 + p7) + 1099511627776 * p7 := by omega
    rw [d2]
    clear d2
    first
    | omega
    | (have d3 : (p0 + 256 * p1 + 65536 * p2 + 16777216 * p3 + 4294967296 * p4 + 1099511627776 * p5 + 281474976710656 * p6 + 72057594037927936 * p7 + (p1 + 256 * p2 + 65536 * p3 + 16777216 * p4 + 4294967296 * p5 + 1099511627776 * p6 + 281474976710656 * p7) + ((p2 + p3) + 256 * (p3 + p4) + 65536 * (p4 + p5) + 16777216 * (p5 + p6) + 4294967296 * (p6 + p7) + 1099511627776 * p7)) / 4294967296 = (p4 + p5 + p6 + p7) + 256 * (p5 + p6 + p7) + 65536 * (p6 + p7) + 16777216 * p7 := by omega
       rw [d3]
       clear d3
       omega)
end Go.Proofs.YtncelpphbhcogaaDoor.Z
