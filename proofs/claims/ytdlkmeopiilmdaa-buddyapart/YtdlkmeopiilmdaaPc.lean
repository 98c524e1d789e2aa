/- The statement's own notes of places: fits, taken, back; no condition but the ranges that each theorem names. -/
import Derived.Test.YtdlkmeopiilmdaaOn
namespace Go.Proofs.Ytdlkmeopiilmdaa
open Go.ChangeShapes Go.WideShapes Go.ChangeAt Go.RowKit
set_option linter.unusedVariables false

/-- Truths in a block of their own: the i-th place is noted as taken just if it is not open. -/
structure Pls (w : World) (g n : Nat) (op : Nat → Bool) : Prop where
  lt : g < w.heap.size
  c : ∀ i, i < n → w.cell? ⟨g, i, none⟩ = some (.bool (!op i))
  f : ∀ i, i < n → w.frozen? ⟨g, i, none⟩ = false
theorem Pls.of_eq {w w' : World} {g n : Nat} {op : Nat → Bool} (h : Pls w g n op) (hs : w.heap.size ≤ w'.heap.size) (e : w'.heap[g]? = w.heap[g]?) : Pls w' g n op :=
  ⟨Nat.lt_of_lt_of_le h.lt hs, fun i hi => (World.cell?_of_block (w := w) (a := ⟨g, i, none⟩) e).trans (h.c i hi), fun i hi => (World.frozen?_of_block (w := w) (a := ⟨g, i, none⟩) e).trans (h.f i hi)⟩
theorem Pls.set {w : World} {g n : Nat} {op : Nat → Bool} (h : Pls w g n op) (m : Nat) (hm : m < n) (b : Bool) : Pls (w.setCell ⟨g, m, none⟩ (.bool b)) g n (fun i => if i = m then !b else op i) := by
  refine ⟨by simpa [World.setCell] using h.lt, fun i hi => ?_, fun i hi => by rw [World.frozen?_setCell]; exact h.f i hi⟩
  by_cases e : i = m
  · subst e
    rw [World.cell?_setCell_same _ _ _ (h.c i hi), if_pos rfl]
    simp
  · rw [World.cell?_setCell_other _ _ _ _ (by intro h; cases h; exact e rfl), if_neg e]
    exact h.c i hi
theorem Pls.congr {w : World} {g n : Nat} {op op' : Nat → Bool} (h : Pls w g n op) (e : ∀ i, i < n → op i = op' i) : Pls w g n op' := ⟨h.lt, fun i hi => by rw [← e i hi]; exact h.c i hi, h.f⟩
theorem Pls.step {w : World} {g n : Nat} {op : Nat → Bool} {a m : Nat} {b : Bool} (h : Pls w g n (mkp op a m b)) (h1 : a ≤ m) (hm : m < n) : Pls (w.setCell ⟨g, m, none⟩ (.bool (!b))) g n (mkp op a (m + 1) b) := by
  refine (h.set m hm (!b)).congr (fun i hi => ?_)
  unfold mkp
  by_cases e : i = m
  · rw [if_pos e, if_pos (by omega)]
    simp
  · rw [if_neg e]
    by_cases e2 : a ≤ i ∧ i < m
    · rw [if_pos e2, if_pos (by omega)]
    · rw [if_neg e2, if_neg (by omega)]
/-! ### taken -/
set_option maxHeartbeats 1000000 in
theorem taken_ok {w : World} {g n : Nat} {op : Nat → Bool} (h : Pls w g n op) (hn : n ≤ 4096) (a o : Nat) (ho : o ≤ 6) (hao : a % 2 ^ o = 0) (han : a + 2 ^ o ≤ n) (hw : ∀ i, a ≤ i → i < a + 2 ^ o → op i = true) :
    Calls Try.prog 22 #[.slice (some ⟨g, 0, none⟩) n n, .int .i64 a, .int .i64 o] w fun e w' => e = .returned (.bool true) ∧ Pls w' g n (shut op o (a / 2 ^ o)) ∧ w.grownBy w' (some g) := by
  have HSH : Hid (∀ S, 2 ^ o = S → mkp op a (a + S) false = shut op o (a / 2 ^ o)) := fun S e => by rw [← e]; exact mkp_shut op o a hao
  have HP : Hid (Pls w g n op) := h
  have hsh := shl_wrap o ho
  have hpl := pow_le o ho
  have htm := tmod_nat a (2 ^ o)
  rw [hao] at htm
  obtain ⟨S, hS⟩ : ∃ S, 2 ^ o = S := ⟨_, rfl⟩
  have HS : Hid (2 ^ o = S) := hS
  rw [hS] at hsh hpl han htm hw
  have HW : Hid (∀ i, a ≤ i → i < a + S → op i = true) := hw
  have hwr : IntKind.i64.wrap ((a : Int) + (S : Int)) = (a : Int) + (S : Int) := IntWalk.i64_in _ (by omega)
  have hanI : ¬ ((n : Int) < (a : Int) + (S : Int)) := by omega
  clear h hao hS hw
  go_enter Try.func22, Try.ntmps22
  go_wp2
  go_loopw [7] (fun z wr => ∃ m : Nat, a ≤ m ∧ m ≤ a + S ∧ z = .int .i64 m ∧ Pls wr g n (mkp op a m false) ∧ w.grownBy wr (some g)) (fun z _ => (a + S) - (iv z).toNat)
  case atStart =>
    refine ⟨a, Nat.le_refl _, by omega, rfl, HP.out.congr (fun i hi => ?_), World.grownBy.refl _ _⟩
    unfold mkp
    rw [if_neg (by omega)]
  case round =>
    obtain ⟨m, q1, q2, rfl, hR, hg⟩ := hrel
    have HR : Hid (Pls wr g n (mkp op a m false)) := hR
    have HG : Hid (w.grownBy wr (some g)) := hg
    by_cases hm : m < a + S
    · have hmn : m < n := by omega
      have hmnI : (m : Int) < (n : Int) := by omega
      have hmI : (m : Int) < (a : Int) + (S : Int) := by omega
      have d0 := hR.c m hmn
      have d1 := hR.f m hmn
      have e0 : mkp op a m false m = true := by unfold mkp; rw [if_neg (by omega)]; exact HW.out m q1 hm
      rw [e0] at d0
      simp only [Bool.not_true] at d0
      clear hR hg e0
      go_wp2
      exact ⟨⟨m + 1, by omega, by omega, by go_num, HR.out.step q1 hmn, HG.out.trans (grown_setCell' _ _ _ _)⟩, by simp [iv]; omega⟩
    · have hmI : (a : Int) + (S : Int) ≤ (m : Int) := by omega
      have HF : Hid (Pls wr g n (shut op o (a / 2 ^ o))) := by
        obtain rfl : m = a + S := by omega
        have := HR.out
        rwa [HSH.out S HS.out] at this
      clear hR hg
      go_wp2
      go_ret
      exact ⟨rfl, HF.out, HG.out⟩
/-! ### fits -/
/-- The answer is whether P. -/
def RB (P : Prop) (e : Ending) : Prop := ∃ r : Bool, e = .returned (.bool r) ∧ (r = true ↔ P)
set_option maxHeartbeats 1000000 in
theorem fits_ok {w : World} {g n : Nat} {op : Nat → Bool} (h : Pls w g n op) (hl : ∀ i, op i = true → i < n) (hn : n ≤ 4096) (o : Nat) (ho : o ≤ 6) :
    Calls Try.prog 21 #[.slice (some ⟨g, 0, none⟩) n n, .int .i64 o] w fun e w' => RB (∃ q, wh op o q) e ∧ w' = w := by
  have HP : Hid (Pls w g n op) := h
  have HL : Hid (∀ i, op i = true → i < n) := hl
  have hsh := shl_wrap o ho
  have hpl := pow_le o ho
  obtain ⟨S, hS⟩ : ∃ S, 2 ^ o = S := ⟨_, rfl⟩
  have HS : Hid (2 ^ o = S) := hS
  rw [hS] at hsh hpl
  clear h hl hS
  go_enter Try.func21, Try.ntmps21
  go_wp2
  go_loopw [5] (fun z wr => ∃ q : Nat, z = .int .i64 (q * S : Nat) ∧ q * S ≤ n ∧ wr = w ∧ ∀ q', q' < q → ¬ wh op o q') (fun z _ => n + 1 - (iv z).toNat)
  case atStart => exact ⟨0, by simp, by omega, rfl, fun q' hq => by omega⟩
  case round =>
    obtain ⟨q, rfl, hqn, hw, hno⟩ := hrel
    obtain rfl := hw.symm
    have HNO : Hid (∀ q', q' < q → ¬ wh op o q') := hno
    have hwi : wh op o q ↔ ∀ i, q * S ≤ i → i < q * S + S → op i = true := by
      rw [← HS.out]
      have := @wh_of op o (q * 2 ^ o) (mul_mod q o)
      rwa [mul_div] at this
    have HWI : Hid (wh op o q ↔ ∀ i, q * S ≤ i → i < q * S + S → op i = true) := hwi
    clear hwi
    clear hno
    have hqs : (q + 1) * S = q * S + S := by rw [Nat.add_mul, Nat.one_mul]
    have HQS : Hid ((q + 1) * S = q * S + S) := hqs
    clear hqs
    obtain ⟨a, ha⟩ : ∃ a, q * S = a := ⟨_, rfl⟩
    have HA : Hid (q * S = a) := ha
    rw [ha] at hqn HWI HQS ⊢
    clear ha
    have hwr : IntKind.i64.wrap ((a : Int) + (S : Int)) = (a : Int) + (S : Int) := IntWalk.i64_in _ (by omega)
    by_cases hc : a + S ≤ n
    · have hcI : (a : Int) + (S : Int) ≤ (n : Int) := by omega
      go_wp2
      go_loopw [6, 7] (fun y z wr => ∃ m : Nat, ∃ b : Bool, a ≤ m ∧ m ≤ a + S ∧ y = .bool b ∧ z = .int .i64 m ∧ wr = w ∧ (b = true ↔ ∀ i, a ≤ i → i < m → op i = true)) (fun _ z _ => (a + S) - (iv z).toNat)
      case atStart => exact ⟨a, true, Nat.le_refl _, by omega, rfl, rfl, rfl, by simp; intro i h1 h2; omega⟩
      case round =>
        obtain ⟨m, b, q1, q2, rfl, rfl, hw, hb⟩ := hrel
        obtain rfl := hw.symm
        have HB : Hid (b = true ↔ ∀ i, a ≤ i → i < m → op i = true) := hb
        clear hb
        by_cases hm : m < a + S
        · have hmn : m < n := by omega
          have hmnI : (m : Int) < (n : Int) := by omega
          have hmI : (m : Int) < (a : Int) + (S : Int) := by omega
          have d0 := HP.out.c m hmn
          have HN2 : Hid (∀ b' : Bool, b' = (b && op m) → (b' = true ↔ ∀ i, a ≤ i → i < m + 1 → op i = true)) := fun b' e => by
            rw [e, Bool.and_eq_true, HB.out]
            constructor
            · rintro ⟨x1, x2⟩ i y1 y2
              by_cases z : i = m
              · rw [z]; exact x2
              · exact x1 i y1 (by omega)
            · intro x
              exact ⟨fun i y1 y2 => x i y1 (by omega), x m q1 (by omega)⟩
          generalize op m = t at *
          cases b <;> cases t <;> (
            simp only [Bool.not_true, Bool.not_false] at d0
            go_wp2
            exact ⟨⟨m + 1, _, by omega, by omega, rfl, by go_num, by simp, HN2.out _ rfl⟩, by simp [iv]; omega⟩)
        · obtain rfl : m = a + S := by omega
          have hmI : ¬ (((a + S : Nat) : Int) < (a : Int) + (S : Int)) := by omega
          cases b with
          | true =>
            have HF : Hid (∃ q, wh op o q) := ⟨q, HWI.out.2 (HB.out.1 rfl)⟩
            clear HB
            go_wp2
            go_ret
            exact ⟨⟨true, rfl, fun _ => HF.out, fun _ => rfl⟩, rfl⟩
          | false =>
            have HF : Hid (∀ q', q' < q + 1 → ¬ wh op o q') := fun q' hq' hw' => by
              by_cases z : q' < q
              · exact HNO.out q' z hw'
              · obtain rfl : q' = q := by omega
                have := HB.out.2 (HWI.out.1 hw')
                cases this
            clear HB
            go_wp2
            exact ⟨⟨q + 1, by rw [HQS.out]; go_num, by rw [HQS.out]; exact hc, by simp, HF.out⟩, by simp [iv]; omega⟩
    · have hcI : ¬ ((a : Int) + (S : Int) ≤ (n : Int)) := by omega
      have HF : Hid (¬ ∃ q, wh op o q) := by
        rintro ⟨q', hw'⟩
        by_cases z : q' < q
        · exact HNO.out q' z hw'
        · have h1 := wh_le (x := q' * 2 ^ o) HL.out (mul_mod q' o) (by rw [mul_div]; exact hw')
          rw [HS.out] at h1
          have h2 : q * S ≤ q' * S := Nat.mul_le_mul_right S (by omega)
          rw [HA.out] at h2
          omega
      go_wp2
      go_ret
      exact ⟨⟨false, rfl, (fun z => by cases z), fun z => absurd z HF.out⟩, rfl⟩
/-! ### back -/
theorem One.more {P : Nat → Prop} {w w' : World} {p : Nat} {v : Value} {L : Nat → List Nat} {tk : Nat → Option Nat} {h : List (Int × Int)} (T : One P w p v L tk h) (g : w.grownBy w' none) (hs : w.heap.size < w'.heap.size) : One (fun k => P k ∨ k = w.heap.size) w' p v L tk h := by
  obtain ⟨G, b1, b3, b5, b7⟩ := T
  refine ⟨G, b1.none g, b3.of_eq (fun k hk => g.block k (b3.lt k hk) (by simp)), b5, fun k hk => ?_⟩
  rcases hk with hk | rfl
  · exact ⟨(b7 k hk).1, (b7 k hk).2.1, Nat.lt_of_lt_of_le (b7 k hk).2.2 g.size⟩
  · exact ⟨fun z => by have := b1.lt _ z; omega, fun z => by have := b3.lt _ z; omega, hs⟩
/-- What may turn where a block is given back. -/
def NB (P : Nat → Prop) (g : Nat) : Nat → Prop := fun k => ¬ P k ∨ k = g
theorem Kp.nb {P : Nat → Prop} {w w' : World} (g : Nat) (h : Kp (NP P) (NP P) w w') : Kp (NB P g) (NB P g) w w' :=
  ⟨h.os, h.tape, h.output, h.size, fun k hk hn => h.block k hk (fun z => hn (Or.inl z)), fun k z => Or.inl z⟩
theorem kp_wrote {P : Nat → Prop} {w w' : World} {g : Nat} (h : w.grownBy w' (some g)) : Kp (NB P g) (NB P g) w w' := Kp.of_grown h (fun k e => by cases e; exact Or.inr rfl) (fun k z => Or.inl z)
set_option maxHeartbeats 2000000 in
theorem back_ok {P : Nat → Prop} {w : World} {p g n : Nat} {v : Value} {L : Nat → List Nat} {tk : Nat → Option Nat} {h : List (Int × Int)} {op : Nat → Bool} (T : One P w p v L tk h) (S : St n op L tk) (hn : n ≤ 4096) (hg : P g) (hp : Pls w g n op) (a o : Nat) (ht : tk a = some o) :
    Calls Try.prog 23 #[.pointer (some ⟨p, 0, none⟩), .slice (some ⟨g, 0, none⟩) n n, .agg #[.int .i64 a, .int .i64 o]] w fun e w' => e = .returned (.bool true) ∧ ∃ L', St n (opened op o (a / 2 ^ o)) L' (pt tk a none) ∧ fr L' = fr L + 2 ^ o ∧ One P w' p v L' (pt tk a none) h ∧ Pls w' g n (opened op o (a / 2 ^ o)) ∧ Kp (NB P g) (NB P g) w w' := by
  obtain ⟨ho, hao, han, _⟩ := S.tk1 a o ht
  have HSH : Hid (∀ S, 2 ^ o = S → mkp op a (a + S) true = opened op o (a / 2 ^ o)) := fun S e => by rw [← e]; exact mkp_opened op o a hao
  have HT : Hid (One P w p v L tk h) := T
  have HS : Hid (St n op L tk) := S
  have HP : Hid (Pls w g n op) := hp
  have HG : Hid (P g) := hg
  have HTK : Hid (tk a = some o) := ht
  have HAO : Hid (a % 2 ^ o = 0) := hao
  have hsh := shl_wrap o ho
  have hpl := pow_le o ho
  obtain ⟨S', hS⟩ : ∃ S, 2 ^ o = S := ⟨_, rfl⟩
  have HS' : Hid (2 ^ o = S') := hS
  rw [hS] at hsh hpl han
  have hwr : IntKind.i64.wrap ((a : Int) + (S' : Int)) = (a : Int) + (S' : Int) := IntWalk.i64_in _ (by omega)
  have HX1 : Hid (Blk (w.alloc (.cells #[.int .i64 a, .int .i64 o] 38)) w.heap.size 38 [.int .i64 a, .int .i64 o]) := blk_new w [.int .i64 a, .int .i64 o] 38
  have hgl := hp.lt
  have HP1 : Hid (Pls (w.alloc (.cells #[.int .i64 a, .int .i64 o] 38)) g n op) := hp.of_eq (by simp) (Below.heap_alloc _ _ _ hp.lt)
  obtain ⟨x, hx⟩ : ∃ x, x = w.heap.size := ⟨_, rfl⟩
  have hxg : x ≠ g := by omega
  have HT1 : Hid (One (fun k => P k ∨ k = x) (w.alloc (.cells #[.int .i64 a, .int .i64 o] 38)) p v L tk h) := by
    rw [hx]
    exact T.more (World.grownBy_alloc _ _ none) (by simp)
  rw [← hx] at HX1
  have x0 := HX1.out.cell 0
  have x1 := HX1.out.cell 1
  simp only [List.getElem?_cons_zero, List.getElem?_cons_succ] at x0 x1
  clear T S hp hg ht hao hS
  go_enter Try.func23, Try.ntmps23
  go_wp2_with fail
  have HG1 : Hid (w.grownBy (w.alloc (.cells #[.int .i64 a, .int .i64 o] 38)) none) := World.grownBy_alloc _ _ none
  generalize w.alloc (.cells #[.int .i64 a, .int .i64 o] 38) = w1 at *
  rw [← hx]
  clear hx x0 x1
  go_loopw [7] (fun z wr => ∃ m : Nat, a ≤ m ∧ m ≤ a + S' ∧ z = .int .i64 m ∧ Pls wr g n (mkp op a m true) ∧ w1.grownBy wr (some g)) (fun z _ => (a + S') - (iv z).toNat)
  case atStart =>
    refine ⟨a, Nat.le_refl _, by omega, rfl, HP1.out.congr (fun i hi => ?_), World.grownBy.refl _ _⟩
    unfold mkp
    rw [if_neg (by omega)]
  case round =>
    obtain ⟨m, q1, q2, rfl, hR, hgr⟩ := hrel
    have HR : Hid (Pls wr g n (mkp op a m true)) := hR
    have HGR : Hid (w1.grownBy wr (some g)) := hgr
    have hxb := HX1.out.kept hgr (some_ne hxg)
    have x0 := hxb.cell 0
    have x1 := hxb.cell 1
    simp only [List.getElem?_cons_zero, List.getElem?_cons_succ] at x0 x1
    clear hxb
    by_cases hm : m < a + S'
    · have hmn : m < n := by omega
      have hmnI : (m : Int) < (n : Int) := by omega
      have hmI : (m : Int) < (a : Int) + (S' : Int) := by omega
      have hR2 : Pls (wr.drewN 0) g n (mkp op a m true) := hR
      clear hR2 hgr
      go_wp2_with fail
      go_quiet (fail)
      have d0 : (wr.drewN nq).cell? ⟨g, m, none⟩ = some (.bool (!(mkp op a m true m))) := hR.c m hmn
      have d1 : (wr.drewN nq).frozen? ⟨g, m, none⟩ = false := hR.f m hmn
      have HR3 : Hid (Pls (wr.drewN nq) g n (mkp op a m true)) := hR.of_eq (Nat.le_refl _) rfl
      have HG3 : Hid (w1.grownBy (wr.drewN nq) (some g)) := HGR.out.trans (grown_drewN _ _ _)
      clear hR x0 x1
      generalize wr.drewN nq = wb at *
      generalize (!(mkp op a m true m)) = old at *
      go_wp2
      exact ⟨⟨m + 1, by omega, by omega, by go_num, HR3.out.step q1 hmn, HG3.out.trans (grown_setCell' _ _ _ _)⟩, by simp [iv]; omega⟩
    · have hmI : (a : Int) + (S' : Int) ≤ (m : Int) := by omega
      have HF : Hid (Pls wr g n (opened op o (a / 2 ^ o))) := by
        obtain rfl : m = a + S' := by omega
        have := HR.out
        rwa [HSH.out S' HS'.out] at this
      clear hR hgr
      go_wp2_with fail
      go_quiet (fail)
      have HF3 : Hid (Pls (wr.drewN nq) g n (opened op o (a / 2 ^ o))) := HF.out.of_eq (Nat.le_refl _) rfl
      have HG3 : Hid (w1.grownBy (wr.drewN nq) (some g)) := HGR.out.trans (grown_drewN _ _ _)
      have y0 : (wr.drewN nq).cell? ⟨x, 0, none⟩ = some (.int .i64 a) := x0
      have y1 : (wr.drewN nq).cell? ⟨x, 1, none⟩ = some (.int .i64 o) := x1
      clear x0 x1 HF HR HGR
      generalize wr.drewN nq = wb at *
      have HTb : Hid (One (fun k => P k ∨ k = x) wb p v L tk h) := HT1.out.wrote HG3.out (Or.inl HG.out)
      obtain ⟨G, a1, a3, a5, a7⟩ := HTb.out
      have CG : Hid (Calls _ _ _ _ _) := Give_ok a1 (HS.out.len hn) HS.out.up a o (by omega) ho HAO.out HTK.out
      have HN3 : Hid (∀ w3 G' L' tk', Bu w3 G' p L' tk' → Kp G G' wb w3 → One (fun k => P k ∨ k = x) w3 p v L' tk' h ∧ Kp (NP (fun k => P k ∨ k = x)) (NP (fun k => P k ∨ k = x)) wb w3) := fun w3 G' L' tk' b k => One.prog a1.lt a3 a5 a7 b k
      have hxl : x < wb.heap.size := (a7 x (Or.inr rfl)).2.2
      have hgl : g < wb.heap.size := (a7 g (Or.inl HG.out)).2.2
      clear a1 a3 a5 a7 HTb
      go_wp2_with fail
      refine CG.out.mono ?_
      rintro e w3 ⟨rfl, J, hT, G', b3, k3⟩
      obtain ⟨t3, kp3⟩ := HN3.out w3 G' _ _ b3 k3
      obtain ⟨st3, fr3⟩ := HS.out.give HTK.out hT
      have HS3 : Hid (St n (opened op o (a / 2 ^ o)) (gvE L o a J) (pt tk a none)) := st3
      have HFR : Hid (fr (gvE L o a J) = fr L + 2 ^ o) := fr3
      have HT3 : Hid (One (fun k => P k ∨ k = x) w3 p v (gvE L o a J) (pt tk a none) h) := t3
      have HP3 : Hid (Pls w3 g n (opened op o (a / 2 ^ o))) := HF3.out.of_eq kp3.size (kp3.np (Or.inl HG.out) hgl)
      have ex := kp3.np (k := x) (Or.inr rfl) hxl
      have z0 : w3.cell? ⟨x, 0, none⟩ = some (.int .i64 a) := (World.cell?_of_block (w := wb) (a := ⟨x, 0, none⟩) ex).trans y0
      have z1 : w3.cell? ⟨x, 1, none⟩ = some (.int .i64 o) := (World.cell?_of_block (w := wb) (a := ⟨x, 1, none⟩) ex).trans y1
      have HK3 : Hid (Kp (NB P g) (NB P g) w w3) := by
        have k1 : Kp (NB P g) (NB P g) w w1 := Kp.of_none HG1.out
        have k2 : Kp (NB P g) (NB P g) w1 wb := kp_wrote HG3.out
        have k4 : Kp (NB P g) (NB P g) wb w3 := ⟨kp3.os, kp3.tape, kp3.output, kp3.size, fun k hk hn => kp3.block k hk (fun z => hn (Or.inl (fun y => z (Or.inl y)))), fun k z => Or.inl z⟩
        exact (k1.trans k2).trans k4
      have CG2 : Hid (Calls _ _ _ _ _) := Give_tk (show Bu w3 G' p (gvE L o a J) (pt tk a none) from b3) (a : Int) (o : Int) (by omega) (by omega) (by omega) (by omega) (fun y u e1 e2 => by
        obtain rfl : a = y := by omega
        simp [pt] at e2)
      clear b3 k3 t3 kp3 st3 fr3 hT ex y0 y1 CG HN3 HF3 HG3
      go_wp2_with fail
      refine CG2.out.mono ?_
      rintro e w4 ⟨rfl, h4⟩
      obtain rfl := h4.symm
      clear CG2
      go_wp2
      go_ret
      exact ⟨rfl, _, HS3.out, HFR.out, HT3.out.less (fun k z => Or.inl z), HP3.out, HK3.out⟩
end Go.Proofs.Ytdlkmeopiilmdaa
