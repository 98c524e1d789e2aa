/- What the reference's Take, Give, Free and Whole give back and write; no condition but the ranges that each theorem names. -/
import Derived.Test.YtifchflbhdnfaaaGreatVBRl
namespace Go.Proofs.YtifchflbhdnfaaaGreat.B
open Go.ChangeShapes Go.WideShapes Go.ChangeAt Go.RowKit
set_option linter.unusedVariables false
set_option maxRecDepth 8192

/-- What is written of places one behind the other. -/
def mkp (op : Nat → Bool) (a m : Nat) (b : Bool) : Nat → Bool := fun i => if a ≤ i ∧ i < m then b else op i
theorem mkp_shut (op : Nat → Bool) (o a : Nat) (ha : a % 2 ^ o = 0) : mkp op a (a + 2 ^ o) false = shut op o (a / 2 ^ o) := by
  funext i
  unfold mkp shut
  have e := @div_eq_iff i (a / 2 ^ o) o
  rw [mod_mul_div ha] at e
  by_cases h : i / 2 ^ o = a / 2 ^ o
  · rw [if_pos (e.1 h), if_pos h]
  · rw [if_neg (fun q => h (e.2 q)), if_neg h]
theorem mkp_opened (op : Nat → Bool) (o a : Nat) (ha : a % 2 ^ o = 0) : mkp op a (a + 2 ^ o) true = opened op o (a / 2 ^ o) := by
  funext i
  unfold mkp opened
  have e := @div_eq_iff i (a / 2 ^ o) o
  rw [mod_mul_div ha] at e
  by_cases h : i / 2 ^ o = a / 2 ^ o
  · rw [if_pos (e.1 h), if_pos h]
  · rw [if_neg (fun q => h (e.2 q)), if_neg h]
theorem Rb.mk1 {w : World} {q go gt n : Nat} {op : Nat → Bool} {tk : Nat → Option Nat} {a m : Nat} {b : Bool} (h : Rb w q go gt n (mkp op a m b) tk) (h1 : a ≤ m) (hm : m < n) : Rb (w.setCell ⟨go, m, none⟩ (.bool b)) q go gt n (mkp op a (m + 1) b) tk := by
  refine (h.open1 m hm b).congr (fun i hi => ?_) (fun _ _ => rfl)
  unfold mkp
  by_cases e : i = m
  · rw [if_pos e, if_pos (by omega)]
  · rw [if_neg e]
    by_cases e2 : a ≤ i ∧ i < m
    · rw [if_pos e2, if_pos (by omega)]
    · rw [if_neg e2, if_neg (by omega)]
theorem Rb.tk1 {w : World} {q go gt n : Nat} {op : Nat → Bool} {tk : Nat → Option Nat} (h : Rb w q go gt n op tk) (a : Nat) (ha : a < n) (v : Option Nat) (x : Int) (hx : x = tn (pt tk a v) a) : Rb (w.setCell ⟨gt, a, none⟩ (.int .i64 x)) q go gt n op (pt tk a v) := by
  have G := grown_setCell' w gt a (.int .i64 x)
  have s : (w.setCell ⟨gt, a, none⟩ (.int .i64 x)).heap.size = w.heap.size := by simp [World.setCell]
  refine ⟨by rw [s]; exact h.ql, by rw [s]; exact h.ol, by rw [s]; exact h.tl, (G.cell_far ⟨q, 0, none⟩ h.ql (some_ne h.n2)).trans h.c0, (G.cell_far ⟨q, 1, none⟩ h.ql (some_ne h.n2)).trans h.c1, fun j hj => (G.cell_far ⟨go, j, none⟩ h.ol (some_ne h.n3)).trans (h.oc j hj), fun j hj => ?_, fun j hj => by rw [World.frozen?_setCell]; exact h.of j hj, fun j hj => by rw [World.frozen?_setCell]; exact h.tf j hj, h.n1, h.n2, h.n3, h.n4⟩
  by_cases e : j = a
  · subst e
    rw [World.cell?_setCell_same _ _ _ (h.tc j hj), hx]
  · rw [World.cell?_setCell_other _ _ _ _ (by intro h; cases h; exact e rfl), h.tc j hj]
    unfold tn pt
    rw [if_neg e]
/-! ### Take -/
theorem rTake_no {w : World} (q : Nat) (o : Int) (ho : o < 0 ∨ 6 < o) : Calls Tryz.prog 47 #[.pointer (some ⟨q, 0, none⟩), .int .i64 o] w fun e w' => e = .returned (.tuple #[.int .i64 0, .int .i64 2]) ∧ w' = w := by
  go_enter Tryz.func47, Tryz.ntmps47
  go_wp2
  all_goals (go_ret2; exact ⟨rfl, rfl⟩)
/-- How a list of seven is read. -/
theorem Ls.cell {B : Nat} {w : World} {v : Value} {M : Nat → List Int} (h : Ls B w v M) : ∃ g cap, v = .slice (some ⟨g, 0, none⟩) 7 cap ∧ g < w.heap.size ∧ ∀ i, i < 7 → ∃ a c, w.cell? ⟨g, i, none⟩ = some (.slice a (M i).length c) ∧ Own w (.slice a (M i).length c) (M i) := by
  obtain ⟨g, cap, F, V, rfl, R, _⟩ := h
  refine ⟨g, cap, rfl, R.lt _ R.fg, fun i hi => ?_⟩
  obtain ⟨a, c, e⟩ := (R.own i hi).len
  have h1 := R.row i hi
  have h2 := R.own i hi
  rw [e] at h1 h2
  exact ⟨a, c, h1, h2⟩
theorem rTake_none {w : World} {q go gt n : Nat} {op : Nat → Bool} {tk : Nat → Option Nat} (h : Rb w q go gt n op tk) (hl : ∀ i, op i = true → i < n) {L : Nat → List Nat} (hL : ∀ k, k ≤ 6 → Fit op k (L k)) (o : Nat) (ho : o ≤ 6) (he : ∀ i, o ≤ i → i ≤ 6 → L i = []) :
    Calls Tryz.prog 47 #[.pointer (some ⟨q, 0, none⟩), .int .i64 o] w fun e w' => e = .returned (.tuple #[.int .i64 0, .int .i64 90]) ∧ w.grownBy w' none := by
  have CL : Hid (Calls _ _ _ _ _) := rLists_ok h hl hL
  have HE : Hid (∀ i, o ≤ i → i ≤ 6 → L i = []) := he
  clear h hl hL he
  go_enter Tryz.func47, Tryz.ntmps47
  go_wp2_with fail
  refine CL.out.mono ?_
  rintro e w1 ⟨v, rfl, hls, hg1⟩
  obtain ⟨g, cap, rfl, hgl, hc⟩ := hls.cell
  have HC : Hid (∀ i, o ≤ i → i ≤ 6 → ∃ a c, w1.cell? ⟨g, i, none⟩ = some (.slice a 0 c)) := fun i h1 h2 => by
    obtain ⟨a, c, e, _⟩ := hc i (by omega)
    rw [HE.out i h1 h2] at e
    exact ⟨a, c, e⟩
  have HG : Hid (w.grownBy w1 none) := hg1
  clear hc hls hg1 CL
  go_wp2
  go_loopw [7] (fun z wr => ∃ j : Nat, o ≤ j ∧ j ≤ 7 ∧ z = .int .i64 j ∧ wr = w1) (fun z _ => (7 - iv z).toNat)
  case atStart => exact ⟨o, Nat.le_refl _, by omega, rfl, rfl⟩
  case round =>
    obtain ⟨j, h1, h2, rfl, hw⟩ := hrel
    obtain rfl := hw
    by_cases hj : j ≤ 6
    · obtain ⟨a, c, hc⟩ := HC.out j h1 hj
      have hj0 : (0 : Int) ≤ (j : Int) := by omega
      have hj7 : (j : Int) < 7 := by omega
      go_wp2
      exact ⟨⟨j + 1, by omega, by omega, by go_num, by simp⟩, by simp [iv]; omega⟩
    · obtain rfl : j = 7 := by omega
      go_wp2
      go_ret2
      exact ⟨rfl, HG.out⟩
set_option maxHeartbeats 1000000 in
theorem rTake_ok {w : World} {q go gt n : Nat} {op : Nat → Bool} {tk : Nat → Option Nat} (h : Rb w q go gt n op tk) (hl : ∀ i, op i = true → i < n) {L : Nat → List Nat} (hL : ∀ k, k ≤ 6 → Fit op k (L k)) (o k a : Nat) (r : List Nat) (ho : o ≤ k) (hk : k ≤ 6) (he : ∀ i, o ≤ i → i < k → L i = []) (hLk : L k = a :: r) (hao : a % 2 ^ o = 0) (han : a + 2 ^ o ≤ n) :
    Calls Tryz.prog 47 #[.pointer (some ⟨q, 0, none⟩), .int .i64 o] w fun e w' => e = .returned (.tuple #[.int .i64 a, .int .i64 0]) ∧ Rb w' q go gt n (shut op o (a / 2 ^ o)) (pt tk a (some o)) ∧ Kp (fun k => k = go ∨ k = gt) (fun k => k = go ∨ k = gt) w w' := by
  have CL : Hid (Calls _ _ _ _ _) := rLists_ok h hl hL
  have HE : Hid (∀ i, o ≤ i → i < k → L i = []) := he
  have HLk : Hid (L k = a :: r) := hLk
  have HR : Hid (Rb w q go gt n op tk) := h
  have HSH : Hid (∀ S, 2 ^ o = S → mkp op a (a + S) false = shut op o (a / 2 ^ o)) := fun S e => by rw [← e]; exact mkp_shut op o a hao
  have hn := h.n4
  have hsh := shl_wrap o (by omega)
  have hpl := pow_le o (by omega)
  obtain ⟨S, hS⟩ : ∃ S, 2 ^ o = S := ⟨_, rfl⟩
  have HS : Hid (2 ^ o = S) := hS
  rw [hS] at hsh hpl han
  clear h hl hL he hLk hao hS
  go_enter Tryz.func47, Tryz.ntmps47
  go_wp2_with fail
  refine CL.out.mono ?_
  rintro e w1 ⟨v, rfl, hls, hg1⟩
  obtain ⟨g, cap, rfl, hgl, hc⟩ := hls.cell
  have HC : Hid (∀ i, o ≤ i → i < k → ∃ a c, w1.cell? ⟨g, i, none⟩ = some (.slice a 0 c)) := fun i h1 h2 => by
    obtain ⟨a, c, e, _⟩ := hc i (by omega)
    rw [HE.out i h1 h2] at e
    exact ⟨a, c, e⟩
  obtain ⟨b1, c1, e1, o1⟩ := hc k (by omega)
  rw [HLk.out] at e1 o1
  obtain ⟨b2, c2, e2, e3⟩ := o1.cell (k := 0) (t := (a : Int)) (by simp [ints])
  cases e2
  have hln : (ints (a :: r)).length = r.length + 1 := by simp [ints]
  rw [hln] at e1
  obtain ⟨m0, hm0⟩ : ∃ m, r.length = m := ⟨_, rfl⟩
  rw [hm0] at e1
  have HG : Hid (w.grownBy w1 none) := hg1
  have HR1 : Hid (Rb w1 q go gt n op tk) := HR.out.of_eq hg1.size (hg1.block q HR.out.ql (by simp)) (hg1.block go HR.out.ol (by simp)) (hg1.block gt HR.out.tl (by simp))
  clear hc hls hg1 CL o1 hln hm0
  go_wp2
  go_loopw [7] (fun z wr => ∃ j : Nat, o ≤ j ∧ j ≤ k ∧ z = .int .i64 j ∧ wr = w1) (fun z _ => (7 - iv z).toNat)
  case atStart => exact ⟨o, Nat.le_refl _, by omega, rfl, rfl⟩
  case round =>
    obtain ⟨j, h1, h2, rfl, hw⟩ := hrel
    obtain rfl := hw.symm
    by_cases hj : j < k
    · obtain ⟨a, c, hc⟩ := HC.out j h1 hj
      have hj0 : (0 : Int) ≤ (j : Int) := by omega
      have hj7 : (j : Int) < 7 := by omega
      clear e1 e3
      go_wp2
      exact ⟨⟨j + 1, by omega, by omega, by go_num, by simp⟩, by simp [iv]; omega⟩
    · obtain rfl : j = k := by omega
      have hj0 : (0 : Int) ≤ (j : Int) := by omega
      have hj7 : (j : Int) < 7 := by omega
      have hwr : IntKind.i64.wrap ((a : Int) + (S : Int)) = (a : Int) + (S : Int) := IntWalk.i64_in _ (by omega)
      clear HC
      go_wp2
      go_loopw [9] (fun z wq => ∃ m : Nat, a ≤ m ∧ m ≤ a + S ∧ z = .int .i64 m ∧ Rb wq q go gt n (mkp op a m false) tk ∧ w1.grownBy wq (some go)) (fun z _ => (a + S) - (iv z).toNat)
      case atStart =>
        refine ⟨a, Nat.le_refl _, by omega, rfl, HR1.out.congr (fun i hi => ?_) (fun _ _ => rfl), World.grownBy.refl _ _⟩
        unfold mkp
        rw [if_neg (by omega)]
      case round =>
        obtain ⟨m, q1, q2, rfl, hR, hW⟩ := hrel
        have HRR : Hid (Rb wr q go gt n (mkp op a m false) tk) := hR
        have HW : Hid (w1.grownBy wr (some go)) := hW
        have d0 := hR.c0
        have d1 := hR.c1
        by_cases hm : m < a + S
        · have hmn : m < n := by omega
          have hmnI : (m : Int) < (n : Int) := by omega
          have hmI : (m : Int) < (a : Int) + (S : Int) := by omega
          have d2 := hR.oc m hmn
          have d3 := hR.of m hmn
          clear hR hW
          go_wp2
          exact ⟨⟨m + 1, by omega, by omega, by go_num, HRR.out.mk1 q1 hmn, HW.out.trans (grown_setCell' _ _ _ _)⟩, by simp [iv]; omega⟩
        · have hmI : (a : Int) + (S : Int) ≤ (m : Int) := by omega
          obtain rfl : m = a + S := by omega
          have han' : a < n := by omega
          have hanI : (a : Int) < (n : Int) := by omega
          have d2 := hR.tc a han'
          have d3 := hR.tf a han'
          have ho1 : IntKind.i64.wrap (1 + (o : Int)) = 1 + (o : Int) := IntWalk.i64_in _ (by omega)
          have HF : Hid (Rb (wr.setCell ⟨gt, a, none⟩ (.int .i64 (1 + (o : Int)))) q go gt n (shut op o (a / 2 ^ o)) (pt tk a (some o)) ∧ Kp (fun k => k = go ∨ k = gt) (fun k => k = go ∨ k = gt) w (wr.setCell ⟨gt, a, none⟩ (.int .i64 (1 + (o : Int))))) := by
            have hz := HRR.out.tk1 a han' (some o) (1 + (o : Int)) (by simp [tn, pt])
            rw [HSH.out S HS.out] at hz
            refine ⟨hz, ?_⟩
            have k1 : Kp (fun k => k = go ∨ k = gt) (fun k => k = go ∨ k = gt) w w1 := Kp.of_none HG.out
            have k2 : Kp (fun k => k = go ∨ k = gt) (fun k => k = go ∨ k = gt) w1 wr := Kp.of_grown HW.out (fun c e => by cases e; exact Or.inl rfl) (fun _ z => Or.inl z)
            have k3 : Kp (fun k => k = go ∨ k = gt) (fun k => k = go ∨ k = gt) wr (wr.setCell ⟨gt, a, none⟩ (.int .i64 (1 + (o : Int)))) := Kp.of_grown (grown_setCell' _ _ _ _) (fun c e => by cases e; exact Or.inr rfl) (fun _ z => Or.inl z)
            exact (k1.trans k2).trans k3
          generalize tn tk a = old at *
          clear hR hW HRR HW
          go_wp2
          go_ret2
          exact ⟨rfl, HF.out⟩
/-! ### Give -/
theorem rGive_no {w : World} (q : Nat) (a o : Int) (ho : o < 0 ∨ 6 < o ∨ a < 0) : Calls Tryz.prog 52 #[.pointer (some ⟨q, 0, none⟩), .int .i64 a, .int .i64 o] w fun e w' => e = .returned (.int .i64 2) ∧ w' = w := by
  go_enter Tryz.func52, Tryz.ntmps52
  go_wp2
  all_goals (go_ret; exact ⟨rfl, rfl⟩)
theorem rGive_tk {w : World} {q go gt n : Nat} {op : Nat → Bool} {tk : Nat → Option Nat} (h : Rb w q go gt n op tk) (a o : Int) (h0 : 0 ≤ o) (h6 : o ≤ 6) (ha : 0 ≤ a) (ha' : a < 9223372036854775808) (hno : ∀ (x u : Nat), a = x → tk x = some u → o ≠ u) :
    Calls Tryz.prog 52 #[.pointer (some ⟨q, 0, none⟩), .int .i64 a, .int .i64 o] w fun e w' => e = .returned (.int .i64 91) ∧ w' = w := by
  obtain ⟨x, hx⟩ : ∃ x : Nat, a = x := ⟨a.toNat, by omega⟩
  subst hx
  have d1 := h.c1
  have hn := h.n4
  by_cases hxn : x < n
  · have d2 := h.tc x hxn
    have hne : ¬ (tn tk x = 1 + o) := by
      unfold tn
      cases e : tk x with
      | none => simp; omega
      | some u => have := hno x u rfl e; simp; omega
    have hxI : (x : Int) < (n : Int) := by omega
    have ho1 : IntKind.i64.wrap (1 + o) = 1 + o := IntWalk.i64_in _ (by omega)
    generalize tn tk x = T at *
    have hneb : (T != 1 + o) = true := by simpa using hne
    clear h hno ha ha'
    go_enter Tryz.func52, Tryz.ntmps52
    go_wp2
    go_ret
    exact ⟨rfl, rfl⟩
  · have hxI : (n : Int) ≤ (x : Int) := by omega
    clear h hno ha ha'
    go_enter Tryz.func52, Tryz.ntmps52
    go_wp2
    go_ret
    exact ⟨rfl, rfl⟩
set_option maxHeartbeats 1000000 in
theorem rGive_ok {w : World} {q go gt n : Nat} {op : Nat → Bool} {tk : Nat → Option Nat} (h : Rb w q go gt n op tk) (a o : Nat) (ho : o ≤ 6) (hao : a % 2 ^ o = 0) (han : a + 2 ^ o ≤ n) (ht : tk a = some o) :
    Calls Tryz.prog 52 #[.pointer (some ⟨q, 0, none⟩), .int .i64 a, .int .i64 o] w fun e w' => e = .returned (.int .i64 0) ∧ Rb w' q go gt n (opened op o (a / 2 ^ o)) (pt tk a none) ∧ Kp (fun k => k = go ∨ k = gt) (fun k => k = go ∨ k = gt) w w' := by
  have HSH : Hid (∀ S, 2 ^ o = S → mkp op a (a + S) true = opened op o (a / 2 ^ o)) := fun S e => by rw [← e]; exact mkp_opened op o a hao
  have hn := h.n4
  have hsh := shl_wrap o (by omega)
  have hpl := pow_le o (by omega)
  obtain ⟨S, hS⟩ : ∃ S, 2 ^ o = S := ⟨_, rfl⟩
  have HS : Hid (2 ^ o = S) := hS
  rw [hS] at hsh hpl han
  have han' : a < n := by omega
  have hanI : (a : Int) < (n : Int) := by omega
  have e1 := h.c1
  have e2 := h.tc a han'
  have e3 := h.tf a han'
  have hto : tn tk a = 1 + (o : Int) := by unfold tn; rw [ht]
  rw [hto] at e2
  have HR1 : Hid (Rb (w.setCell ⟨gt, a, none⟩ (.int .i64 0)) q go gt n op (pt tk a none)) := h.tk1 a han' none 0 (by simp [tn, pt])
  have ho1 : IntKind.i64.wrap (1 + (o : Int)) = 1 + (o : Int) := IntWalk.i64_in _ (by omega)
  have hwr : IntKind.i64.wrap ((a : Int) + (S : Int)) = (a : Int) + (S : Int) := IntWalk.i64_in _ (by omega)
  clear h hao hS hto ht
  go_enter Tryz.func52, Tryz.ntmps52
  go_wp2
  go_loopw [7] (fun z wq => ∃ m : Nat, a ≤ m ∧ m ≤ a + S ∧ z = .int .i64 m ∧ Rb wq q go gt n (mkp op a m true) (pt tk a none) ∧ (w.setCell ⟨gt, a, none⟩ (.int .i64 0)).grownBy wq (some go)) (fun z _ => (a + S) - (iv z).toNat)
  case atStart =>
    refine ⟨a, Nat.le_refl _, by omega, rfl, HR1.out.congr (fun i hi => ?_) (fun _ _ => rfl), World.grownBy.refl _ _⟩
    unfold mkp
    rw [if_neg (by omega)]
  case round =>
    obtain ⟨m, q1, q2, rfl, hR, hW⟩ := hrel
    have HRR : Hid (Rb wr q go gt n (mkp op a m true) (pt tk a none)) := hR
    have HW : Hid ((w.setCell ⟨gt, a, none⟩ (.int .i64 0)).grownBy wr (some go)) := hW
    have d0 := hR.c0
    by_cases hm : m < a + S
    · have hmn : m < n := by omega
      have hmnI : (m : Int) < (n : Int) := by omega
      have hmI : (m : Int) < (a : Int) + (S : Int) := by omega
      have d2 := hR.oc m hmn
      have d3 := hR.of m hmn
      clear hR hW e1 e2 e3
      go_wp2
      exact ⟨⟨m + 1, by omega, by omega, by go_num, HRR.out.mk1 q1 hmn, HW.out.trans (grown_setCell' _ _ _ _)⟩, by simp [iv]; omega⟩
    · have hmI : (a : Int) + (S : Int) ≤ (m : Int) := by omega
      have HF : Hid (Rb wr q go gt n (opened op o (a / 2 ^ o)) (pt tk a none) ∧ Kp (fun k => k = go ∨ k = gt) (fun k => k = go ∨ k = gt) w wr) := by
        obtain rfl : m = a + S := by omega
        have hz := HRR.out
        rw [HSH.out S HS.out] at hz
        refine ⟨hz, ?_⟩
        have k1 : Kp (fun k => k = go ∨ k = gt) (fun k => k = go ∨ k = gt) w (w.setCell ⟨gt, a, none⟩ (.int .i64 0)) := Kp.of_grown (grown_setCell' _ _ _ _) (fun c e => by cases e; exact Or.inr rfl) (fun _ z => Or.inl z)
        have k2 : Kp (fun k => k = go ∨ k = gt) (fun k => k = go ∨ k = gt) (w.setCell ⟨gt, a, none⟩ (.int .i64 0)) wr := Kp.of_grown HW.out (fun c e => by cases e; exact Or.inl rfl) (fun _ z => Or.inl z)
        exact k1.trans k2
      clear hR hW e1 e2 e3 HRR HW
      go_wp2
      go_ret
      exact ⟨rfl, HF.out⟩
/-! ### Free, Whole -/
theorem cnt_le (op : Nat → Bool) : ∀ n, cnt op n ≤ n
  | 0 => Nat.le_refl _
  | n + 1 => by
    have := cnt_le op n
    simp only [cnt]
    split <;> omega
set_option maxHeartbeats 1000000 in
theorem rFree_any {w : World} {q go gt n : Nat} {op : Nat → Bool} {tk : Nat → Option Nat} (h : Rb w q go gt n op tk) : Calls Tryz.prog 46 #[.pointer (some ⟨q, 0, none⟩)] w fun e w' => e = .returned (.int .i64 (cnt op n : Nat)) ∧ w' = w := by
  have HR : Hid (Rb w q go gt n op tk) := h
  have d0 := h.c0
  have hn := h.n4
  clear h
  go_enter Tryz.func46, Tryz.ntmps46
  go_wp2
  go_loopw [3, 4] (fun y z wr => ∃ m : Nat, m ≤ n ∧ y = .int .i64 (cnt op m : Nat) ∧ z = .int .i64 m ∧ wr = w) (fun _ z _ => n - (iv z).toNat)
  case atStart => exact ⟨0, by omega, rfl, rfl, rfl⟩
  case round =>
    obtain ⟨m, hm, rfl, rfl, hw⟩ := hrel
    obtain rfl := hw
    have hcl := cnt_le op m
    by_cases hlt : m < n
    · have d1 := HR.out.oc m hlt
      have hltI : (m : Int) < (n : Int) := by omega
      have HCN : Hid (cnt op (m + 1) = cnt op m + if op m then 1 else 0) := rfl
      cases hop : op m with
      | true =>
        rw [hop] at d1 HCN
        have HCN1 : Hid (cnt op (m + 1) = cnt op m + 1) := HCN.out
        clear hop HCN
        generalize cnt op m = c at *
        go_wp2
        exact ⟨⟨m + 1, by omega, by rw [HCN1.out]; go_num, by go_num, by simp⟩, by simp [iv]; omega⟩
      | false =>
        rw [hop] at d1 HCN
        have HCN1 : Hid (cnt op (m + 1) = cnt op m) := HCN.out
        clear hop HCN
        generalize cnt op m = c at *
        go_wp2
        exact ⟨⟨m + 1, by omega, by rw [HCN1.out], by go_num, by simp⟩, by simp [iv]; omega⟩
    · obtain rfl : m = n := by omega
      go_wp2
      go_ret
      exact ⟨rfl, rfl⟩
end Go.Proofs.YtifchflbhdnfaaaGreat.B
