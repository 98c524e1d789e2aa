/- The statement's look at one Write. -/
import Derived.Test.YtimmckdghihcjaaOr
import Derived.Test.YtimmckdghihcjaaSt
namespace Go.Proofs.Ytimmckdghihcjaa
open Go.ChangeShapes Go.WideShapes Go.ChangeAt Go.RowKit
set_option linter.unusedVariables false

/-- The bytes, and the marks. -/
def mrk (l : Nat) (f : Nat → Int) (i : Nat) : Int := if i < l then f i else (200 + (i : Int)) % 256
theorem mrk_in (l : Nat) (f : Nat → Int) (i : Nat) (h : i < l) : mrk l f i = f i := by unfold mrk; rw [if_pos h]
theorem mrk_out (l : Nat) (f : Nat → Int) (i : Nat) (h : ¬ i < l) : mrk l f i = (200 + (i : Int)) % 256 := by unfold mrk; rw [if_neg h]
theorem pg_next (M : Nat → Int) (k i : Nat) : upd (pg k M) k (M k) i = pg (k + 1) M i := by
  unfold upd pg
  by_cases e : i = k
  · subst e; simp
  · rw [if_neg e]
    by_cases e2 : i < k
    · rw [if_pos e2, if_pos (by omega)]
    · rw [if_neg e2, if_neg (by omega)]
theorem upd_upd (f : Nat → Int) (k : Nat) (a b : Int) (i : Nat) : upd (upd f k a) k b i = upd f k b i := by
  unfold upd
  split <;> rfl
theorem okB.mrk {l : Nat} {f : Nat → Int} (h : okB l f) (n : Nat) : okB n (mrk l f) := fun i hi => by
  unfold Proofs.Ytimmckdghihcjaa.mrk
  split
  · rename_i h1; exact h i h1
  · omega
theorem Ch2.below {B : Nat} {A : List Nat} {W W' : World} (h : Ch2 B A W W') (hB : B ≤ W.heap.size) : Below B W W' := by
  obtain ⟨row, g, hr⟩ := h
  exact (Below.refl _ _).grown g hB (fun j hj => (hr j hj).1)
theorem Ch2.bx {B X : Nat} {A : List Nat} {W W' : World} {vs : List Value} (h : Ch2 B A W W') (b : Bx W X vs) (hX : X ∈ A) : Bx W' X vs := by
  obtain ⟨row, g, hr⟩ := h
  exact b.kept g (fun e => (hr X e.symm).2 hX)
theorem Ch2.by' {B X n : Nat} {A : List Nat} {W W' : World} {f : Nat → Int} (h : Ch2 B A W W') (b : By W X n f) (hX : X ∈ A) : By W' X n f := by
  obtain ⟨row, g, hr⟩ := h
  exact b.kept g (fun e => (hr X e.symm).2 hX)
theorem Ch2.size {B : Nat} {A : List Nat} {W W' : World} (h : Ch2 B A W W') : W.heap.size ≤ W'.heap.size := by
  obtain ⟨row, g, hr⟩ := h
  exact g.size
/-- What stays while the bytes are laid. -/
structure Ws (S : St) (w : World) (m m2 : Slots) (B T : Nat) (A : List Nat) (Kind Slot : Int) (aB : Option Addr) (lB cB : Nat) (fB : Nat → Int) (wr : World) : Prop where
  x : Bx wr w.heap.size [.int .i64 Kind, .int .i64 Slot, .slice aB lB cB]
  s : S m m2 T A wr
  b : Below B w wr
  d : DoIn B wr Kind Slot aB lB cB fB
  z : w.heap.size + 2 ≤ wr.heap.size
theorem Ws.set {mv rv : Option Addr} {B : Nat} {S : St} (O : Orc mv rv B S) {w wr : World} {m m2 : Slots} {T : Nat} {A : List Nat} {Kind Slot : Int} {aB : Option Addr} {lB cB : Nat} {fB : Nat → Int} (h : Ws S w m m2 B T A Kind Slot aB lB cB fB wr) (hB : B ≤ w.heap.size) (hT : T ≤ w.heap.size + 1 ∨ w.heap.size + 1 ∈ A) (k : Nat) (v : Value) : Ws S w m m2 B T A Kind Slot aB lB cB fB (wr.setCell ⟨w.heap.size + 1, k, none⟩ v) := by
  have G := grown_setCell' wr (w.heap.size + 1) k v
  have hz := h.z
  have hb : Below B wr (wr.setCell ⟨w.heap.size + 1, k, none⟩ v) := (Below.refl _ _).grown G (by omega) (fun j hj => by injection hj; omega)
  exact ⟨h.x.kept G (some_ne (by omega)), O.stay _ _ _ _ _ _ _ h.s G (fun j hj => by injection hj with e; rw [← e]; exact hT), h.b.trans hb, h.d.below hb, Nat.le_trans h.z G.size⟩
theorem Ws.call {S : St} {w wr wn : World} {m m2 n n2 : Slots} {B T T' : Nat} {A : List Nat} {Kind Slot : Int} {aB : Option Addr} {lB cB : Nat} {fB : Nat → Int} (h : Ws S w m m2 B T A Kind Slot aB lB cB fB wr) (hA : w.heap.size ∈ A) (hB : B ≤ w.heap.size) (hs : S n n2 T' A wn) (hc : Ch2 B A wr wn) : Ws S w n n2 B T' A Kind Slot aB lB cB fB wn := by
  have hz := h.z
  have hb := hc.below (show B ≤ wr.heap.size by omega)
  exact ⟨hc.bx h.x hA, hs, h.b.trans hb, h.d.below hb, Nat.le_trans hz hc.size⟩
set_option maxRecDepth 100000 in
set_option maxHeartbeats 1000000 in
theorem write_any {mv rv : Option Addr} {B T : Nat} {S : St} (O : Orc mv rv B S) (m : Slots) (w : World) (hS : S m m T [] w) {Kind Slot : Int} {aB : Option Addr} {lB cB : Nat} {fB : Nat → Int} (hD : DoIn B w Kind Slot aB lB cB fB) :
    Calls Try.prog 24 #[.pointer mv, .pointer rv, .agg #[.int .i64 Kind, .int .i64 Slot, .slice aB lB cB]] w fun e w' => e = .returned (.bool true) ∧ (∃ m', S m' m' w'.heap.size [] w') ∧ Below B w w' := by
  obtain ⟨i0, hi, hz0, hz1, hz2⟩ := info_parts Try.infoU
  obtain ⟨m', er, hC1, hC2⟩ := O.write m Slot lB fB (by have := hD.l; unfold maxLen; omega) hD.ok
  have HC1 : Hid (∀ W m2 T A ao c, S m m2 T A W → Arg W ao lB fB → (∀ b off, ao = some ⟨b, off, none⟩ → lB = 0 ∨ b ∈ A) → Calls Try.prog 17 #[.pointer mv, .int .i64 Slot, .slice ao lB c] W fun e W' => e = .returned (.int .i64 er) ∧ S m' m2 T A W' ∧ Ch2 B A W W') := hC1
  have HC2 : Hid (∀ W m1 T A ao c, S m1 m T A W → Arg W ao lB fB → Calls Try.prog 30 #[.pointer rv, .int .i64 Slot, .slice ao lB c] W fun e W' => e = .returned (.int .i64 er) ∧ S m1 m' W'.heap.size A W' ∧ Ch2 B A W W') := hC2
  have HO : Hid (Orc mv rv B S) := O
  have HS : Hid (S m m T [] w) := hS
  have HD : Hid (DoIn B w Kind Slot aB lB cB fB) := hD
  have hl := hD.l
  obtain ⟨hBT, hT⟩ := O.size _ _ _ _ _ hS
  clear O hS hC1 hC2 hD
  have hbx := bx_new w #[.int .i64 Kind, .int .i64 Slot, .slice aB lB cB] 34
  have gbx := World.grownBy_alloc w (.cells #[.int .i64 Kind, .int .i64 Slot, .slice aB lB cB] 34) none
  have h1 : (w.alloc (.cells #[.int .i64 Kind, .int .i64 Slot, .slice aB lB cB] 34)).heap.size = w.heap.size + 1 := by simp
  generalize hw1 : w.alloc (.cells #[.int .i64 Kind, .int .i64 Slot, .slice aB lB cB] 34) = w1 at *
  have HW1 : Hid (w.alloc (.cells #[.int .i64 Kind, .int .i64 Slot, .slice aB lB cB] 34) = w1) := hw1
  have HBX : Hid (Bx w1 w.heap.size [.int .i64 Kind, .int .i64 Slot, .slice aB lB cB]) := hbx
  have HS1 : Hid (S m m T [] w1) := HO.out.grow HS.out gbx
  have hB1 : Below B w w1 := (Below.refl _ _).grown gbx (by omega) (by simp)
  have HD1 : Hid (DoIn B w1 Kind Slot aB lB cB fB) := HD.out.below hB1
  have HB1 : Hid (Below B w w1) := hB1
  have c2 := HBX.out.2 2 _ rfl
  clear hbx gbx HD HS hB1 hw1
  go_enter Try.func24, Try.ntmps24
  go_wp2_with (at_make; rw [HW1.out]; refine wpList_make_full w1 rfl _ _ 32 rfl w1.heap.size 5 i0 (.int .u8 0) 1 Try.underlying32 hi hz0 hz1 _ _ _ _ (lB + 20) rfl rfl rfl rfl (by rw [hz2]; omega) (by unfold maxLen; omega) (Nat.le_refl _) ?_; intro w2 hown2 hgrow2)
  rw [h1] at hown2
  have HY2 : Hid (By w2 (w.heap.size + 1) (lB + 20) (pg 0 (mrk lB fB))) := (made_By hown2).congr (fun i _ => by simp [pg])
  have HW2 : Hid (Ws S w m m B T [] Kind Slot aB lB cB fB w2) := ⟨HBX.out.kept hgrow2 (by simp), HO.out.grow HS1.out hgrow2, HB1.out.grown hgrow2 (by omega) (by simp), HD1.out.below ((Below.refl _ _).grown hgrow2 (by omega) (by simp)), HY2.out.1⟩
  have hBw : B ≤ w.heap.size := by omega
  clear hown2 hgrow2 HB1 HBX HS1 HD1 c2 HW1
  go_loopw [8] (fun i wr => ∃ k : Nat, k ≤ lB + 20 ∧ i = .int .i64 k ∧ By wr (w.heap.size + 1) (lB + 20) (pg k (mrk lB fB)) ∧ Ws S w m m B T [] Kind Slot aB lB cB fB wr) (fun i _ => lB + 20 - (iv i).toNat)
  case atStart => exact ⟨0, by omega, rfl, HY2.out, HW2.out⟩
  case round =>
    clear HY2 HW2
    obtain ⟨k, hk, rfl, hY, hW⟩ := hrel
    have HY : Hid (By wr (w.heap.size + 1) (lB + 20) (pg k (mrk lB fB))) := hY
    have HW : Hid (Ws S w m m B T [] Kind Slot aB lB cB fB wr) := hW
    have c2 := HW.out.x.2 2 _ rfl
    clear hY hW
    by_cases hlt : k < lB + 20
    · obtain ⟨x1, x2⟩ := HY.out.2 k hlt
      by_cases hin : k < lB
      · obtain ⟨b0, o0, rfl, hb0, hc0⟩ := HW.out.d.arg.lt (by omega)
        have d1 := hc0 k hin
        have hne : ¬ b0 = w.heap.size + 1 := by have := (HW.out.d.low b0 o0 rfl).resolve_left (by omega); omega
        clear hc0
        go_wp2
        go_roundw
        case rel =>
          refine ⟨k + 1, by omega, by go_num, ?_, (HW.out.set HO.out hBw (Or.inl (by omega)) k _).set HO.out hBw (Or.inl (by omega)) k _⟩
          refine ((HY.out.set k _).set k _).congr (fun i _ => ?_)
          rw [upd_upd, ← pg_next, mrk_in lB fB k hin]
        case measure => simp [iv]; omega
      · go_wp2
        go_roundw
        case rel =>
          refine ⟨k + 1, by omega, by go_num, ?_, HW.out.set HO.out hBw (Or.inl (by omega)) k _⟩
          refine (HY.out.set k _).congr (fun i _ => ?_)
          rw [← pg_next, mrk_out lB fB k hin]
        case measure => simp [iv]; omega
    · obtain rfl : k = lB + 20 := by omega
      have HY2 : Hid (By wr (w.heap.size + 1) (lB + 20) (mrk lB fB)) := HY.out.congr (fun i hi => by unfold pg; rw [if_pos hi])
      have HW2 : Hid (Ws S w m m B T [w.heap.size + 1, w.heap.size] Kind Slot aB lB cB fB wr) := ⟨HW.out.x, HO.out.add _ _ _ _ _ _ (HO.out.add _ _ _ _ _ _ HW.out.s hT (by have := HW.out.z; omega)) (by omega) (by have := HW.out.z; omega), HW.out.b, HW.out.d, HW.out.z⟩
      have c1 := HW.out.x.2 1 _ rfl
      clear HY HW hlt hk
      have HWd : Hid (Ws S w m m B T [w.heap.size + 1, w.heap.size] Kind Slot aB lB cB fB wr.drew) := ⟨HW2.out.x.kept (grown_drewN wr 1 none) (by simp), HO.out.grow HW2.out.s (grown_drewN wr 1 none), HW2.out.b.drew, HW2.out.d.below (Below.refl _ _).drew, HW2.out.z⟩
      have HYd : Hid (By wr.drew (w.heap.size + 1) (lB + 20) (mrk lB fB)) := HY2.out
      have HA0 : Hid (Arg wr.drew (some ⟨w.heap.size + 1, 0, none⟩) lB fB) := ((HYd.out.less (by omega)).arg).congr (fun i hi => mrk_in lB fB i hi)
      have hsl : (lB : Int) ≤ (lB : Int) + 20 := by omega
      go_wp2_with fail
      go_region_held3 (fun W => W.cell? ⟨w.heap.size, 1, none⟩ = some (.int .i64 Slot) ∧ W.cell? ⟨w.heap.size, 2, none⟩ = some (.slice aB lB cB))
        (first | exact ⟨HW3.out.x.2 1 _ rfl, HW3.out.x.2 2 _ rfl⟩ | exact ⟨HWd.out.x.2 1 _ rfl, HWd.out.x.2 2 _ rfl⟩)
        (first | (go_at_call 17; refine (HC1.out wr.drew m T [w.heap.size + 1, w.heap.size] _ _ HWd.out.s HA0.out (fun b off e => Or.inr (by cases e; simp))).mono ?_; rintro e w3 ⟨rfl, hS3, hch⟩; have HW3 : Hid (Ws S w m' m B T [w.heap.size + 1, w.heap.size] Kind Slot aB lB cB fB w3) := HWd.out.call (by simp) hBw hS3 hch; have HY3 : Hid (By w3 (w.heap.size + 1) (lB + 20) (mrk lB fB)) := hch.by' HYd.out (by simp); clear hS3 hch))
      clear HY2 HW2 HWd HYd HA0 hsl c1 c2 HC1
      have c1 := HW3.out.x.2 1 _ rfl
      have c2 := HW3.out.x.2 2 _ rfl
      go_wp2_with fail
      refine (HC2.out w3 m' T [w.heap.size + 1, w.heap.size] aB cB HW3.out.s HW3.out.d.arg).mono ?_
      rintro e w4 ⟨rfl, hS4, hch⟩
      have HW4 : Hid (Ws S w m' m' B w4.heap.size [w.heap.size + 1, w.heap.size] Kind Slot aB lB cB fB w4) := HW3.out.call (by simp) hBw hS4 hch
      have HY4 : Hid (By w4 (w.heap.size + 1) (lB + 20) (mrk lB fB)) := hch.by' HY3.out (by simp)
      have HTT : Hid (∃ T4, T4 = w4.heap.size) := ⟨_, rfl⟩
      obtain ⟨T4, hT4⟩ := HTT
      rw [← hT4] at HW4
      clear hS4 hch HW3 HY3 c1 c2 HC2 hT4
      go_wp2_with fail
      go_loopw [10] (fun i wr => ∃ (k : Nat) (u : Nat → Int), k ≤ lB + 20 ∧ i = .int .i64 k ∧ By wr (w.heap.size + 1) (lB + 20) u ∧ (∀ i, k ≤ i → u i = mrk lB fB i) ∧ Ws S w m' m' B T4 [w.heap.size + 1, w.heap.size] Kind Slot aB lB cB fB wr) (fun i _ => lB + 20 - (iv i).toNat)
      case atStart => exact ⟨0, _, by omega, rfl, HY4.out, fun _ _ => rfl, HW4.out⟩
      case round =>
        clear HY4 HW4
        obtain ⟨k, u, hk, rfl, hY, hu, hW⟩ := hrel
        have HY : Hid (By wr (w.heap.size + 1) (lB + 20) u) := hY
        have HU : Hid (∀ i, k ≤ i → u i = mrk lB fB i) := hu
        have HW : Hid (Ws S w m' m' B T4 [w.heap.size + 1, w.heap.size] Kind Slot aB lB cB fB wr) := hW
        have c2 := HW.out.x.2 2 _ rfl
        clear hY hW hu
        by_cases hlt : k < lB + 20
        · obtain ⟨x1, x2⟩ := HY.out.2 k hlt
          rw [HU.out k (Nat.le_refl _)] at x1
          by_cases hin : k < lB
          · obtain ⟨b0, o0, rfl, hb0, hc0⟩ := HW.out.d.arg.lt (by omega)
            have d1 := hc0 k hin
            rw [mrk_in lB fB k hin] at x1
            clear hc0
            generalize fB k = v at *
            go_wp2
            go_roundw
            case rel =>
              refine ⟨k + 1, _, by omega, by go_num, HY.out.set k _, fun i hi => ?_, HW.out.set HO.out hBw (Or.inr (by simp)) k _⟩
              unfold upd
              rw [if_neg (by omega)]
              exact HU.out i (by omega)
            case measure => simp [iv]; omega
          · rw [mrk_out lB fB k hin] at x1
            go_wp2
            go_roundw
            case rel =>
              refine ⟨k + 1, _, by omega, by go_num, HY.out.set k _, fun i hi => ?_, HW.out.set HO.out hBw (Or.inr (by simp)) k _⟩
              unfold upd
              rw [if_neg (by omega)]
              exact HU.out i (by omega)
            case measure => simp [iv]; omega
        · obtain rfl : k = lB + 20 := by omega
          go_wp2
          go_ret
          exact ⟨rfl, ⟨m', HO.out.up _ _ _ _ _ (HO.out.sub _ _ _ _ _ _ (HO.out.sub _ _ _ _ _ _ HW.out.s))⟩, HW.out.b⟩
end Go.Proofs.Ytimmckdghihcjaa
