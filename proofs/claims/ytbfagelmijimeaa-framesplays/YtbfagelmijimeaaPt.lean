/- The statement's look at one Put. -/
import Derived.Test.YtbfagelmijimeaaOrc
namespace Go.Proofs.Ytbfagelmijimeaa
open Go.ChangeShapes Go.WideShapes Go.ChangeAt Go.RowKit
set_option linter.unusedVariables false

def doV (Kind At Size V To From : Int) (aB : Option Addr) (lB cB : Nat) : List Value := [.int .i64 Kind, .int .u64 At, .int .i64 Size, .int .u64 V, .int .i64 To, .int .i64 From, .slice aB lB cB]
/-- What is known of a Do that came in. -/
structure DoIn (B : Nat) (W : World) (Kind At Size V To From : Int) (aB : Option Addr) (lB cB : Nat) (fB : Nat → Int) : Prop where
  kind : -9223372036854775808 ≤ Kind ∧ Kind < 9223372036854775808
  at' : 0 ≤ At ∧ At < 18446744073709551616
  size : -9223372036854775808 ≤ Size ∧ Size < 9223372036854775808
  v : 0 ≤ V ∧ V < 18446744073709551616
  to : -9223372036854775808 ≤ To ∧ To < 9223372036854775808
  from' : -9223372036854775808 ≤ From ∧ From < 9223372036854775808
  l : lB ≤ 140737488351232
  nil : aB = none → cB = 0
  arg : Arg W aB lB fB
  ok : okB lB fB
  low : ∀ b off, aB = some ⟨b, off, none⟩ → lB = 0 ∨ b < B
theorem DoIn.below {B : Nat} {W W' : World} {Kind At Size V To From : Int} {aB : Option Addr} {lB cB : Nat} {fB : Nat → Int} (h : DoIn B W Kind At Size V To From aB lB cB fB) (hb : Below B W W') : DoIn B W' Kind At Size V To From aB lB cB fB := by
  refine ⟨h.kind, h.at', h.size, h.v, h.to, h.from', h.l, h.nil, ?_, h.ok, h.low⟩
  rcases h.arg with h0 | ⟨b, off, e, hr⟩
  · exact Or.inl h0
  · by_cases h0 : lB = 0
    · exact Or.inl h0
    · have hlt := (h.low b off e).resolve_left h0
      exact Or.inr ⟨b, off, e, Nat.lt_of_lt_of_le hr.1 hb.size, fun i hi => (hb.cell hlt).trans (hr.2 i hi)⟩
theorem Chg.below {B T : Nat} {W W' : World} (h : Chg B T W W') (hB : B ≤ W.heap.size) : Below B W W' := by
  obtain ⟨row, g, hr⟩ := h
  exact (Below.refl _ _).grown g hB (fun j hj => (hr j hj).1)
theorem Chg.bx {B T X : Nat} {W W' : World} {vs : List Value} (h : Chg B T W W') (b : Bx W X vs) (hX : T ≤ X) : Bx W' X vs := by
  obtain ⟨row, g, hr⟩ := h
  exact b.kept g (fun e => by have := (hr X e.symm).2; omega)
theorem Chg.by' {B T X n : Nat} {W W' : World} {f : Nat → Int} (h : Chg B T W W') (b : By W X n f) (hX : T ≤ X) : By W' X n f := by
  obtain ⟨row, g, hr⟩ := h
  exact b.kept g (fun e => by have := (hr X e.symm).2; omega)
theorem Chg.size {B T : Nat} {W W' : World} (h : Chg B T W W') : W.heap.size ≤ W'.heap.size := by
  obtain ⟨row, g, hr⟩ := h
  exact g.size
theorem below_grow {w w' : World} (h : Below w.heap.size w w') : w.grownBy w' none := ⟨h.os, h.tape, h.output, h.size, fun i hi _ => h.block i hi⟩
set_option maxRecDepth 100000 in
set_option maxHeartbeats 4000000 in
theorem lput_any {mv rv : Option Addr} {B T : Nat} {S : St} (O : Orc mv rv B T S) (f : Nat → Int) (w : World) (hS : S f f w) {Kind At Size V To From : Int} {aB : Option Addr} {lB cB : Nat} {fB : Nat → Int} (hD : DoIn B w Kind At Size V To From aB lB cB fB) :
    Calls Try.prog 32 #[.pointer mv, .pointer rv, .agg (doV Kind At Size V To From aB lB cB).toArray] w fun e w' => e = .returned (.bool true) ∧ (∃ f', S f' f' w') ∧ Below B w w' := by
  obtain ⟨f', er, hC1, hC2⟩ := O.put f To lB fB (by have := hD.l; unfold maxLen; omega) hD.ok
  have HC1 : Hid (∀ W f2 ao c, S f f2 W → Arg W ao lB fB → Calls Try.prog 22 #[.pointer mv, .int .i64 To, .slice ao lB c] W fun e W' => e = .returned (.int .i64 er) ∧ S f' f2 W' ∧ Chg B T W W') := hC1
  have HC2 : Hid (∀ W f1 ao c, S f1 f W → Arg W ao lB fB → (∀ b off, ao = some ⟨b, off, none⟩ → lB = 0 ∨ b < B ∨ T ≤ b) → Calls Try.prog 38 #[.pointer rv, .int .i64 To, .slice ao lB c] W fun e W' => e = .returned (.int .i64 er) ∧ S f1 f' W' ∧ Chg B T W W') := hC2
  have HO : Hid (Orc mv rv B T S) := O
  have HS : Hid (S f f w) := hS
  have HD : Hid (DoIn B w Kind At Size V To From aB lB cB fB) := hD
  have hl := hD.l
  obtain ⟨hBT, hT⟩ := O.size _ _ _ hS
  clear O hS hC1 hC2 hD
  unfold doV
  have hbx := bx_new w #[.int .i64 Kind, .int .u64 At, .int .i64 Size, .int .u64 V, .int .i64 To, .int .i64 From, .slice aB lB cB] 35
  have gbx := World.grownBy_alloc w (.cells #[.int .i64 Kind, .int .u64 At, .int .i64 Size, .int .u64 V, .int .i64 To, .int .i64 From, .slice aB lB cB] 35) none
  have h1 : (w.alloc (.cells #[.int .i64 Kind, .int .u64 At, .int .i64 Size, .int .u64 V, .int .i64 To, .int .i64 From, .slice aB lB cB] 35)).heap.size = w.heap.size + 1 := by simp
  generalize hw1 : w.alloc (.cells #[.int .i64 Kind, .int .u64 At, .int .i64 Size, .int .u64 V, .int .i64 To, .int .i64 From, .slice aB lB cB] 35) = w1 at *
  have HW1 : Hid (w.alloc (.cells #[.int .i64 Kind, .int .u64 At, .int .i64 Size, .int .u64 V, .int .i64 To, .int .i64 From, .slice aB lB cB] 35) = w1) := hw1
  have HBX : Hid (Bx w1 w.heap.size [.int .i64 Kind, .int .u64 At, .int .i64 Size, .int .u64 V, .int .i64 To, .int .i64 From, .slice aB lB cB]) := hbx
  have HS1 : Hid (S f f w1) := HO.out.grow HS.out gbx
  have hB1 : Below B w w1 := (Below.refl _ _).grown gbx (by omega) (by simp)
  have HD1 : Hid (DoIn B w1 Kind At Size V To From aB lB cB fB) := HD.out.below hB1
  have HB1 : Hid (Below B w w1) := hB1
  clear hbx gbx HD HS hB1 hw1
  go_enter Try.func32, Try.ntmps32
  go_wp2_with fail
  rw [HW1.out]
  refine (spare_any lB cB fB hl aB HD1.out.nil w1 HD1.out.arg).mono ?_
  rintro e w2 ⟨g, c, rfl, hc, hcm, hb2, hg, hBy⟩
  have g2 := below_grow hb2
  have HS2 : Hid (S f f w2) := HO.out.grow HS1.out g2
  have HBX2 : Hid (Bx w2 w.heap.size _) := HBX.out.kept g2 (by simp)
  have s2 := hb2.size
  have hB2 : Below B w w2 := HB1.out.grown g2 (by omega) (by simp)
  have HD2 : Hid (DoIn B w2 Kind At Size V To From aB lB cB fB) := HD1.out.below ((Below.refl _ _).grown g2 (by omega) (by simp))
  have HBY2 : Hid (By w2 g (lB + 20) (mrk fB lB)) := hBy
  have HB2 : Hid (Below B w w2) := hB2
  have c4 := HBX2.out.2 4 _ rfl
  clear HBX HB1 hb2 g2 hBy hB2 HS1 HD1 HW1
  go_wp2_with fail
  refine (HC1.out w2 f (some ⟨g, 0, none⟩) c HS2.out ((HBY2.out.less (by omega)).arg.congr (fun i hi => mrk_in fB lB i hi))).mono ?_
  rintro e w3 ⟨rfl, hS3, hch⟩
  have HS3 : Hid (S f' f w3) := hS3
  have s3 := hch.size
  have HBX3 : Hid (Bx w3 w.heap.size _) := hch.bx HBX2.out hT
  have HBY3 : Hid (By w3 g (lB + 20) (mrk fB lB)) := hch.by' HBY2.out (by omega)
  have hb3 := hch.below (show B ≤ w2.heap.size by omega)
  have HD3 : Hid (DoIn B w3 Kind At Size V To From aB lB cB fB) := HD2.out.below hb3
  have HB3 : Hid (Below B w w3) := HB2.out.trans hb3
  clear hS3 hch hb3 c4 HS2 HBX2 HBY2 HD2 HB2
  have c4 := HBX3.out.2 4 _ rfl
  have c6 := HBX3.out.2 6 _ rfl
  go_wp2_with fail
  refine (HC2.out w3 f' aB cB HS3.out HD3.out.arg (fun b off e => (HD3.out.low b off e).imp id Or.inl)).mono ?_
  rintro e w4 ⟨rfl, hS4, hch⟩
  have HS4 : Hid (S f' f' w4) := hS4
  have s4 := hch.size
  have HBX4 : Hid (Bx w4 w.heap.size _) := hch.bx HBX3.out hT
  have HBY4 : Hid (By w4 g (lB + 20) (mrk fB lB)) := hch.by' HBY3.out (by omega)
  have hb4 := hch.below (show B ≤ w3.heap.size by omega)
  have HD4 : Hid (DoIn B w4 Kind At Size V To From aB lB cB fB) := HD3.out.below hb4
  have HB4 : Hid (Below B w w4) := HB3.out.trans hb4
  clear hS4 hch hb4 c4 c6 HS3 HBX3 HBY3 HD3 HB3
  have c6 := HBX4.out.2 6 _ rfl
  go_wp2_with fail
  refine (kept_any lB cB g c fB hl aB w4 HD4.out.arg hc hcm HBY4.out).mono ?_
  rintro e w5 ⟨rfl, gr5⟩
  have HS5 : Hid (S f' f' w5) := HO.out.grow HS4.out gr5
  have s5 := gr5.size
  have HB5 : Hid (Below B w w5) := HB4.out.grown gr5 (by omega) (by simp)
  have HBY5 : Hid (By w5 g lB _) := (HBY4.out.kept gr5 (by simp)).less (show lB ≤ lB + 20 by omega)
  clear gr5 c6 HS4 HBX4 HBY4 HD4 HB4
  unfold maxLen at hcm
  go_wp2_with fail
  go_loopw [9] (fun i wr => ∃ (j : Nat) (u : Nat → Int), j ≤ lB ∧ i = .int .i64 j ∧ S f' f' wr ∧ Below B w wr ∧ By wr g lB u ∧ B ≤ wr.heap.size) (fun i _ => lB - (intOf i).toNat)
  case atStart => exact ⟨0, _, by omega, rfl, HS5.out, HB5.out, HBY5.out, by omega⟩
  case round =>
    clear HS5 HB5 HBY5
    obtain ⟨j, u, hj, rfl, hS, hB, hY, hz⟩ := hrel
    have HS : Hid (S f' f' wr) := hS
    have HB : Hid (Below B w wr) := hB
    have HY : Hid (By wr g lB u) := hY
    clear hS hB hY
    by_cases hlt : j < lB
    · obtain ⟨x1, x2⟩ := HY.out.2 j hlt
      go_wp2
      go_roundw
      case rel =>
        have G := grown_setCell' wr g j (.int .u8 (bits BinOp.xor IntKind.u8 (if IntKind.u8.signed = true then -1 else IntKind.u8.max) (u j)))
        exact ⟨j + 1, _, by omega, by go_num, HO.out.stay _ _ _ _ _ HS.out G (fun t ht => by injection ht; omega), HB.out.grown G (by omega) (fun t ht => by injection ht; omega), HY.out.set j _, Nat.le_trans hz G.size⟩
      case measure => simp [intOf]; omega
    · obtain rfl : j = lB := by omega
      go_wp2
      go_ret
      exact ⟨rfl, ⟨f', HS.out⟩, HB.out⟩
end Go.Proofs.Ytbfagelmijimeaa
