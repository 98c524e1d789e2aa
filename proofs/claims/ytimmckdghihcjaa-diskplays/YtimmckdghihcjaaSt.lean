/- The law DiskStays walked. -/
import Derived.Test.YtimmckdghihcjaaWk
namespace Go.Proofs.Ytimmckdghihcjaa
open Go.ChangeShapes Go.WideShapes Go.ChangeAt Go.RowKit
set_option linter.unusedVariables false

def doV (Kind Slot : Int) (aB : Option Addr) (lB cB : Nat) : List Value := [.int .i64 Kind, .int .i64 Slot, .slice aB lB cB]
/-- What is known of a Do that came in. -/
structure DoIn (B : Nat) (W : World) (Kind Slot : Int) (aB : Option Addr) (lB cB : Nat) (fB : Nat → Int) : Prop where
  kind : -9223372036854775808 ≤ Kind ∧ Kind < 9223372036854775808
  slot : -9223372036854775808 ≤ Slot ∧ Slot < 9223372036854775808
  l : lB ≤ 140737488351232
  nil : aB = none → cB = 0
  arg : Arg W aB lB fB
  ok : okB lB fB
  low : ∀ b off, aB = some ⟨b, off, none⟩ → lB = 0 ∨ b < B
theorem DoIn.below {B : Nat} {W W' : World} {Kind Slot : Int} {aB : Option Addr} {lB cB : Nat} {fB : Nat → Int} (h : DoIn B W Kind Slot aB lB cB fB) (hb : Below B W W') : DoIn B W' Kind Slot aB lB cB fB := by
  refine ⟨h.kind, h.slot, h.l, h.nil, ?_, h.ok, h.low⟩
  rcases h.arg with h0 | ⟨b, off, e, hr⟩
  · exact Or.inl h0
  · by_cases h0 : lB = 0
    · exact Or.inl h0
    · have hlt := (h.low b off e).resolve_left h0
      exact Or.inr ⟨b, off, e, Nat.lt_of_lt_of_le hr.1 hb.size, fun i hi => (hb.cell hlt).trans (hr.2 i hi)⟩
/-- A list of Dos that came in. -/
def Dos (B : Nat) (W : World) (ao : Option Addr) (L : Nat) : Prop := ∀ i, i < L → ∃ (b off : Nat) (Kind Slot : Int) (aB : Option Addr) (lB cB : Nat) (fB : Nat → Int), ao = some ⟨b, off, none⟩ ∧ b < B ∧
  (∀ j v, (doV Kind Slot aB lB cB)[j]? = some v → W.cell? ⟨b, off + i * 3 + j, none⟩ = some v) ∧ DoIn B W Kind Slot aB lB cB fB
theorem Dos.below {B : Nat} {W W' : World} {ao : Option Addr} {L : Nat} (h : Dos B W ao L) (hb : Below B W W') : Dos B W' ao L := fun i hi => by
  obtain ⟨b, off, Kind, Slot, aB, lB, cB, fB, h1, h2, h3, h4⟩ := h i hi
  exact ⟨b, off, Kind, Slot, aB, lB, cB, fB, h1, h2, fun j v hv => (hb.cell h2).trans (h3 j v hv), h4.below hb⟩
theorem or3 {a b c p : Prop} (h : a ∨ b ∨ c) (ka : a → p) (kb : b → p) (kc : c → p) : p := by
  rcases h with h | h | h
  · exact ka h
  · exact kb h
  · exact kc h
/-- Some call on some other slot. -/
def Oth (w0 : World) (p b N : Nat) (m : Nat → Option (Nat → Int)) (s : Nat) (w' : World) : Prop := ∃ m', Dn w0 w' p b N m' ∧ m' s = m s
theorem pt_ne (m : Nat → Option (Nat → Int)) (j s : Nat) (h : Option (Nat → Int)) (hne : j ≠ s) : pt m j h s = m s := by unfold pt; rw [if_neg (fun e => hne e.symm)]
theorem Write_gen {w0 w : World} {p b N : Nat} {m : Nat → Option (Nat → Int)} (h : Dn w0 w p b N m) (k : Int) (s : Nat) (hk : k ≠ s) (g : Nat) (u : Nat → Int) (hB : By w g 256 u) (hu : okB 256 u) (hg : g ≠ b) :
    Calls Try.prog 17 #[.pointer (some ⟨p, 0, none⟩), .int .i64 k, .slice (some ⟨g, 0, none⟩) 256 256] w fun e w' => ∃ er, e = .returned (.int .i64 er) ∧ Oth w0 p b N m s w' := by
  by_cases h1 : 0 ≤ k ∧ k < N
  · obtain ⟨k, rfl⟩ := Int.eq_ofNat_of_zero_le h1.1
    refine (Write_ok h.d k (by omega) g 0 256 u hB.rd hu hg).mono ?_
    rintro e w' ⟨rfl, hD, gr⟩
    exact ⟨_, rfl, _, h.turn gr hD, pt_ne _ _ _ _ (by omega)⟩
  · refine (Write_no h.d k h1 _).mono ?_
    rintro e w' ⟨rfl, rfl⟩
    exact ⟨_, rfl, m, h, rfl⟩
theorem Read_gen {w0 w : World} {p b N : Nat} {m : Nat → Option (Nat → Int)} (h : Dn w0 w p b N m) (k : Int) (s : Nat) :
    Calls Try.prog 19 #[.pointer (some ⟨p, 0, none⟩), .int .i64 k] w fun e w' => ∃ v er, e = .returned (.tuple #[v, .int .i64 er]) ∧ Oth w0 p b N m s w' := by
  by_cases h1 : 0 ≤ k ∧ k < N
  · obtain ⟨k, rfl⟩ := Int.eq_ofNat_of_zero_le h1.1
    cases hm : m k with
    | none =>
      refine (Read_none h.d k (by omega) hm).mono ?_
      rintro e w' ⟨rfl, gr⟩
      exact ⟨_, _, rfl, m, h.grow gr, rfl⟩
    | some u =>
      refine (Read_ok h.d k u hm).mono ?_
      rintro e w' ⟨rfl, _, gr⟩
      exact ⟨_, _, rfl, m, h.grow gr, rfl⟩
  · refine (Read_no h.d k h1).mono ?_
    rintro e w' ⟨rfl, rfl⟩
    exact ⟨_, _, rfl, m, h, rfl⟩
theorem Erase_gen {w0 w : World} {p b N : Nat} {m : Nat → Option (Nat → Int)} (h : Dn w0 w p b N m) (k : Int) (s : Nat) (hk : k ≠ s) :
    Calls Try.prog 20 #[.pointer (some ⟨p, 0, none⟩), .int .i64 k] w fun e w' => ∃ er, e = .returned (.int .i64 er) ∧ Oth w0 p b N m s w' := by
  by_cases h1 : 0 ≤ k ∧ k < N
  · obtain ⟨k, rfl⟩ := Int.eq_ofNat_of_zero_le h1.1
    cases hm : m k with
    | none =>
      refine (Erase_none h.d k (by omega) hm).mono ?_
      rintro e w' ⟨rfl, gr⟩
      exact ⟨_, rfl, m, h.grow gr, rfl⟩
    | some u =>
      refine (Erase_ok h.d k u hm).mono ?_
      rintro e w' ⟨rfl, hD, gr⟩
      exact ⟨_, rfl, _, h.turn gr hD, pt_ne _ _ _ _ (by omega)⟩
  · refine (Erase_no h.d k h1).mono ?_
    rintro e w' ⟨rfl, rfl⟩
    exact ⟨_, rfl, m, h, rfl⟩
set_option maxRecDepth 100000 in
set_option maxHeartbeats 1000000 in
theorem stays_walk (w : World) (S : Int) (hs0 : -9223372036854775808 ≤ S) (hs1 : S < 9223372036854775808) (a1 : Option Addr) (l1 cc1 : Nat) (f1 : Nat → Int) (hl1 : l1 ≤ maxLen) (hA : Arg w a1 l1 f1) (hf1 : okB l1 f1) (ao : Option Addr) (L cap : Nat) (hL : L ≤ maxLen) (hD : Dos w.heap.size w ao L) :
    Calls Try.prog 4 #[.int .i64 S, .slice a1 l1 cc1, .slice ao L cap] w fun e w' => e = .returned (.bool true) ∧ Below w.heap.size w w' := by
  have HD : Hid (Dos w.heap.size w ao L) := hD
  have HA : Hid (Arg w a1 l1 f1) := hA
  have HF : Hid (okB 256 (pg l1 f1)) := hf1.pg
  have KS : Hid (∀ W, Calls Try.prog 16 #[.int .i64 S, .int .i64 5] W fun e W' => e = .returned (.int .i64 (S % 5)) ∧ W' = W) := fun W => kind_any S 5 (by omega) (by omega) hs0 hs1 W
  obtain ⟨s, hs⟩ : ∃ s : Nat, S % 5 = s := ⟨(S % 5).toNat, by omega⟩
  have hs5 : s < 5 := by omega
  rw [hs] at KS
  clear hD hA hf1 hs hs0 hs1
  have HM1 : Hid (l1 ≤ maxLen) := hl1
  unfold maxLen at hL hl1
  go_enter Try.func4, Try.ntmps4
  go_wp2_with fail
  refine (works_any w).mono ?_
  rintro e w1 ⟨rfl, hb1⟩
  have HB1 : Hid (Below w.heap.size w w1) := hb1
  clear hb1
  go_wp2_with fail
  refine (New_ok 5 (by omega) w1).mono ?_
  rintro e w2 ⟨p, b, rfl, hD, gr, hp, hb⟩
  have HD2 : Hid (Dn w w2 p b 5 (fun _ => none)) := ⟨hD, HB1.out.grown gr HB1.out.size (by simp), Nat.le_trans HB1.out.size hp, Nat.le_trans HB1.out.size hb⟩
  clear hD gr HB1 hp hb
  go_wp2_with fail
  refine (KS.out w2).mono ?_
  rintro e w3 ⟨rfl, hw⟩
  rw [hw]
  clear hw w3 KS
  go_wp2_with fail
  refine (page_any HM1.out (HA.out.below HD2.out.be)).mono ?_
  rintro e w4 ⟨g, rfl, hB, hg, gr⟩
  have HD4 : Hid (Dn w w4 p b 5 (fun _ => none)) := HD2.out.grow gr
  have HB4 : Hid (By w4 g 256 (pg l1 f1)) := hB
  have hgb : g ≠ b := by have := HD2.out.d.mp.lt; omega
  clear gr hB hg HD2
  go_wp2_with fail
  refine (Write_ok HD4.out.d s hs5 g 0 256 _ HB4.out.rd HF.out hgb).mono ?_
  rintro e w5 ⟨rfl, hD, gr⟩
  have HD5 : Hid (Dn w w5 p b 5 (pt (fun _ => none) s (some (pg l1 f1)))) := HD4.out.turn gr hD
  clear gr hD hgb HB4 HD4
  go_wp2_with fail
  go_loopw [9] (fun i wr => ∃ (k : Nat) (m : Nat → Option (Nat → Int)), k ≤ L ∧ k ≤ 40 ∧ i = .int .i64 k ∧ Dn w wr p b 5 m ∧ m s = some (pg l1 f1)) (fun i _ => 40 - (iv i).toNat)
  case atStart => exact ⟨0, _, by omega, by omega, rfl, HD5.out, by simp [pt]⟩
  case round =>
    clear HD5
    obtain ⟨k, m, hk1, hk2, rfl, hDn, hm⟩ := hrel
    have HDn : Hid (Dn w wr p b 5 m) := hDn
    have HM : Hid (m s = some (pg l1 f1)) := hm
    clear hDn hm
    by_cases hlt : k < L ∧ k < 40
    · obtain ⟨t1, t2⟩ := hlt
      obtain ⟨b0, off, Kind, Slot, aB, lB, cB, fB, rfl, hb, hcell, hDo⟩ := (HD.out.below HDn.out.be) k t1
      have HDo : Hid (DoIn w.heap.size wr Kind Slot aB lB cB fB) := hDo
      have c0 := hcell 0 _ rfl
      have c1 := hcell 1 _ rfl
      have c2 := hcell 2 _ rfl
      rw [Nat.add_zero] at c0
      have K1 : Hid (Calls Try.prog 16 #[.int .i64 Slot, .int .i64 5] wr fun e W' => e = .returned (.int .i64 (Slot % 5)) ∧ W' = wr) := kind_any Slot 5 (by omega) (by omega) hDo.slot.1 hDo.slot.2 wr
      have K2 : Hid (Calls Try.prog 16 #[.int .i64 Kind, .int .i64 3] wr fun e W' => e = .returned (.int .i64 (Kind % 3)) ∧ W' = wr) := kind_any Kind 3 (by omega) (by omega) hDo.kind.1 hDo.kind.2 wr
      obtain ⟨o5, ho5⟩ : ∃ o, o = Slot % 5 := ⟨_, rfl⟩
      obtain ⟨r, hr, r1, r2⟩ : ∃ r, Slot.tmod 7 = r ∧ -7 < r ∧ r < 7 := ⟨_, rfl, Int.lt_tmod_of_pos Slot (by omega), Int.tmod_lt_of_pos Slot (by omega)⟩
      obtain ⟨k3, hk3⟩ : ∃ o, o = Kind % 3 := ⟨_, rfl⟩
      have q1 : 0 ≤ k3 ∧ k3 < 3 := by omega
      have q2 : 0 ≤ o5 ∧ o5 < 5 := by omega
      rw [← ho5] at K1
      rw [← hk3] at K2
      clear hcell hDo ho5 hk3
      go_wp2_with fail
      refine K1.out.mono ?_
      rintro e w6 ⟨rfl, hw⟩
      rw [hw]
      clear hw w6 K1
      rcases (show (o5 = (s : Int) ∧ 0 ≤ -1 - r) ∨ (o5 = (s : Int) ∧ ¬ 0 ≤ -1 - r) ∨ o5 ≠ (s : Int) by omega) with ⟨ho, hr0⟩ | ⟨ho, hr0⟩ | ho
      case' inl =>
        rw [ho]
        have HNE : Hid ((-1 : Int) ≠ s) := by unfold Hid; omega
        go_wp2_with fail
      case' inr.inl =>
        rw [ho]
        have HNE : Hid (-1 - r ≠ (s : Int)) := by unfold Hid; omega
        go_wp2_with fail
      case' inr.inr =>
        have HNE : Hid (o5 ≠ (s : Int)) := ho
        go_wp2_with fail
      all_goals (
        refine K2.out.mono ?_
        rintro e w7 ⟨rfl, hw⟩
        rw [hw]
        clear hw w7 K2
        apply or3 (show k3 = 0 ∨ k3 = 1 ∨ k3 = 2 by omega)
        case' ka =>
          intro hk3
          rw [hk3]
          go_wp2_with fail
          refine (page_any (by have := HDo.out.l; unfold maxLen; omega) HDo.out.arg).mono ?_
          rintro e w8 ⟨g8, rfl, hB, hg, gr⟩
          have HD8 : Hid (Dn w w8 p b 5 m) := HDn.out.grow gr
          have HB8 : Hid (By w8 g8 256 (pg lB fB)) := hB
          have hgb : g8 ≠ b := by have := HDn.out.d.mp.lt; omega
          clear gr hB hg
          go_wp2_with fail
          refine (Write_gen HD8.out _ s HNE.out g8 _ HB8.out HDo.out.ok.pg hgb).mono ?_
          rintro e w9 ⟨er, rfl, m', hD9, hm9⟩
          have HD9 : Hid (Dn w w9 p b 5 m') := hD9
          have HM9 : Hid (m' s = some (pg l1 f1)) := hm9.trans HM.out
          clear hD9 hm9 HD8 HB8 hgb
          go_wp2_with fail
        case' kb =>
          intro hk3
          rw [hk3]
          go_wp2_with fail
          refine (Read_gen HDn.out _ s).mono ?_
          rintro e w9 ⟨v, er, rfl, m', hD9, hm9⟩
          have HD9 : Hid (Dn w w9 p b 5 m') := hD9
          have HM9 : Hid (m' s = some (pg l1 f1)) := hm9.trans HM.out
          clear hD9 hm9
          go_wp2_with fail
        case' kc =>
          intro hk3
          rw [hk3]
          go_wp2_with fail
          refine (Erase_gen HDn.out _ s HNE.out).mono ?_
          rintro e w9 ⟨er, rfl, m', hD9, hm9⟩
          have HD9 : Hid (Dn w w9 p b 5 m') := hD9
          have HM9 : Hid (m' s = some (pg l1 f1)) := hm9.trans HM.out
          clear hD9 hm9
          go_wp2_with fail
        all_goals (
          refine (Read_ok HD9.out.d s (pg l1 f1) HM9.out).mono ?_
          rintro e w10 ⟨rfl, hB, gr⟩
          have HD10 : Hid (Dn w w10 p b 5 m') := HD9.out.grow gr
          have HB10 : Hid (By w10 w9.heap.size 256 (pg l1 f1)) := hB
          clear gr hB
          go_wp2_with fail
          refine (page_any HM1.out (HA.out.below HD10.out.be)).mono ?_
          rintro e w11 ⟨g11, rfl, hB, hg, gr⟩
          have HD11 : Hid (Dn w w11 p b 5 m') := HD10.out.grow gr
          have HB11 : Hid (By w11 g11 256 (pg l1 f1)) := hB
          have HB12 : Hid (By w11 w9.heap.size 256 (pg l1 f1)) := HB10.out.kept gr (by simp)
          clear gr hB hg HB10
          go_wp2_with fail
          refine (same_any (by unfold maxLen; omega) HB12.out.arg HB11.out.arg).mono ?_
          rintro e w12 ⟨rfl, gr⟩
          have HD12 : Hid (Dn w w12 p b 5 m') := HD11.out.grow gr
          clear gr HB11 HB12
          go_wp2
          go_roundw
          case rel => exact ⟨k + 1, m', by omega, by omega, by go_num, HD12.out, HM9.out⟩
          case measure => simp [iv]; omega))
    · rcases (show k < L ∧ ¬ k < 40 ∨ ¬ k < L by omega) with ⟨t1, t2⟩ | t1 <;> (
        go_wp2_with fail
        refine (Erase_ok HDn.out.d s (pg l1 f1) HM.out).mono ?_
        rintro e w6 ⟨rfl, hD6, gr⟩
        have HD6 : Hid (Dn w w6 p b 5 (pt m s none)) := HDn.out.turn gr hD6
        clear hD6 gr
        go_wp2_with fail
        refine (Read_none HD6.out.d s hs5 (by simp [pt])).mono ?_
        rintro e w7 ⟨rfl, gr⟩
        have HD7 : Hid (Dn w w7 p b 5 (pt m s none)) := HD6.out.grow gr
        clear gr
        go_wp2_with fail
        refine (Erase_none HD7.out.d s hs5 (by simp [pt])).mono ?_
        rintro e w8 ⟨rfl, gr⟩
        have HD8 : Hid (Dn w w8 p b 5 (pt m s none)) := HD7.out.grow gr
        clear gr
        go_wp2
        go_ret
        exact ⟨rfl, HD8.out.be⟩)
end Go.Proofs.Ytimmckdghihcjaa
