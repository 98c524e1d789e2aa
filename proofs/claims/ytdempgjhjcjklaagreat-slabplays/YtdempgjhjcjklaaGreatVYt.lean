/- stand of the statements: where both sides are of one state it answers true; no condition but those that each theorem names. -/
import Derived.Test.YtdempgjhjcjklaaGreatVYs
import Derived.Test.YtdempgjhjcjklaaGreatVXe
import Derived.Test.YtdempgjhjcjklaaGreatVSg
import Derived.Deep.RegionHeldLaw
import Derived.Deep.QuietTactic
import Derived.BigQuiet
namespace Go.Proofs.YtdempgjhjcjklaaGreat.P
open B Go.ChangeShapes Go.WideShapes Go.ChangeAt Go.RowKit
set_option linter.unusedVariables false
set_option maxRecDepth 8192

theorem hel_le (u : Nat) (mk : Ms) : (hel u mk).length ≤ 65536 := by
  have h1 := hlf_len u mk (fl mk) (fl mk).length
  have h2 : hlf u mk (fl mk) (fl mk).length = hel u mk := by
    unfold hlf
    rw [List.take_length]
    exact hel_fl u mk
  have h3 : (fl mk).length ≤ 4096 := asc_le (fl_asc mk) (fun x hx => (mem_fl.1 hx).1)
  rw [h2] at h1
  omega
def Wu (w : World) (ao : Option Addr) (n : Nat) : Prop := ∀ i, i < n → ∃ g, ao = some ⟨g, 0, none⟩ ∧ g < w.heap.size ∧ (∃ a : Int, w.cell? ⟨g, i, none⟩ = some (.int .u64 a)) ∧ w.frozen? ⟨g, i, none⟩ = false
theorem Wu.set {w : World} {g n : Nat} (h : Wu w (some ⟨g, 0, none⟩) n) (j : Nat) (x : Int) : Wu (w.setCell ⟨g, j, none⟩ (.int .u64 x)) (some ⟨g, 0, none⟩) n := fun i hi => by
  obtain ⟨g', e, h1, ⟨a, h2⟩, h3⟩ := h i hi
  cases e
  refine ⟨g, rfl, by simpa [World.setCell] using h1, ?_, by rw [World.frozen?_setCell]; exact h3⟩
  by_cases e : i = j
  · subst e
    exact ⟨x, World.cell?_setCell_same _ _ _ h2⟩
  · exact ⟨a, by rw [World.cell?_setCell_other _ _ _ _ (by intro q; cases q; exact e rfl)]; exact h2⟩
theorem Iu.wu {w : World} {base : Nat} {l : List Int} {ao : Option Addr} {n c : Nat} (hn : l.length = n) (h : Iu w base (.slice ao n c) l) : Wu w ao n := fun i hi => by
  rcases h.2 with ⟨h1, h2⟩ | ⟨g, cap, cur, h1, h2, h3, h4, h5, h6, h7⟩
  · omega
  · simp only [Value.slice.injEq] at h1
    obtain ⟨e1, e2, e3⟩ := h1
    refine ⟨g, e1, (Array.getElem?_eq_some_iff.1 h3).1, ⟨l.getD i 0, ?_⟩, ?_⟩
    · rw [cell_of_row w g i _ _ (0, 0) h3]
      have e1 : (cur.toList.take (l.length * 1))[i]? = cur.toList[i]? := by rw [List.getElem?_take]; simp [hn, hi]
      rw [h7] at e1
      rw [← Array.getElem?_toList, ← e1]
      have : i < l.length := by omega
      simp [U.vs, List.getElem?_eq_getElem this, List.getD_eq_getElem?_getD]
    · simp [World.frozen?, h3]
theorem eql7 (x y z t r s u : Int) (W : World) : (binOp .eql 66 (.agg #[.int .i64 x, .int .i64 y, .int .i64 z, .int .i64 t, .int .i64 r, .int .i64 s, .int .i64 u]) (.agg #[.int .i64 x, .int .i64 y, .int .i64 z, .int .i64 t, .int .i64 r, .int .i64 s, .int .i64 u])).run Tryz.prog W = .ok (.bool true) W := by
  obtain ⟨i, hi⟩ : ∃ i, Tryz.prog.info? 3 = some i := Option.isSome_iff_exists.1 (by kernel_rfl)
  have hc : Tryz.prog.cellsOf 3 = 1 := by kernel_rfl
  rw [run_eql_struct, show (10000 : Nat) = 9999 + 1 from rfl, run_equalIn_array W 9999 _ _ (Tryz.underlying66) hi, hc]
  simp [Op.eqItems, List.range, List.range.loop, go_sem, part, Tryz.underlying3]
set_option maxHeartbeats 4000000 in
theorem stand_ok {w0 w : World} {x p q : Nat} {s r u : Nat → Nat} {P : Par} {us : Us} {mk : Nat → Ms} {FP FQ : Nat → Prop} {v : Nat → Value} {l : Nat → List Int} {kb : Option (Nat × List Value)} (h : Tz w0 w x p q s r u P us mk us mk FP FQ v l kb) : Calls Tryz.prog 10 #[.pointer (some ⟨x, 0, none⟩)] w (One (.bool true) w) := by
  have HT : Hid (∀ W, Below w.heap.size w W → Tz w0 W x p q s r u P us mk us mk FP FQ v l kb) := fun W hW => h.of_eq hW
  have CH : Hid (∀ i, i < 2 → ∀ W, Below w.heap.size w W → Calls Tryz.prog 20 #[.pointer (some ⟨s i, 0, none⟩)] W fun e w' => ∃ v, e = .returned v ∧ Iu w' W.heap.size v (hel (u i) (mk i)) ∧ Below W.heap.size W w') := fun i hi W hW => by
    obtain ⟨b, F, hp⟩ := (HT.out W hW).pr
    exact SHeld_s (hp.sl i hi)
  have RH : Hid (∀ i, i < 2 → ∀ W, Below w.heap.size w W → Calls Tryz.prog 38 #[.pointer (some ⟨r i, 0, none⟩)] W fun e w' => ∃ v, e = .returned v ∧ Iu w' W.heap.size v (hel (u i) (mk i)) ∧ Below W.heap.size W w') := fun i hi W hW => (HT.out W hW).rr.held hi
  have CC : Hid (∀ W, Below w.heap.size w W → Calls Tryz.prog 39 #[.pointer (some ⟨p, 0, none⟩)] W (One (.agg #[.int .i64 (cN P us 0 : Nat), .int .i64 (cN P us 1 : Nat), .int .i64 (cN P us 2 : Nat), .int .i64 (cN P us 3 : Nat), .int .i64 (cN P us 4 : Nat), .int .i64 (cN P us 5 : Nat), .int .i64 (cN P us 6 : Nat)]) W)) := fun W hW => by
    obtain ⟨b, F, hp⟩ := (HT.out W hW).pr
    exact Counts_p hp.po
  have RC : Hid (∀ W, Below w.heap.size w W → Calls Tryz.prog 40 #[.pointer (some ⟨q, 0, none⟩)] W (One (.agg #[.int .i64 (cN P us 0 : Nat), .int .i64 (cN P us 1 : Nat), .int .i64 (cN P us 2 : Nat), .int .i64 (cN P us 3 : Nat), .int .i64 (cN P us 4 : Nat), .int .i64 (cN P us 5 : Nat), .int .i64 (cN P us 6 : Nat)]) W)) := fun W hW => by
    obtain ⟨F, hr⟩ := (HT.out W hW).rr.ro
    exact rCounts_p hr
  have CO : Hid (∀ W, Below w.heap.size w W → Calls Tryz.prog 42 #[.pointer (some ⟨p, 0, none⟩)] W fun e w' => ∃ v, e = .returned v ∧ Os w' W.heap.size v us (B.us 4096 us) ∧ Below W.heap.size W w') := fun W hW => by
    obtain ⟨b, F, hp⟩ := (HT.out W hW).pr
    exact Owned_p hp.po
  have RO : Hid (∀ W, Below w.heap.size w W → Calls Tryz.prog 43 #[.pointer (some ⟨q, 0, none⟩)] W fun e w' => ∃ v, e = .returned v ∧ Os w' W.heap.size v us (B.us 4096 us) ∧ Below W.heap.size W w') := fun W hW => by
    obtain ⟨F, hr⟩ := (HT.out W hW).rr.ro
    exact rOwned_p hr
  have HC : Hid (∀ W, Below w.heap.size w W → W.cell? ⟨x, 0, none⟩ = some (.pointer (some ⟨p, 0, none⟩)) ∧ W.cell? ⟨x, 1, none⟩ = some (.pointer (some ⟨q, 0, none⟩)) ∧ ∀ i, i < 2 → W.cell? ⟨x, 2 + i, none⟩ = some (.pointer (some ⟨s i, 0, none⟩)) ∧ W.cell? ⟨x, 4 + i, none⟩ = some (.pointer (some ⟨r i, 0, none⟩)) ∧ W.cell? ⟨x, 6 + i, none⟩ = some (v i)) := fun W hW => (HT.out W hW).cells
  have hul : (B.us 4096 us).length ≤ 4096 := lO_len (some us)
  have h7 := eql7 (cN P us 0 : Nat) (cN P us 1 : Nat) (cN P us 2 : Nat) (cN P us 3 : Nat) (cN P us 4 : Nat) (cN P us 5 : Nat) (cN P us 6 : Nat)
  clear h
  generalize cN P us 0 = n0 at *
  generalize cN P us 1 = n1 at *
  generalize cN P us 2 = n2 at *
  generalize cN P us 3 = n3 at *
  generalize cN P us 4 = n4 at *
  generalize cN P us 5 = n5 at *
  generalize cN P us 6 = n6 at *
  go_enter Tryz.func10, Tryz.ntmps10
  go_wp2
  go_loopw [3] (fun z wr => ∃ i : Nat, z = .int .i64 i ∧ i ≤ 2 ∧ Below w.heap.size w wr) (fun z _ => 2 - (B.iv z).toNat)
  case atStart => exact ⟨0, rfl, by omega, Below.refl _ _⟩
  case round =>
    obtain ⟨i, rfl, hi, hB⟩ := hrel
    have HB : Hid (Below w.heap.size w wr) := hB
    clear hB
    by_cases hi2 : i < 2
    · have hiI : (i : Int) < 2 := by omega
      have hi0 : (0 : Int) ≤ (i : Int) := by omega
      have HI2 : Hid (i < 2) := hi2
      obtain ⟨L, hL⟩ : ∃ L, hel (u i) (mk i) = L := ⟨_, rfl⟩
      have hLl : L.length ≤ 65536 := by rw [← hL]; exact hel_le _ _
      have C1 : Hid (∀ W, Below w.heap.size w W → Calls Tryz.prog 20 #[.pointer (some ⟨s i, 0, none⟩)] W fun e w' => ∃ v, e = .returned v ∧ Iu w' W.heap.size v L ∧ Below W.heap.size W w') := fun W hW => by rw [← hL]; exact CH.out i HI2.out W hW
      have R1 : Hid (∀ W, Below w.heap.size w W → Calls Tryz.prog 38 #[.pointer (some ⟨r i, 0, none⟩)] W fun e w' => ∃ v, e = .returned v ∧ Iu w' W.heap.size v L ∧ Below W.heap.size W w') := fun W hW => by rw [← hL]; exact RH.out i HI2.out W hW
      have hc2 := ((HC.out _ HB.out).2.2 i hi2).1
      clear hL
      go_wp2
      go_region_held3 (fun W => W.cell? ⟨x, 2 + i, none⟩ = some (.pointer (some ⟨s i, 0, none⟩)))
        (first | exact hc2 | exact HS1.out | exact HS2.out)
        (first
          | (go_at_call 20; refine (C1.out _ HB1.out).mono ?_; rintro e w2 ⟨v2, rfl, hI2, hb2⟩; have HB2 : Hid (Below w.heap.size w w2) := HB1.out.trans (hb2.mono HB1.out.size); have HS2 : Hid (w2.cell? ⟨x, 2 + i, none⟩ = some (.pointer (some ⟨s i, 0, none⟩))) := ((HC.out _ HB2.out).2.2 i HI2.out).1; have HA : Hid (Iu w2 w.heap.size v1 L) := HI1.out.below hb2; have HBb : Hid (Iu w2 w.heap.size v2 L) := hI2.less HB1.out.size; have HD : Hid (∀ y, v1.ownBlock = some y → v2.ownBlock ≠ some y) := fun y h1 h2 => Nat.lt_irrefl _ (Nat.lt_of_lt_of_le (HI1.out.lt y h1).2 (hI2.lt y h2).1); clear hI2 hb2)
          | (go_at_call 20; refine (C1.out _ (by first | exact HB.out.drew | exact HB.out)).mono ?_; rintro e w1 ⟨v1, rfl, hI1, hb1⟩; have HB1 : Hid (Below w.heap.size w w1) := (by first | exact HB.out.drew.trans (hb1.mono HB.out.size) | exact HB.out.trans (hb1.mono HB.out.size)); have HS1 : Hid (w1.cell? ⟨x, 2 + i, none⟩ = some (.pointer (some ⟨s i, 0, none⟩))) := ((HC.out _ HB1.out).2.2 i HI2.out).1; have HI1 : Hid (Iu w1 w.heap.size v1 L) := hI1.less HB.out.size; clear hI1 hb1))
      clear HS1 HS2 HI1 HB1 hc2 C1
      have hc4 := ((HC.out _ HB2.out).2.2 i hi2).2.1
      go_wp2_with fail
      refine (R1.out _ HB2.out).mono ?_
      rintro e w3 ⟨v3, rfl, hI3, hb3⟩
      have HB3 : Hid (Below w.heap.size w w3) := HB2.out.trans (hb3.mono HB2.out.size)
      have HA3 : Hid (Iu w3 w.heap.size v1 L) := HA.out.below hb3
      have HBb3 : Hid (Iu w3 w.heap.size v2 L) := HBb.out.below hb3
      have CS : Hid (Calls _ _ _ _ _) := same_iu HA3.out hI3 (by omega)
      clear hI3 hb3 HA HBb HB2 hc4
      go_wp2_with fail
      refine CS.out.mono ?_
      rintro e w4 ⟨rfl, hb4⟩
      have HB4 : Hid (Below w.heap.size w w4) := HB3.out.trans (hb4.mono HB3.out.size)
      have HA4 : Hid (Iu w4 w.heap.size v1 L) := HA3.out.below hb4
      have HBb4 : Hid (Iu w4 w.heap.size v2 L) := HBb3.out.below hb4
      clear hb4 CS HA3 HBb3 HB3
      obtain ⟨a1, c1, rfl, _⟩ := HA4.out.au
      have HW4 : Hid (Wu w4 a1 L.length) := HA4.out.wu rfl
      have HAl : Hid (∀ y, a1 = some ⟨y, 0, none⟩ → w.heap.size ≤ y) := fun y e => (HA4.out.lt y (by rw [e]; rfl)).1
      have HD' : Hid (∀ y, a1 = some ⟨y, 0, none⟩ → v2.ownBlock ≠ some y) := fun y e => HD.out y (by rw [e]; rfl)
      clear HA4 HD
      go_wp2
      go_loopw [6] (fun z wx => ∃ j : Nat, z = .int .i64 j ∧ j ≤ L.length ∧ Below w.heap.size w wx ∧ Wu wx a1 L.length ∧ Iu wx w.heap.size v2 L) (fun z _ => L.length - (B.iv z).toNat)
      case atStart => exact ⟨0, rfl, by omega, HB4.out, HW4.out, HBb4.out⟩
      case round =>
        clear HB4 HW4 HBb4
        obtain ⟨j, rfl, hj, h1, h2, h3⟩ := hrel
        have HB5 : Hid (Below w.heap.size w wr) := h1
        have HW5 : Hid (Wu wr a1 L.length) := h2
        have HI5 : Hid (Iu wr w.heap.size v2 L) := h3
        clear h1 h2 h3
        by_cases hjl : j < L.length
        · have hjI : (j : Int) < (L.length : Int) := by omega
          obtain ⟨y, rfl, h4, ⟨a, h5⟩, h6⟩ := HW5.out j hjl
          have HB6 : Hid (Below w.heap.size w (wr.setCell ⟨y, j, none⟩ (.int .u64 1))) := HB5.out.setCell (HAl.out y rfl) _
          have HW6 : Hid (Wu (wr.setCell ⟨y, j, none⟩ (.int .u64 1)) (some ⟨y, 0, none⟩) L.length) := HW5.out.set j 1
          have HI6 : Hid (Iu (wr.setCell ⟨y, j, none⟩ (.int .u64 1)) w.heap.size v2 L) := HI5.out.of_eq (fun g hg => (grown_setCell' wr y j _).block g (HI5.out.lt g hg).2 (some_ne (fun e => HD'.out y rfl (e ▸ hg))))
          go_wp2
          go_roundw
          case rel => exact ⟨j + 1, by go_num, by omega, HB6.out, HW6.out, HI6.out⟩
          case measure => simp [B.iv]; omega
        · have hjn : j = L.length := by omega
          have hjI : ¬ (j : Int) < (L.length : Int) := by omega
          have hc4 := ((HC.out _ HB5.out).2.2 i hi2).2.1
          clear hjn
          go_wp2_with fail
          refine (R1.out _ HB5.out).mono ?_
          rintro e w6 ⟨v6, rfl, hI6, hb6⟩
          have HB6 : Hid (Below w.heap.size w w6) := HB5.out.trans (hb6.mono HB5.out.size)
          have CS : Hid (Calls _ _ _ _ _) := same_iu (HI5.out.below hb6) hI6 (by omega)
          clear hI6 hb6 hc4
          go_wp2_with fail
          refine CS.out.mono ?_
          rintro e w7 ⟨rfl, hb7⟩
          have HB7 : Hid (Below w.heap.size w w7) := HB6.out.trans (hb7.mono HB6.out.size)
          clear hb7 CS HB6 HB5
          go_wp2
          go_roundw
          case rel => exact ⟨i + 1, by go_num, by omega, HB7.out⟩
          case measure => simp [B.iv]; omega
    · obtain rfl : i = 2 := by omega
      have hc0 := (HC.out _ HB.out).1
      have hc1 := (HC.out _ HB.out).2.1
      rw [show ((2 : Nat) : Int) = 2 from rfl]
      go_wp2
      go_region_held3 (fun W => W.cell? ⟨x, 0, none⟩ = some (.pointer (some ⟨p, 0, none⟩)) ∧ W.cell? ⟨x, 1, none⟩ = some (.pointer (some ⟨q, 0, none⟩)))
        (first | exact ⟨hc0, hc1⟩ | exact ⟨(HC.out _ HB1.out).1, (HC.out _ HB1.out).2.1⟩ | exact ⟨(HC.out _ HB2.out).1, (HC.out _ HB2.out).2.1⟩ | exact ⟨(HC.out _ HB3.out).1, (HC.out _ HB3.out).2.1⟩ | exact ⟨(HC.out _ HB4.out).1, (HC.out _ HB4.out).2.1⟩ | exact ⟨(HC.out _ HB5.out).1, (HC.out _ HB5.out).2.1⟩)
        (first
          | (go_at_call 39; refine (CC.out _ (by first | exact HB.out.drew | exact HB.out)).mono ?_; rintro e w1 ⟨rfl, hb1⟩; have HB1 : Hid (Below w.heap.size w w1) := (by first | exact HB.out.drew.trans (hb1.mono HB.out.size) | exact HB.out.trans (hb1.mono HB.out.size)); clear hb1)
          | (go_at_call 40; refine (RC.out _ HB1.out).mono ?_; rintro e w2 ⟨rfl, hb2⟩; have HB2 : Hid (Below w.heap.size w w2) := HB1.out.trans (hb2.mono HB1.out.size); clear hb2)
          | (go_at_call 42; refine (CO.out _ HB2.out).mono ?_; rintro e w3 ⟨v3, rfl, hI3, hb3⟩; have HB3 : Hid (Below w.heap.size w w3) := HB2.out.trans (hb3.mono HB2.out.size); have HI3 : Hid (Os w3 w2.heap.size v3 us (B.us 4096 us)) := hI3; clear hb3 hI3)
          | (go_at_call 43; refine (RO.out _ HB3.out).mono ?_; rintro e w4 ⟨v4, rfl, hI4, hb4⟩; have HB4 : Hid (Below w.heap.size w w4) := HB3.out.trans (hb4.mono HB3.out.size); have CS : Hid (Calls _ _ _ _ _) := sameOwned_any hul (HI3.out.below hb4) hI4; clear hb4 hI4)
          | (go_at_call 41; refine CS.out.mono ?_; rintro e w5 ⟨rfl, hb5⟩; have HB5 : Hid (Below w.heap.size w w5) := HB4.out.trans (hb5.mono HB4.out.size); clear hb5))
      go_wp2
      go_ret
      exact ⟨rfl, HB5.out⟩
end Go.Proofs.YtdempgjhjcjklaaGreat.P
namespace Go.Proofs.YtdempgjhjcjklaaGreat.P
open B Go.ChangeShapes Go.WideShapes Go.ChangeAt Go.RowKit
set_option linter.unusedVariables false
set_option maxRecDepth 8192

theorem TkS.lt {P : Par} {u : Nat} {us : Us} {mk : Ms} {a e : Nat} {us' : Us} {mk' : Ms} (h : TkS P u us mk a e us' mk') (hP : P.Ok) (hf : ∀ g, mk g ≠ 0 → g < 4096) : a < 1048576 := by
  rcases h with ⟨g, i, h1, h2, rfl, _⟩ | ⟨_, g, h1, h2⟩
  · have := hf g h1.1.1
    have := place_lt h2.1
    have := sz_le u
    omega
  · rcases h2 with ⟨_, rfl, _⟩ | ⟨_, rfl, _⟩
    · have hg : g < 4096 := by
        rcases h1 with ⟨_, ⟨x0, t1, t2, _⟩, _⟩ | ⟨_, rfl, _⟩
        · rw [t2]; exact fm_lt hP (best_lt hP us) (opn_iff.1 t1.open).1
        · omega
      omega
    · omega
theorem Tz.ltake {w0 w : World} {x p q : Nat} {s r u : Nat → Nat} {P : Par} {us : Us} {mk : Nat → Ms} {us' : Us} {mk' : Nat → Ms} {FP FQ : Nat → Prop} {v : Nat → Value} {l : Nat → List Int} {kb : Option (Nat × List Value)} (h : Tz w0 w x p q s r u P us mk us' mk' FP FQ v l kb) {i : Nat} (hi : i < 2) : Calls Tryz.prog 18 #[.pointer (some ⟨s i, 0, none⟩)] w fun y w' => ∃ (a e : Nat) (us2 : Us) (mk2 : Ms) (FP' : Nat → Prop), y = .returned (.tuple #[.int .u64 a, .int .i64 e]) ∧ TkS P (u i) us (mk i) a e us2 mk2 ∧ a < 1048576 ∧ Tz w0 w' x p q s r u P us2 (put mk i mk2) us' mk' FP' FQ v l kb := by
  obtain ⟨b, F, hp⟩ := h.pr
  refine (hp.take hi).mono ?_
  rintro y w' ⟨a, e, us2, mk2, FP', F', rfl, h1, h2, h3⟩
  exact ⟨a, e, us2, mk2, FP', rfl, h1, h1.lt hp.po.ok (fun g hg => (hp.sl i hi).fr hg), h.left h3 ⟨b, F', h2⟩⟩
theorem Tz.rtake {w0 w : World} {x p q : Nat} {s r u : Nat → Nat} {P : Par} {us : Us} {mk : Nat → Ms} {us' : Us} {mk' : Nat → Ms} {FP FQ : Nat → Prop} {v : Nat → Value} {l : Nat → List Int} {kb : Option (Nat × List Value)} (h : Tz w0 w x p q s r u P us mk us' mk' FP FQ v l kb) {i : Nat} (hi : i < 2) : Calls Tryz.prog 34 #[.pointer (some ⟨r i, 0, none⟩)] w fun y w' => ∃ (a e : Nat) (us2 : Us) (mk2 : Ms) (FQ' : Nat → Prop), y = .returned (.tuple #[.int .u64 a, .int .i64 e]) ∧ TkS P (u i) us' (mk' i) a e us2 mk2 ∧ Tz w0 w' x p q s r u P us mk us2 (put mk' i mk2) FP FQ' v l kb := by
  refine (h.rr.take hi).mono ?_
  rintro y w' ⟨a, e, us2, mk2, FQ', rfl, h1, h2, h3⟩
  exact ⟨a, e, us2, mk2, FQ', rfl, h1, h.right h3 h2⟩
theorem Tz.lgive {w0 w : World} {x p q : Nat} {s r u : Nat → Nat} {P : Par} {us : Us} {mk : Nat → Ms} {us' : Us} {mk' : Nat → Ms} {FP FQ : Nat → Prop} {v : Nat → Value} {l : Nat → List Int} {kb : Option (Nat × List Value)} (h : Tz w0 w x p q s r u P us mk us' mk' FP FQ v l kb) {i : Nat} (hi : i < 2) {a e : Nat} {us2 : Us} {mk2 : Ms} (ha : a < 18446744073709551616) (hg : GvS (u i) us (mk i) a e us2 mk2) : Calls Tryz.prog 19 #[.pointer (some ⟨s i, 0, none⟩), .int .u64 a] w fun y w' => ∃ (FP' : Nat → Prop), y = .returned (.int .i64 e) ∧ Tz w0 w' x p q s r u P us2 (put mk i mk2) us' mk' FP' FQ v l kb := by
  obtain ⟨b, F, hp⟩ := h.pr
  refine (hp.give hi ha hg).mono ?_
  rintro y w' ⟨FP', F', rfl, h2, h3⟩
  exact ⟨FP', rfl, h.left h3 ⟨b, F', h2⟩⟩
theorem Tz.rgive {w0 w : World} {x p q : Nat} {s r u : Nat → Nat} {P : Par} {us : Us} {mk : Nat → Ms} {us' : Us} {mk' : Nat → Ms} {FP FQ : Nat → Prop} {v : Nat → Value} {l : Nat → List Int} {kb : Option (Nat × List Value)} (h : Tz w0 w x p q s r u P us mk us' mk' FP FQ v l kb) {i : Nat} (hi : i < 2) {a e : Nat} {us2 : Us} {mk2 : Ms} (ha : a < 18446744073709551616) (hg : GvS (u i) us' (mk' i) a e us2 mk2) : Calls Tryz.prog 35 #[.pointer (some ⟨r i, 0, none⟩), .int .u64 a] w fun y w' => ∃ (FQ' : Nat → Prop), y = .returned (.int .i64 e) ∧ Tz w0 w' x p q s r u P us mk us2 (put mk' i mk2) FP FQ' v l kb := by
  refine (h.rr.give hi ha hg).mono ?_
  rintro y w' ⟨FQ', rfl, h2, h3⟩
  exact ⟨FQ', rfl, h.right h3 h2⟩
theorem Tz.lpool {w0 w : World} {x p q : Nat} {s r u : Nat → Nat} {P : Par} {us : Us} {mk : Nat → Ms} {us' : Us} {mk' : Nat → Ms} {FP FQ : Nat → Prop} {v : Nat → Value} {l : Nat → List Int} {kb : Option (Nat × List Value)} (h : Tz w0 w x p q s r u P us mk us' mk' FP FQ v l kb) : Calls Tryz.prog 36 #[.pointer (some ⟨p, 0, none⟩), .int .u8 2] w fun y w' => ∃ (g e : Nat) (us2 : Us) (FP' : Nat → Prop), y = .returned (.tuple #[.int .i64 g, .int .i64 e]) ∧ Tko P us 2 g e us2 ∧ Tz w0 w' x p q s r u P us2 mk us' mk' FP' FQ v l kb := by
  obtain ⟨b, F, hp⟩ := h.pr
  refine hp.ptake.mono ?_
  rintro y w' ⟨g, e, us2, FP', F', rfl, h1, h2, h3⟩
  exact ⟨g, e, us2, FP', rfl, h1, h.left h3 ⟨b, F', h2⟩⟩
theorem Tz.rpool {w0 w : World} {x p q : Nat} {s r u : Nat → Nat} {P : Par} {us : Us} {mk : Nat → Ms} {us' : Us} {mk' : Nat → Ms} {FP FQ : Nat → Prop} {v : Nat → Value} {l : Nat → List Int} {kb : Option (Nat × List Value)} (h : Tz w0 w x p q s r u P us mk us' mk' FP FQ v l kb) : Calls Tryz.prog 37 #[.pointer (some ⟨q, 0, none⟩), .int .u8 2] w fun y w' => ∃ (g e : Nat) (us2 : Us), y = .returned (.tuple #[.int .i64 g, .int .i64 e]) ∧ Tko P us' 2 g e us2 ∧ Tz w0 w' x p q s r u P us mk us2 mk' FP FQ v l kb := by
  refine h.rr.ptake.mono ?_
  rintro y w' ⟨g, e, us2, rfl, h1, h2, h3⟩
  exact ⟨g, e, us2, rfl, h1, h.right h3 h2⟩
theorem Iu.rows {w : World} {base : Nat} {v : Value} {l : List Int} (h : Iu w base v l) (hp : 0 < l.length) : ∃ g c, v = .slice (some ⟨g, 0, none⟩) l.length c ∧ l.length ≤ c ∧ ∀ i x, l[i]? = some x → w.cell? ⟨g, i, none⟩ = some (.int .u64 x) := by
  rcases h.2 with ⟨_, h2⟩ | ⟨g, cap, cur, h1, h2, h3, h4, h5, h6, h7⟩
  · omega
  · refine ⟨g, cap, h1, h4, fun i x hx => ?_⟩
    have hi := (List.getElem?_eq_some_iff.1 hx).1
    rw [cell_of_row w g i _ _ (0, 0) h3]
    have e1 : (cur.toList.take (l.length * 1))[i]? = cur.toList[i]? := by rw [List.getElem?_take]; simp [hi]
    rw [h7] at e1
    rw [← Array.getElem?_toList, ← e1]
    simp [U.vs, hx]
set_option maxHeartbeats 8000000 in
theorem done_ok {w0 w : World} {x p q : Nat} {s r u : Nat → Nat} {P : Par} {us : Us} {mk : Nat → Ms} {FP FQ : Nat → Prop} {v : Nat → Value} {l : Nat → List Int} (h : Tz w0 w x p q s r u P us mk us mk FP FQ v l none) {N : Nat} (hN : N ≤ 100) (hl : ∀ i, i < 2 → (l i).length ≤ N) (kd wh : Int) (A : Nat) (hk0 : -9223372036854775808 ≤ kd) (hk1 : kd < 9223372036854775808) (hw0 : -9223372036854775808 ≤ wh) (hw1 : wh < 9223372036854775808) (hA : A < 18446744073709551616) :
    Calls Tryz.prog 9 #[.pointer (some ⟨x, 0, none⟩), .agg #[.int .i64 kd, .int .i64 wh, .int .u64 A]] w fun e w' => e = .returned (.bool true) ∧ ∃ us' mk' FP' FQ' v' l', Tz w0 w' x p q s r u P us' mk' us' mk' FP' FQ' v' l' none ∧ ∀ i, i < 2 → (l' i).length ≤ N + 1 := by
  have HB0 : Hid (Tz w0 (w.alloc (.cells #[.int .i64 kd, .int .i64 wh, .int .u64 A] 42)) x p q s r u P us mk us mk FP FQ v l (some (w.heap.size, [.int .i64 kd, .int .i64 wh, .int .u64 A]))) := h.box [.int .i64 kd, .int .i64 wh, .int .u64 A]
  have HL : Hid (∀ i, i < 2 → (l i).length ≤ N) := hl
  have HA : Hid (A < 18446744073709551616) := hA
  obtain ⟨i, hi⟩ : ∃ i : Nat, wh % 2 = i := ⟨(wh % 2).toNat, by omega⟩
  have hi2 : i < 2 := by omega
  have hiI : (i : Int) < 2 := by omega
  have hi0 : (0 : Int) ≤ (i : Int) := by omega
  have HI2 : Hid (i < 2) := hi2
  obtain ⟨t, ht⟩ : ∃ t : Nat, kd % 4 = t := ⟨(kd % 4).toNat, by omega⟩
  have ht4 : t = 0 ∨ t = 1 ∨ t = 2 ∨ t = 3 := by omega
  have CW : Hid (∀ W, Calls Tryz.prog 17 #[.int .i64 wh, .int .i64 2] W fun e w' => e = .returned (.int .i64 (i : Nat)) ∧ w' = W) := fun W => by
    have := within_o wh 2 (by omega) (by omega) hw0 hw1 W
    rw [hi] at this
    exact this
  have CK : Hid (∀ W, Calls Tryz.prog 17 #[.int .i64 kd, .int .i64 4] W fun e w' => e = .returned (.int .i64 (t : Nat)) ∧ w' = W) := fun W => by
    have := within_o kd 4 (by omega) (by omega) hk0 hk1 W
    rw [ht] at this
    exact this
  clear h hl hA hi ht hk0 hk1 hw0 hw1
  go_enter Tryz.func9, Tryz.ntmps9
  go_upto_region 1 with fail
  obtain ⟨db, hdb⟩ : ∃ db, w.heap.size = db := ⟨_, rfl⟩
  obtain ⟨WB, hW, HB⟩ : ∃ WB, (w.alloc (.cells #[.int .i64 kd, .int .i64 wh, .int .u64 A] 42)) = WB ∧ Hid (Tz w0 WB x p q s r u P us mk us mk FP FQ v l (some (w.heap.size, [.int .i64 kd, .int .i64 wh, .int .u64 A]))) := ⟨_, rfl, HB0⟩
  rw [hW, hdb]
  rw [hdb] at HB
  clear hW HB0 hdb
  obtain ⟨d0, d1, d2⟩ := HB.out.dcells
  go_wp2_with fail
  refine (CW.out _).mono ?_
  rintro e w1 ⟨rfl, hw⟩
  obtain rfl := hw.symm
  clear hw CW
  go_wp2_with fail
  refine (CK.out _).mono ?_
  rintro e w1 ⟨rfl, hw⟩
  obtain rfl := hw.symm
  clear hw CK
  rcases ht4 with rfl | rfl | rfl | rfl
  · rw [show ((0 : Nat) : Int) = 0 from rfl]
    have hc2 := (HB.out.cells.2.2 i hi2).1
    have CT : Hid (Calls _ _ _ _ _) := HB.out.ltake hi2
    clear d0 d1 d2
    go_wp2_with fail
    refine CT.out.mono ?_
    rintro e w1 ⟨a, er, us1, mk1, FP1, rfl, t1, ha, h1⟩
    have H1 : Hid (Tz w0 w1 x p q s r u P us1 (put mk i mk1) us mk FP1 FQ v l (some (db, [.int .i64 kd, .int .i64 wh, .int .u64 A]))) := h1
    have T1 : Hid (TkS P (u i) us (mk i) a er us1 mk1) := t1
    have hc4 := (h1.cells.2.2 i hi2).2.1
    have RT : Hid (Calls _ _ _ _ _) := h1.rtake hi2
    clear h1 t1 hc2 CT HB
    go_wp2_with fail
    refine RT.out.mono ?_
    rintro e w2 ⟨a2, er2, us2, mk2, FQ2, rfl, t2, h2⟩
    obtain ⟨e1, e2, e3, e4⟩ := T1.out.uniq t2
    subst e1 e2 e3 e4
    have H2 : Hid (Tz w0 w2 x p q s r u P us2 (put mk i mk2) us2 (put mk i mk2) FP1 FQ2 v l (some (db, [.int .i64 kd, .int .i64 wh, .int .u64 A]))) := h2
    clear t2 h2 H1 T1 hc4 RT
    by_cases hz : er2 = 0
    · subst hz
      rw [show ((0 : Nat) : Int) = 0 from rfl]
      obtain ⟨va, vc, hv, _⟩ := Iu.au (H2.out.tl i hi2)
      have HV : Hid (v i = .slice va (l i).length vc) := hv
      have hc6 := (H2.out.cells.2.2 i hi2).2.2
      rw [hv] at hc6
      obtain ⟨n, hn⟩ : ∃ n, (l i).length = n := ⟨_, rfl⟩
      have HNl : Hid ((l i).length = n) := hn
      have hn100 : n ≤ 100 := by have := HL.out i hi2; omega
      rw [hn] at hc6 HV
      have hxl := H2.out.bx.lt
      have hfz := H2.out.bx.frozen (6 + i)
      have hnv : (Value.slice va n vc).ownBlock ≠ some x := fun e => (H2.out.dv i x hi2 (by rw [HV.out]; exact e)).2.2 rfl
      obtain ⟨j0, hj0, hy0, hy1, hy2⟩ := info_parts Tryz.infoU64
      have HOW : Hid (∀ W, Below w2.heap.size w2 W → W.ownsRow w0.heap.size 22 1 (.slice va n vc) n (U.vs (l i))) := fun W hW => by
        have := (H2.out.tl i HI2.out).below hW
        unfold Iu at this
        rw [HV.out, HNl.out] at this
        exact this
      have HB1 : Hid (Below w2.heap.size w2 (w2.alloc (.cells #[.int .u64 (a2 : Nat)] 22)).drew) := ((Below.refl _ w2).alloc (Nat.le_refl _) _).drew
      have HN1 : Hid (∀ k u, [Value.int .u64 (a2 : Nat)][k]? = some u → (w2.alloc (.cells #[.int .u64 (a2 : Nat)] 22)).drew.cell? ((⟨w2.heap.size, 0, none⟩ : Addr).add k) = some u) := fun k u hk => by
        rw [Go.WideShapes.add_plain, Nat.zero_add]
        exact ((blk_new w2 [.int .u64 (a2 : Nat)] 22).cell k).trans hk
      have HT : Hid (∀ v ∈ [Value.int .u64 (a2 : Nat)], v.oneCell' = true) := by
        intro v hv
        simp at hv
        subst hv
        rfl
      have HC : Hid (∀ w1, w2.grownBy w1 (Value.slice va n vc).ownBlock → w1.cell? ⟨x, 6 + i, none⟩ = some (.slice va n vc)) := fun w1 G => (G.cell_far ⟨x, 6 + i, none⟩ hxl (fun e => hnv e.symm)).trans hc6
      have HZ : Hid (∀ w1, w2.grownBy w1 (Value.slice va n vc).ownBlock → w1.frozen? ⟨x, 6 + i, none⟩ = false) := fun w1 G => (G.frozen_far ⟨x, 6 + i, none⟩ hxl (fun e => hnv e.symm)).trans hfz
      have hc62 : (w2.alloc (.cells #[.int .u64 (a2 : Nat)] 22)).cell? ⟨x, 6 + i, none⟩ = some (.slice va n vc) := (((Below.refl _ w2).alloc (Nat.le_refl _) _).cell (p := ⟨x, 6 + i, none⟩) hxl).trans hc6
      have HBs : Hid (w0.heap.size ≤ w2.heap.size) := H2.out.be.size
      have FIN : Hid (∀ w1 g c, w2.grownBy w1 (Value.slice va n vc).ownBlock → w1.ownsRow w0.heap.size 22 1 (.slice (some ⟨g, 0, none⟩) (n + 1) c) (n + 1) (U.vs (l i) ++ [.int .u64 (a2 : Nat)]) → ((Value.slice va n vc).ownBlock = some g ∨ g = w2.heap.size + 1) → Tz w0 (w1.setCell ⟨x, 6 + i, none⟩ (.slice (some ⟨g, 0, none⟩) (n + 1) c)) x p q s r u P us2 (put mk i mk2) us2 (put mk i mk2) FP1 FQ2 (put v i (.slice (some ⟨g, 0, none⟩) (n + 1) c)) (put l i (l i ++ [(a2 : Int)])) none) := fun w1 g c G o at1 => by
        refine (H2.out.told HI2.out (a := (a2 : Int)) ⟨by omega, by omega⟩ (by rw [HV.out]; exact G) ?_ (by rw [HV.out]; exact at1.imp id (fun z => by omega))).unbox
        exact iu_snoc (by rw [HNl.out]; exact o)
      have FIL : Hid (∀ j, j < 2 → (put l i (l i ++ [(a2 : Int)]) j).length ≤ N + 1) := fun j hj => by
        by_cases e : j = i
        · subst e
          rw [put_same, List.length_append, List.length_singleton]
          have := HL.out j hj
          omega
        · rw [put_other _ _ _ _ e]
          have := HL.out j hj
          omega
      clear hv hn hnv
      go_wp2
      go_region_law (first | (refine step_append_lies _ rfl (.tmp 53) (.tmp 55) 55 rfl w0.heap.size 22 j0 _ 1 8 Tryz.underlying55 hj0 hy0 hy1 hy2 rfl (by decide) (.slice va n vc) n (U.vs (l i)) rfl (HOW.out _ HB1.out) ⟨w2.heap.size, 0, none⟩ 1 1 [.int .u64 (a2 : Nat)] rfl rfl HN1.out HT.out (by omega) (by unfold maxLen; omega) (by omega) (by simp; have := HBs.out; omega) (w2.heap.size + 1) (by simp) ?_; intro g1 k1 w3 o1 gr1 at1 lt1; have G1 : Hid (w2.grownBy w3 (Value.slice va n vc).ownBlock) := ((World.grownBy_alloc w2 _ _).trans (grown_drew _ _)).trans gr1; have r1 := HC.out w3 G1.out; have r2 := HZ.out w3 G1.out))
      all_goals (
        have HF : Hid (Tz _ _ _ _ _ _ _ _ _ _ _ _ _ _ _ _ _ _) := FIN.out w3 g1 k1 G1.out o1 at1
        clear o1 gr1 at1 lt1 G1 r1 r2 hc6 hc62 hfz HOW HB1 HN1 HT HC HZ
        generalize w3.setCell ⟨x, 6 + i, none⟩ (.slice (some ⟨g1, 0, none⟩) (n + 1) k1) = w4 at *
        go_wp2
        go_ret
        exact ⟨by simp, _, _, _, _, _, _, HF.out, FIL.out⟩)
    · have hzB : ((er2 : Int) == 0) = false := by simp; omega
      have hzI : ¬ (er2 : Int) = 0 := by omega
      have HF : Hid (Tz w0 w2 x p q s r u P us2 (put mk i mk2) us2 (put mk i mk2) FP1 FQ2 v l none) := H2.out.unbox
      have FIL : Hid (∀ j, j < 2 → (l j).length ≤ N + 1) := fun j hj => by have := HL.out j hj; omega
      go_wp2
      go_ret
      exact ⟨by simp, _, _, _, _, _, _, HF.out, FIL.out⟩
  · rw [show ((1 : Nat) : Int) = 1 from rfl]
    obtain ⟨va, vc, hv, _⟩ := Iu.au (HB.out.tl i hi2)
    have HV : Hid (v i = .slice va (l i).length vc) := hv
    have hc6 := (HB.out.cells.2.2 i hi2).2.2
    rw [hv] at hc6
    obtain ⟨n, hn⟩ : ∃ n, (l i).length = n := ⟨_, rfl⟩
    have HNl : Hid ((l i).length = n) := hn
    have hn100 : n ≤ 100 := by have := HL.out i hi2; omega
    rw [hn] at hc6 HV
    have HRow : Hid (Iu WB w0.heap.size (.slice va n vc) (l i)) := by
      have := HB.out.tl i hi2
      rw [HV.out] at this
      exact this
    have HCS : Hid (∀ W, Below WB.heap.size WB W → W.cell? ⟨x, 2 + i, none⟩ = some (.pointer (some ⟨s i, 0, none⟩)) ∧ W.cell? ⟨x, 4 + i, none⟩ = some (.pointer (some ⟨r i, 0, none⟩))) := fun W hW => ⟨((HB.out.of_eq hW).cells.2.2 i HI2.out).1, ((HB.out.of_eq hW).cells.2.2 i HI2.out).2.1⟩
    have CG : Hid (∀ (a e : Nat) (us2 : Us) (mk2 : Ms), a < 18446744073709551616 → GvS (u i) us (mk i) a e us2 mk2 → ∀ W, Below WB.heap.size WB W → Calls Tryz.prog 19 #[.pointer (some ⟨s i, 0, none⟩), .int .u64 a] W fun y w' => ∃ (FP' : Nat → Prop), y = .returned (.int .i64 e) ∧ Tz w0 w' x p q s r u P us2 (put mk i mk2) us mk FP' FQ v l (some (db, [.int .i64 kd, .int .i64 wh, .int .u64 A]))) := fun a e us2 mk2 ha hg W hW => (HB.out.of_eq hW).lgive HI2.out ha hg
    have FIL : Hid (∀ j, j < 2 → (l j).length ≤ N + 1) := fun j hj => by have := HL.out j hj; omega
    have HRG : Hid (∀ a ∈ l i, 0 ≤ a ∧ a < 18446744073709551616) := HB.out.rg i hi2
    clear hv hn HB
    by_cases hn0 : 0 < n
    · have hn0I : (0 : Int) < (n : Int) := by omega
      have hnz : ¬ (n : Int) = 0 := by omega
      obtain ⟨gv, vc', hve, _, hcell⟩ := HRow.out.rows (by have := HNl.out; omega)
      simp only [Value.slice.injEq] at hve
      obtain ⟨rfl, hvx, rfl⟩ := hve
      clear hvx
      obtain ⟨kk, hkk⟩ : ∃ kk : Nat, A % n = kk := ⟨_, rfl⟩
      have hkl : kk < n := by rw [← hkk]; exact Nat.mod_lt _ hn0
      have hm1 : (A : Int) % (n : Int) = (kk : Int) := by rw [← hkk]; simp
      have hm2 : (A : Int).tmod (n : Int) = (kk : Int) := by rw [Int.tmod_eq_emod_of_nonneg (by omega)]; exact hm1
      have hkI : (kk : Int) < (n : Int) := by omega
      have hwr : IntKind.u64.wrap (n : Int) = (n : Int) := by
        simp only [IntKind.wrap, IntKind.bits, IntKind.signed]
        simp
        omega
      obtain ⟨y, hy⟩ : ∃ y, (l i)[kk]? = some y := ⟨_, List.getElem?_eq_getElem (by rw [HNl.out]; exact hkl)⟩
      have hyr := HRG.out y (List.mem_of_getElem? hy)
      obtain ⟨a, rfl⟩ := Int.eq_ofNat_of_zero_le hyr.1
      have hct := hcell kk _ hy
      have ha : a < 18446744073709551616 := by omega
      obtain ⟨er, us1, mk1, hg⟩ := gvS_some (u i) us (mk i) a
      have CG1 : Hid (∀ W, Below WB.heap.size WB W → Calls Tryz.prog 19 #[.pointer (some ⟨s i, 0, none⟩), .int .u64 a] W fun y w' => ∃ (FP' : Nat → Prop), y = .returned (.int .i64 er) ∧ Tz w0 w' x p q s r u P us1 (put mk i mk1) us mk FP' FQ v l (some (db, [.int .i64 kd, .int .i64 wh, .int .u64 A]))) := CG.out a er us1 mk1 ha hg
      have RG1 : Hid (∀ W FP', Tz w0 W x p q s r u P us1 (put mk i mk1) us mk FP' FQ v l (some (db, [.int .i64 kd, .int .i64 wh, .int .u64 A])) → Calls Tryz.prog 35 #[.pointer (some ⟨r i, 0, none⟩), .int .u64 a] W fun y w' => ∃ (FQ' : Nat → Prop), y = .returned (.int .i64 er) ∧ Tz w0 w' x p q s r u P us1 (put mk i mk1) us1 (put mk i mk1) FP' FQ' v l (some (db, [.int .i64 kd, .int .i64 wh, .int .u64 A]))) := fun W FP' hT => hT.rgive HI2.out ha hg
      clear hcell hkk hyr hy ha hg CG
      go_wp2
      go_quiet (fail)
      go_wp2
      obtain ⟨cs2, cs4⟩ := HCS.out _ (Below.refl _ _)
      go_region_held3 (fun W => W.cell? ⟨x, 2 + i, none⟩ = some (.pointer (some ⟨s i, 0, none⟩)) ∧ W.cell? ⟨x, 4 + i, none⟩ = some (.pointer (some ⟨r i, 0, none⟩)))
        (first | exact ⟨cs2, cs4⟩ | exact HS1.out | exact HS2.out)
        (first
          | (go_at_call 19; refine (CG1.out _ (by first | exact (Below.refl _ _).drew | exact Below.refl _ _ | exact (below_of (grown_drewN WB _ none) _ (Nat.le_refl _) (by simp)).drew | exact below_of (grown_drewN WB _ none) _ (Nat.le_refl _) (by simp))).mono ?_; rintro e w3 ⟨FP3, rfl, h3⟩; have H3 : Hid (Tz w0 w3 x p q s r u P us1 (put mk i mk1) us mk FP3 FQ v l (some (db, [.int .i64 kd, .int .i64 wh, .int .u64 A]))) := h3; have HS1 : Hid (w3.cell? ⟨x, 2 + i, none⟩ = some (.pointer (some ⟨s i, 0, none⟩)) ∧ w3.cell? ⟨x, 4 + i, none⟩ = some (.pointer (some ⟨r i, 0, none⟩))) := ⟨(h3.cells.2.2 i HI2.out).1, (h3.cells.2.2 i HI2.out).2.1⟩; clear h3)
          | (go_at_call 35; refine (RG1.out _ _ H3.out).mono ?_; rintro e w4 ⟨FQ4, rfl, h4⟩; have H4 : Hid (Tz w0 w4 x p q s r u P us1 (put mk i mk1) us1 (put mk i mk1) FP3 FQ4 v l none) := h4.unbox; have HS2 : Hid (w4.cell? ⟨x, 2 + i, none⟩ = some (.pointer (some ⟨s i, 0, none⟩)) ∧ w4.cell? ⟨x, 4 + i, none⟩ = some (.pointer (some ⟨r i, 0, none⟩))) := ⟨(h4.cells.2.2 i HI2.out).1, (h4.cells.2.2 i HI2.out).2.1⟩; clear h4))
      go_wp2
      go_ret
      exact ⟨by simp, _, _, _, _, _, _, H4.out, FIL.out⟩
    · obtain rfl : n = 0 := by omega
      obtain ⟨er, us1, mk1, hg⟩ := gvS_some (u i) us (mk i) A
      have CG1 : Hid (∀ W, Below WB.heap.size WB W → Calls Tryz.prog 19 #[.pointer (some ⟨s i, 0, none⟩), .int .u64 A] W fun y w' => ∃ (FP' : Nat → Prop), y = .returned (.int .i64 er) ∧ Tz w0 w' x p q s r u P us1 (put mk i mk1) us mk FP' FQ v l (some (db, [.int .i64 kd, .int .i64 wh, .int .u64 A]))) := CG.out A er us1 mk1 HA.out hg
      have RG1 : Hid (∀ W FP', Tz w0 W x p q s r u P us1 (put mk i mk1) us mk FP' FQ v l (some (db, [.int .i64 kd, .int .i64 wh, .int .u64 A])) → Calls Tryz.prog 35 #[.pointer (some ⟨r i, 0, none⟩), .int .u64 A] W fun y w' => ∃ (FQ' : Nat → Prop), y = .returned (.int .i64 er) ∧ Tz w0 w' x p q s r u P us1 (put mk i mk1) us1 (put mk i mk1) FP' FQ' v l (some (db, [.int .i64 kd, .int .i64 wh, .int .u64 A]))) := fun W FP' hT => hT.rgive HI2.out HA.out hg
      clear hg CG
      go_wp2
      obtain ⟨cs2, cs4⟩ := HCS.out _ (Below.refl _ _)
      go_region_held3 (fun W => W.cell? ⟨x, 2 + i, none⟩ = some (.pointer (some ⟨s i, 0, none⟩)) ∧ W.cell? ⟨x, 4 + i, none⟩ = some (.pointer (some ⟨r i, 0, none⟩)))
        (first | exact ⟨cs2, cs4⟩ | exact HS1.out | exact HS2.out)
        (first
          | (go_at_call 19; refine (CG1.out _ (by first | exact (Below.refl _ _).drew | exact Below.refl _ _)).mono ?_; rintro e w3 ⟨FP3, rfl, h3⟩; have H3 : Hid (Tz w0 w3 x p q s r u P us1 (put mk i mk1) us mk FP3 FQ v l (some (db, [.int .i64 kd, .int .i64 wh, .int .u64 A]))) := h3; have HS1 : Hid (w3.cell? ⟨x, 2 + i, none⟩ = some (.pointer (some ⟨s i, 0, none⟩)) ∧ w3.cell? ⟨x, 4 + i, none⟩ = some (.pointer (some ⟨r i, 0, none⟩))) := ⟨(h3.cells.2.2 i HI2.out).1, (h3.cells.2.2 i HI2.out).2.1⟩; clear h3)
          | (go_at_call 35; refine (RG1.out _ _ H3.out).mono ?_; rintro e w4 ⟨FQ4, rfl, h4⟩; have H4 : Hid (Tz w0 w4 x p q s r u P us1 (put mk i mk1) us1 (put mk i mk1) FP3 FQ4 v l none) := h4.unbox; have HS2 : Hid (w4.cell? ⟨x, 2 + i, none⟩ = some (.pointer (some ⟨s i, 0, none⟩)) ∧ w4.cell? ⟨x, 4 + i, none⟩ = some (.pointer (some ⟨r i, 0, none⟩))) := ⟨(h4.cells.2.2 i HI2.out).1, (h4.cells.2.2 i HI2.out).2.1⟩; clear h4))
      go_wp2
      go_ret
      exact ⟨by simp, _, _, _, _, _, _, H4.out, FIL.out⟩
  · rw [show ((2 : Nat) : Int) = 2 from rfl]
    have HCS : Hid (∀ W, Below WB.heap.size WB W → W.cell? ⟨x, 2 + i, none⟩ = some (.pointer (some ⟨s i, 0, none⟩)) ∧ W.cell? ⟨x, 4 + i, none⟩ = some (.pointer (some ⟨r i, 0, none⟩))) := fun W hW => ⟨((HB.out.of_eq hW).cells.2.2 i HI2.out).1, ((HB.out.of_eq hW).cells.2.2 i HI2.out).2.1⟩
    obtain ⟨er, us1, mk1, hg⟩ := gvS_some (u i) us (mk i) A
    have CG1 : Hid (∀ W, Below WB.heap.size WB W → Calls Tryz.prog 19 #[.pointer (some ⟨s i, 0, none⟩), .int .u64 A] W fun y w' => ∃ (FP' : Nat → Prop), y = .returned (.int .i64 er) ∧ Tz w0 w' x p q s r u P us1 (put mk i mk1) us mk FP' FQ v l (some (db, [.int .i64 kd, .int .i64 wh, .int .u64 A]))) := fun W hW => (HB.out.of_eq hW).lgive HI2.out HA.out hg
    have RG1 : Hid (∀ W FP', Tz w0 W x p q s r u P us1 (put mk i mk1) us mk FP' FQ v l (some (db, [.int .i64 kd, .int .i64 wh, .int .u64 A])) → Calls Tryz.prog 35 #[.pointer (some ⟨r i, 0, none⟩), .int .u64 A] W fun y w' => ∃ (FQ' : Nat → Prop), y = .returned (.int .i64 er) ∧ Tz w0 w' x p q s r u P us1 (put mk i mk1) us1 (put mk i mk1) FP' FQ' v l (some (db, [.int .i64 kd, .int .i64 wh, .int .u64 A]))) := fun W FP' hT => hT.rgive HI2.out HA.out hg
    have FIL : Hid (∀ j, j < 2 → (l j).length ≤ N + 1) := fun j hj => by have := HL.out j hj; omega
    clear hg HB
    go_wp2
    obtain ⟨cs2, cs4⟩ := HCS.out _ (Below.refl _ _)
    go_region_held3 (fun W => W.cell? ⟨x, 2 + i, none⟩ = some (.pointer (some ⟨s i, 0, none⟩)) ∧ W.cell? ⟨x, 4 + i, none⟩ = some (.pointer (some ⟨r i, 0, none⟩)) ∧ W.cell? ⟨db, 2, none⟩ = some (.int .u64 (A : Nat)))
      (first | exact ⟨cs2, cs4, d2⟩ | exact HS1.out | exact HS2.out)
      (first
        | (go_at_call 19; refine (CG1.out _ (by first | exact (Below.refl _ _).drew | exact Below.refl _ _)).mono ?_; rintro e w3 ⟨FP3, rfl, h3⟩; have H3 : Hid (Tz w0 w3 x p q s r u P us1 (put mk i mk1) us mk FP3 FQ v l (some (db, [.int .i64 kd, .int .i64 wh, .int .u64 A]))) := h3; have HS1 : Hid (w3.cell? ⟨x, 2 + i, none⟩ = some (.pointer (some ⟨s i, 0, none⟩)) ∧ w3.cell? ⟨x, 4 + i, none⟩ = some (.pointer (some ⟨r i, 0, none⟩)) ∧ w3.cell? ⟨db, 2, none⟩ = some (.int .u64 (A : Nat))) := ⟨(h3.cells.2.2 i HI2.out).1, (h3.cells.2.2 i HI2.out).2.1, h3.dcells.2.2⟩; clear h3)
        | (go_at_call 35; refine (RG1.out _ _ H3.out).mono ?_; rintro e w4 ⟨FQ4, rfl, h4⟩; have H4 : Hid (Tz w0 w4 x p q s r u P us1 (put mk i mk1) us1 (put mk i mk1) FP3 FQ4 v l none) := h4.unbox; have HS2 : Hid (w4.cell? ⟨x, 2 + i, none⟩ = some (.pointer (some ⟨s i, 0, none⟩)) ∧ w4.cell? ⟨x, 4 + i, none⟩ = some (.pointer (some ⟨r i, 0, none⟩)) ∧ w4.cell? ⟨db, 2, none⟩ = some (.int .u64 (A : Nat))) := ⟨(h4.cells.2.2 i HI2.out).1, (h4.cells.2.2 i HI2.out).2.1, h4.dcells.2.2⟩; clear h4))
    go_wp2
    go_ret
    exact ⟨by simp, _, _, _, _, _, _, H4.out, FIL.out⟩
  · rw [show ((3 : Nat) : Int) = 3 from rfl]
    have hc0 := HB.out.cells.1
    have CT : Hid (Calls _ _ _ _ _) := HB.out.lpool
    have FIL : Hid (∀ j, j < 2 → (l j).length ≤ N + 1) := fun j hj => by have := HL.out j hj; omega
    clear d0 d1 d2
    go_wp2_with fail
    refine CT.out.mono ?_
    rintro e w1 ⟨g1, er, us1, FP1, rfl, t1, h1⟩
    have T1 : Hid (Tko P us 2 g1 er us1) := t1
    have hc1 := h1.cells.2.1
    have RT : Hid (Calls _ _ _ _ _) := h1.rpool
    clear h1 t1 hc0 CT HB
    go_wp2_with fail
    refine RT.out.mono ?_
    rintro e w2 ⟨g2, er2, us2, rfl, t2, h2⟩
    obtain ⟨e1, e2, e3⟩ := T1.out.uniq t2
    subst e1 e2 e3
    have H2 : Hid (Tz w0 w2 x p q s r u P us1 mk us1 mk FP1 FQ v l none) := h2.unbox
    clear t2 h2 T1 hc1 RT
    go_wp2
    go_ret
    exact ⟨by simp, _, _, _, _, _, _, H2.out, FIL.out⟩
end Go.Proofs.YtdempgjhjcjklaaGreat.P
