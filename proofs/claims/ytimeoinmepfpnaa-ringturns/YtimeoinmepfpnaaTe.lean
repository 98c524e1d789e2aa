/- RingTurns, for every input; no condition but the list's reading. -/
import Derived.Test.YtimeoinmepfpnaaTd
namespace Go.Proofs.Ytimeoinmepfpnaa.Ri
open Go.ChangeShapes Go.WideShapes Go.ChangeAt Go.RowKit
set_option linter.unusedVariables false
set_option maxRecDepth 8192

set_option maxHeartbeats 8000000 in
theorem turns_ok {W0 : World} {ao : Option Addr} {len cap : Nat} (hd : Dos W0.heap.size W0 ao len) (hl : len ≤ maxLen) :
    Calls Try.prog 5 #[.slice ao len cap] W0 fun e w' => e = .returned (.bool true) ∧ Below W0.heap.size W0 w' := by
  have hmf : ∀ (fn : Fn) (first cap : Array Value) (w : World), (Instr.makeFunc fn first cap).run Try.prog w = .ok (.func fn first cap) w := fun _ _ _ _ => rfl
  unfold maxLen at hl
  have HD : Hid (Dos W0.heap.size W0 ao len) := hd
  have CW := works_ok W0
  clear hd
  go_enter Try.func5, Try.ntmps5
  go_wp2_with fail
  refine CW.mono ?_
  rintro e w1 ⟨rfl, b1⟩
  have H1 : Hid (Below W0.heap.size W0 w1) := b1
  have NW := New_ok w1
  clear CW b1
  go_wp2_with fail
  refine NW.mono ?_
  rintro e w2 ⟨rfl, q2, b2⟩
  obtain ⟨p, hp⟩ : ∃ p, p = w1.heap.size + 1 := ⟨_, rfl⟩
  obtain ⟨g0, hg0⟩ : ∃ g, g = w1.heap.size := ⟨_, rfl⟩
  rw [← hp, ← hg0] at q2
  rw [← hp]
  have H2 : Hid (Rn w2 p g0 [] 0 ∧ Below W0.heap.size W0 w2 ∧ W0.heap.size ≤ p ∧ W0.heap.size ≤ g0) := by
    have := H1.out.size
    exact ⟨q2, bs H1.out b2, by omega, by omega⟩
  clear NW q2 b2 hp hg0 H1
  go_wp2_with fail
  go_loopw [5, 6] (fun tc ti wr => ∃ (j g : Nat) (L : List Int), tc = .int .i64 (L.length : Nat) ∧ ti = .int .i64 (j : Nat) ∧ j ≤ len ∧ j ≤ 120 ∧ Below W0.heap.size W0 wr ∧ Rd W0.heap.size wr p g w2.heap.size L ∧ L.length ≤ j) (fun _ ti _ => 120 - (intOf ti).toNat)
  case atStart =>
    refine ⟨0, g0, [], rfl, rfl, by omega, by omega, bs H2.out.2.1 (below1 _ _), ⟨⟨[], 0, H2.out.1.below (below1 _ _), rfl⟩, ?_, ?_, ?_, H2.out.2.2.1, H2.out.2.2.2, H2.out.2.1.size, by simp⟩, by simp⟩
    · have := blk_new w2 (th []) 47
      exact this
    · have := H2.out.1.pl; omega
    · have := H2.out.1.gl; omega
  case round =>
    obtain ⟨j, g, L, rfl, rfl, hj1, hj2, hb, hr, hLj⟩ := hrel
    have HLJ : Hid (L.length ≤ j) := hLj
    clear hLj
    have HR : Hid (Below W0.heap.size W0 wr ∧ Rd W0.heap.size wr p g w2.heap.size L) := ⟨hb, hr⟩
    have hp0 := hr.p0
    have hw20 := hr.b0
    clear hb hr H2
    generalize w2.heap.size = b at *
    by_cases hjn : j < len
    · by_cases hj3 : j < 120
      · obtain ⟨bb, off, y, rfl, hbb, d0, d1, d2, d3, dk⟩ := (HD.out.below HR.out.1) j hjn
        have CI : Hid (∀ w, Calls Try.prog 17 #[.int .i64 y.id, .int .i64 30] w fun e w' => e = .returned (.int .i64 (y.id % 30)) ∧ w' = w) := fun w => Within_any y.id 30 (by omega) (by omega) dk.i0 dk.i1 w
        have CK : Hid (∀ w, Calls Try.prog 17 #[.int .i64 y.k, .int .i64 3] w fun e w' => e = .returned (.int .i64 (y.k % 3)) ∧ w' = w) := fun w => Within_any y.k 3 (by omega) (by omega) dk.k0 dk.k1 w
        have hk : y.k % 3 = 0 ∨ y.k % 3 = 1 ∨ y.k % 3 = 2 := by omega
        obtain ⟨i, hi, hi30⟩ : ∃ i : Nat, y.id % 30 = (i : Int) ∧ i < 30 := ⟨(y.id % 30).toNat, by omega, by omega⟩
        rw [hi] at CI
        have HDK : Hid (Dok W0.heap.size wr y) := dk
        have HCELL : Hid (wr.cell? ⟨bb, off + j * 4, none⟩ = some (.int .i64 y.k) ∧ wr.cell? ⟨bb, off + j * 4 + 1, none⟩ = some (.int .i64 y.id) ∧ wr.cell? ⟨bb, off + j * 4 + 2, none⟩ = some (.slice y.ao y.T.length y.cap) ∧ wr.cell? ⟨bb, off + j * 4 + 3, none⟩ = some (.bool y.rest)) := ⟨d0, d1, d2, d3⟩
        have hbbw : bb < wr.heap.size := cell_lt d0
        clear dk hi
        have CL : Hid (Calls _ _ _ _ _) := List_ok HR.out.2.rx
        go_wp2_with fail
        refine (CI.out _).mono ?_
        rintro e w' ⟨rfl, hw⟩
        obtain rfl := hw.symm
        go_wp2_with fail
        refine CL.out.mono ?_
        rintro e w3 ⟨vw, rfl, n3⟩
        have H3 : Hid (Below W0.heap.size W0 w3 ∧ Rd W0.heap.size w3 p g b L ∧ Own w3 vw L) := ⟨HR.out.1.trans (n3.2.1.mono HR.out.1.size), HR.out.2.below n3.2.1, n3.1⟩
        have HVW : Hid (∀ z, vw.ownBlock = some z → z ≠ p ∧ z ≠ g ∧ z ≠ b) := fun z hz => by
          have := n3.2.2 z hz
          have := HR.out.2.rx.pl
          have := HR.out.2.rx.gl
          have := Blk.lt HR.out.2.th
          omega
        have e0 : w3.cell? ⟨bb, off + j * 4, none⟩ = some (.int .i64 y.k) := (n3.2.1.cell (p := ⟨bb, _, none⟩) hbbw).trans d0
        have e1 : w3.cell? ⟨bb, off + j * 4 + 1, none⟩ = some (.int .i64 y.id) := (n3.2.1.cell (p := ⟨bb, _, none⟩) hbbw).trans d1
        have e2 : w3.cell? ⟨bb, off + j * 4 + 2, none⟩ = some (.slice y.ao y.T.length y.cap) := (n3.2.1.cell (p := ⟨bb, _, none⟩) hbbw).trans d2
        have e3 : w3.cell? ⟨bb, off + j * 4 + 3, none⟩ = some (.bool y.rest) := (n3.2.1.cell (p := ⟨bb, _, none⟩) hbbw).trans d3
        have H3W : Hid (Below W0.heap.size wr w3) := n3.2.1.mono HR.out.1.size
        clear CL n3 CI d0 d1 d2 d3 HCELL
        go_wp2_with fail
        refine (CK.out _).mono ?_
        rintro e w' ⟨rfl, hw⟩
        obtain rfl := hw.symm
        clear CK
        rcases hk with hk | hk | hk
        · rw [hk]
          by_cases hm : (i : Int) ∈ L
          · have ha : AdS L (i : Int) L 91 := Or.inr (Or.inl ⟨by omega, hm, rfl, rfl⟩)
            have CA : Hid (Calls _ _ _ _ _) := Add_is H3.out.2.1.rx (by omega) ha
            have HM : Hid (decide ((i : Int) ∈ L) = true) := decide_eq_true hm
            clear ha hm
            go_wp2_with fail
            refine CA.out.mono ?_
            rintro e w4 ⟨rfl, t4⟩
            obtain ⟨g4, x4, th4, bg4, g04, bel4⟩ := H3.out.2.1.tn t4
            have HX : Hid (Below W0.heap.size W0 w4 ∧ Rd W0.heap.size w4 p g4 b L) := ⟨H3.out.1.trans bel4, ⟨x4, th4, H3.out.2.1.bp, bg4, H3.out.2.1.p0, g04, H3.out.2.1.b0, H3.out.2.1.le⟩⟩
            have ct : w4.cell? ⟨b, i, none⟩ = some (.bool true) := by rw [th4.cell hi30, HM.out]
            clear CA t4 x4 th4 bg4 g04 bel4 HM
            have CZ : Hid (Calls _ _ _ _ _) := List_ok HX.out.2.rx
            go_wp2_with fail
            refine CZ.out.mono ?_
            rintro e wz ⟨vz, rfl, nz⟩
            obtain ⟨qz, cz, hvz, _⟩ := nz.1.lst
            subst hvz
            have HZ : Hid (Below W0.heap.size W0 wz ∧ Rd W0.heap.size wz p g4 b (L)) := ⟨HX.out.1.trans (nz.2.1.mono HX.out.1.size), HX.out.2.below nz.2.1⟩
            skip
            clear CZ nz HX
            go_wp2
            go_roundw
            case rel => exact ⟨j + 1, g4, L, rfl, by go_num, by omega, by omega, HZ.out.1, HZ.out.2, by have := HLJ.out; omega⟩
            case measure => simp [intOf]; omega
          · have hle4 : L.length < 4096 := by have := H3.out.2.1.le; omega
            have ha : AdS L (i : Int) (L ++ [(i : Int)]) 0 := Or.inr (Or.inr (Or.inr ⟨by omega, hm, hle4, rfl, rfl⟩))
            have CA : Hid (Calls _ _ _ _ _) := Add_is H3.out.2.1.rx (by omega) ha
            have HM : Hid (decide ((i : Int) ∈ L) = false) := decide_eq_false hm
            have HM2 : Hid (decide ((i : Int) ∈ L ++ [(i : Int)]) = true) := decide_eq_true (by simp)
            have HLX : Hid ((L ++ [(i : Int)]).length = L.length + 1) := by unfold Hid; simp
            have HUP : Hid ((L ++ [(i : Int)]).take L.length = L) := by unfold Hid; simp
            have HGT : Hid ((L ++ [(i : Int)])[L.length]? = some (i : Int)) := by unfold Hid; simp
            clear ha hm hle4
            go_wp2_with fail
            refine CA.out.mono ?_
            rintro e w4 ⟨rfl, t4⟩
            have HVO : Hid (Own w4 vw L) := by
              obtain ⟨_, _, k, _⟩ := t4
              exact H3.out.2.2.ch k (fun z hz q => by have := HVW.out z hz; rcases q with q | q <;> omega)
            obtain ⟨g4, x4, th4, bg4, g04, bel4⟩ := H3.out.2.1.tn t4
            have ct : w4.cell? ⟨b, i, none⟩ = some (.bool false) := by rw [th4.cell hi30, HM.out]
            have fz : w4.frozen? ⟨b, i, none⟩ = false := Blk.frozen th4 i
            have kk : Ch (fun z => z = b) w4 (w4.setCell ⟨b, i, none⟩ (.bool true)) := Ch.grown (grown_setCell' w4 b i _) (fun z hz => by cases hz; rfl)
            have hjL : L.length < 120 := by have := HLJ.out; omega
            have HX0 : Hid (Below W0.heap.size W0 (w4.setCell ⟨b, i, none⟩ (.bool true)) ∧ Rd W0.heap.size (w4.setCell ⟨b, i, none⟩ (.bool true)) p g4 b (L ++ [(i : Int)]) ∧ Own (w4.setCell ⟨b, i, none⟩ (.bool true)) vw L) := by
              refine ⟨(H3.out.1.trans bel4).trans (kk.to (H3.out.1.trans bel4).size (fun z q => by rw [q]; exact hw20)), ⟨x4.ch kk (fun q => H3.out.2.1.bp q.symm) (fun q => bg4 q.symm), th4.set HM2.out (fun k hk => ?_), H3.out.2.1.bp, bg4, H3.out.2.1.p0, g04, H3.out.2.1.b0, by rw [HLX.out]; omega⟩, HVO.out.ch kk (fun z hz q => (HVW.out z hz).2.2 q)⟩
              simp only [List.mem_append, List.mem_singleton]
              constructor
              · rintro (q | q)
                · exact q
                · exfalso; omega
              · exact Or.inl
            have CN : Hid (Calls _ _ _ _ _) := List_ok HX0.out.2.1.rx
            clear CA t4 x4 th4 bg4 g04 bel4 HM HM2 kk HVO
            go_wp2_with fail
            refine CN.out.mono ?_
            rintro e w6 ⟨vn, rfl, n6⟩
            obtain ⟨gn, cn, Lv, hvn, _, hcn, _⟩ := n6.1.shape.resolve_left (fun z => by have := z.2; simp at this)
            subst hvn
            have hO := n6.1
            have hVL := (HX0.out.2.2.below n6.2.1).lst
            have hup := hO.upto (h := L.length) (by simp) cn
            rw [HUP.out] at hup
            have CE : Hid (Calls _ _ _ _ _) := EqInts_any (w := w6) (L := L) (by omega) hup hVL
            have HX6 : Hid (Below W0.heap.size W0 w6 ∧ Rd W0.heap.size w6 p g4 b (L ++ [(i : Int)])) := ⟨HX0.out.1.trans (n6.2.1.mono HX0.out.1.size), HX0.out.2.1.below n6.2.1⟩
            have cg : w6.cell? ⟨gn, L.length, none⟩ = some (.int .i64 (i : Nat)) := hO.cells HGT.out
            have hgn : gn < w6.heap.size := hO.lt gn rfl
            rw [HLX.out] at hcn ⊢
            have s2 := fun W => sl_upto gn (L.length + 1) cn L.length hcn (by omega) W
            clear CN n6 hO hVL hup HX0
            generalize L.length = m at *
            have ek : IntKind.i64.wrap ((m : Int) + 1 - 1) = (m : Int) := by rw [Int.add_sub_cancel]; simp (disch := omega) only [IntWalk.i64_in]
            go_wp2_with fail
            refine CE.out.mono ?_
            rintro e w7 ⟨rfl, b7⟩
            have HX : Hid (Below W0.heap.size W0 w7 ∧ Rd W0.heap.size w7 p g4 b (L ++ [(i : Int)])) := ⟨HX6.out.1.trans (b7.mono HX6.out.1.size), HX6.out.2.below b7⟩
            have cg7 : w7.cell? ⟨gn, m, none⟩ = some (.int .i64 (i : Nat)) := (b7.cell (p := ⟨gn, m, none⟩) hgn).trans cg
            clear CE b7 HX6 cg s2
            have CZ : Hid (Calls _ _ _ _ _) := List_ok HX.out.2.rx
            go_wp2_with fail
            refine CZ.out.mono ?_
            rintro e wz ⟨vz, rfl, nz⟩
            obtain ⟨qz, cz, hvz, _⟩ := nz.1.lst
            subst hvz
            have HZ : Hid (Below W0.heap.size W0 wz ∧ Rd W0.heap.size wz p g4 b (L ++ [(i : Int)])) := ⟨HX.out.1.trans (nz.2.1.mono HX.out.1.size), HX.out.2.below nz.2.1⟩
            rw [HLX.out]
            clear CZ nz HX
            go_wp2
            go_roundw
            case rel => exact ⟨j + 1, g4, L ++ [(i : Int)], by rw [HLX.out]; first | rfl | go_num | (congr 1; omega), by go_num, by omega, by omega, HZ.out.1, HZ.out.2, by have := HLJ.out; rw [HLX.out]; omega⟩
            case measure => simp [intOf]; omega
        · rw [hk]
          by_cases hm : (i : Int) ∈ L
          · have ha : RmS L (i : Int) (L.erase (i : Int)) 0 := Or.inl ⟨hm, rfl, rfl⟩
            have CA : Hid (Calls _ _ _ _ _) := Remove_is H3.out.2.1.rx ha
            have HM : Hid (decide ((i : Int) ∈ L) = true) := decide_eq_true hm
            have hnd := H3.out.2.1.rx.ok.nd
            have HM2 : Hid (decide ((i : Int) ∈ L.erase (i : Int)) = false) := decide_eq_false (fun q => (hnd.mem_erase_iff.1 q).1 rfl)
            have HLX : Hid ((L.erase (i : Int)).length = L.length - 1) := List.length_erase_of_mem hm
            have hm1 : 1 ≤ L.length := List.length_pos_of_mem hm
            have hm2 : L.length ≤ 120 := H3.out.2.1.le
            clear ha hm hnd
            go_wp2_with fail
            refine CA.out.mono ?_
            rintro e w4 ⟨rfl, t4⟩
            obtain ⟨g4, x4, th4, bg4, g04, bel4⟩ := H3.out.2.1.tn t4
            have ct : w4.cell? ⟨b, i, none⟩ = some (.bool true) := by rw [th4.cell hi30, HM.out]
            have fz : w4.frozen? ⟨b, i, none⟩ = false := Blk.frozen th4 i
            have kk : Ch (fun z => z = b) w4 (w4.setCell ⟨b, i, none⟩ (.bool false)) := Ch.grown (grown_setCell' w4 b i _) (fun z hz => by cases hz; rfl)
            have HX : Hid (Below W0.heap.size W0 (w4.setCell ⟨b, i, none⟩ (.bool false)) ∧ Rd W0.heap.size (w4.setCell ⟨b, i, none⟩ (.bool false)) p g4 b (L.erase (i : Int))) := by
              refine ⟨(H3.out.1.trans bel4).trans (kk.to (H3.out.1.trans bel4).size (fun z q => by rw [q]; exact hw20)), ⟨x4.ch kk (fun q => H3.out.2.1.bp q.symm) (fun q => bg4 q.symm), th4.set HM2.out (fun k hk => ?_), H3.out.2.1.bp, bg4, H3.out.2.1.p0, g04, H3.out.2.1.b0, by rw [HLX.out]; have := H3.out.2.1.le; omega⟩⟩
              exact List.mem_erase_of_ne (by omega)
            clear CA t4 x4 th4 bg4 g04 bel4 HM HM2 kk
            generalize L.length = m at *
            have CZ : Hid (Calls _ _ _ _ _) := List_ok HX.out.2.rx
            go_wp2_with fail
            refine CZ.out.mono ?_
            rintro e wz ⟨vz, rfl, nz⟩
            obtain ⟨qz, cz, hvz, _⟩ := nz.1.lst
            subst hvz
            have HZ : Hid (Below W0.heap.size W0 wz ∧ Rd W0.heap.size wz p g4 b (L.erase (i : Int))) := ⟨HX.out.1.trans (nz.2.1.mono HX.out.1.size), HX.out.2.below nz.2.1⟩
            rw [HLX.out]
            clear CZ nz HX
            go_wp2
            go_roundw
            case rel => exact ⟨j + 1, g4, L.erase (i : Int), by rw [HLX.out]; first | rfl | go_num | (congr 1; omega), by go_num, by omega, by omega, HZ.out.1, HZ.out.2, by have := HLJ.out; rw [HLX.out]; omega⟩
            case measure => simp [intOf]; omega
          · have ha : RmS L (i : Int) L 190 := Or.inr ⟨hm, rfl, rfl⟩
            have CA : Hid (Calls _ _ _ _ _) := Remove_is H3.out.2.1.rx ha
            have HM : Hid (decide ((i : Int) ∈ L) = false) := decide_eq_false hm
            clear ha hm
            go_wp2_with fail
            refine CA.out.mono ?_
            rintro e w4 ⟨rfl, t4⟩
            obtain ⟨g4, x4, th4, bg4, g04, bel4⟩ := H3.out.2.1.tn t4
            have HX : Hid (Below W0.heap.size W0 w4 ∧ Rd W0.heap.size w4 p g4 b L) := ⟨H3.out.1.trans bel4, ⟨x4, th4, H3.out.2.1.bp, bg4, H3.out.2.1.p0, g04, H3.out.2.1.b0, H3.out.2.1.le⟩⟩
            have ct : w4.cell? ⟨b, i, none⟩ = some (.bool false) := by rw [th4.cell hi30, HM.out]
            clear CA t4 x4 th4 bg4 g04 bel4 HM
            have CZ : Hid (Calls _ _ _ _ _) := List_ok HX.out.2.rx
            go_wp2_with fail
            refine CZ.out.mono ?_
            rintro e wz ⟨vz, rfl, nz⟩
            obtain ⟨qz, cz, hvz, _⟩ := nz.1.lst
            subst hvz
            have HZ : Hid (Below W0.heap.size W0 wz ∧ Rd W0.heap.size wz p g4 b (L)) := ⟨HX.out.1.trans (nz.2.1.mono HX.out.1.size), HX.out.2.below nz.2.1⟩
            skip
            clear CZ nz HX
            go_wp2
            go_roundw
            case rel => exact ⟨j + 1, g4, L, rfl, by go_num, by omega, by omega, HZ.out.1, HZ.out.2, by have := HLJ.out; omega⟩
            case measure => simp [intOf]; omega
        · rw [hk]
          obtain ⟨w4, hw4⟩ : ∃ w4, w4 = w3.alloc (.cells #[.int .i64 y.k, .int .i64 y.id, .slice y.ao y.T.length y.cap, .bool y.rest, .slice none 0 0] 50) := ⟨_, rfl⟩
          have HW4 : Hid (w4 = w3.alloc (.cells #[.int .i64 y.k, .int .i64 y.id, .slice y.ao y.T.length y.cap, .bool y.rest, .slice none 0 0] 50)) := hw4
          have hb4 : Below w3.heap.size w3 w4 := by rw [hw4]; exact below1 _ _
          have h30 := H3.out.1.size
          have hp3 := H3.out.2.1.rx.pl
          have hg3 := H3.out.2.1.rx.gl
          have ht3 := Blk.lt H3.out.2.1.th
          have h34 : w3.heap.size < w4.heap.size := by rw [hw4]; simp
          have hak : Ak W0.heap.size w4.heap.size w3.heap.size y w4 [] := by
            refine ⟨⟨.slice none 0 0, by rw [hw4]; exact blk_new w3 [_, _, _, _, _] 50, Own.nil _, fun z q => by cases q⟩, ?_⟩
            exact HDK.out.bs.below (H3W.out.trans (hb4.mono h30))
          have U := us_asked W0.heap.size w4.heap.size w3.heap.size p y HDK.out.le (by omega) h30 H3.out.2.1.p0 (by omega) h34
          have CN0 := Next_z U rfl (H3.out.2.1.rx.below hb4) hak (by omega) (by omega) (i : Int)
          obtain ⟨t, ht1, ht2, ht3', ht4, ht5⟩ := nx_rt (tell y.T y.rest) (i : Int) (2 * L.length + 1) L [] 0
          obtain ⟨R, hR⟩ : ∃ R, R = nxt (tell y.T y.rest) (i : Int) L [] := ⟨_, rfl⟩
          have hR2 : R.2.1 = t := by rw [hR]; unfold nxt; rw [ht2, Nat.zero_add]
          have hR3 : R.2.2.1 = rt L t := by rw [hR]; unfold nxt; exact ht3'
          have hR0 : L = [] → R.1 = none := fun e => by rw [hR, e]; rfl
          rw [← hR] at CN0
          obtain ⟨idv, hid⟩ : ∃ i : Int, i = R.1.getD 0 := ⟨_, rfl⟩
          obtain ⟨erv, her⟩ : ∃ i : Int, i = (if R.1.isSome then 0 else 190) := ⟨_, rfl⟩
          have HER : Hid (L = [] → erv = 190) := fun e => by rw [her, hR0 e]; rfl
          have HRT : Hid (t ≤ 2 * L.length + 1) := ht1
          have CN : Hid (Calls Try.prog 18 #[.pointer (some ⟨p, 0, none⟩), .int .i64 i, .func (.func 21) #[.pointer (some ⟨w3.heap.size, 0, none⟩)] #[]] w4 fun e w' => e = .returned (.tuple #[.int .i64 idv, .int .i64 t, .int .i64 erv]) ∧ Rx w' p g (rt L t) ∧ Ch (fun k => k = p ∨ k = w3.heap.size ∨ w4.heap.size ≤ k) w4 w') := by
            rw [hid, her]
            refine CN0.mono ?_
            rintro e w' ⟨h1, h2, h3, h4⟩
            rw [hR3] at h2
            unfold nval at h1
            rw [hR2] at h1
            exact ⟨h1, h2, h4⟩
          have HB4 : Hid (Below w3.heap.size w3 w4) := hb4
          clear CN0 hR U hak hb4 hw4 hid her ht1 ht2 ht3' ht4 ht5 hR2 hR3 hR0
          go_wp2_with fail
          rw [← HW4.out]
          refine CN.out.mono ?_
          rintro e w5 ⟨rfl, x5, c5⟩
          have H5 : Hid (Below W0.heap.size W0 w5 ∧ Rd W0.heap.size w5 p g b (rt L t) ∧ Own w5 vw L) := by
            have hbne := H3.out.2.1.bp
            refine ⟨(H3.out.1.trans (HB4.out.mono h30)).trans (c5.to (by omega) (fun z q => by rcases q with q | q | q <;> omega)), ⟨x5, ?_, H3.out.2.1.bp, H3.out.2.1.bg, H3.out.2.1.p0, H3.out.2.1.g0, H3.out.2.1.b0, by rw [rt_len]; exact H3.out.2.1.le⟩, (H3.out.2.2.below HB4.out).ch c5 (fun z hz q => by have := HVW.out z hz; have := H3.out.2.2.lt z hz; rcases q with q | q | q <;> omega)⟩
            unfold Th
            rw [th_same (rt_perm L t)]
            exact (Blk.below H3.out.2.1.th HB4.out).ch c5 (fun q => by rcases q with q | q | q <;> omega)
          have CM : Hid (Calls _ _ _ _ _) := List_ok H5.out.2.1.rx
          clear CN x5 c5 HDK H3
          go_wp2_with fail
          refine CM.out.mono ?_
          rintro e w6 ⟨vn, rfl, n6⟩
          have H6 : Hid (Below W0.heap.size W0 w6 ∧ Rd W0.heap.size w6 p g b (rt L t) ∧ Own w6 vw L ∧ Own w6 vn (rt L t)) := ⟨H5.out.1.trans (n6.2.1.mono H5.out.1.size), H5.out.2.1.below n6.2.1, H5.out.2.2.below n6.2.1, n6.1⟩
          have HLX : Hid ((rt L t).length = L.length) := rt_len L t
          have hm2 : L.length ≤ 120 := by have := H5.out.2.1.le; rw [rt_len] at this; exact this
          obtain ⟨qn, cn, hvn, _⟩ := n6.1.lst
          obtain ⟨qw, cw, hvw, _⟩ := H5.out.2.2.lst
          subst hvn hvw
          clear CM n6 H5 HVW
          rw [HLX.out] at H6 ⊢
          have HRG : Hid (∀ k, k < L.length → (rt L t)[k]? = some (L.getD ((k + t) % L.length) 0) ∧ L[(k + t) % L.length]? = some (L.getD ((k + t) % L.length) 0)) := fun k hk => by
            have h0 : (k + t) % L.length < L.length := Nat.mod_lt _ (by omega)
            have h1 : L[(k + t) % L.length]? = some (L.getD ((k + t) % L.length) 0) := by rw [List.getD_eq_getElem?_getD, List.getElem?_eq_getElem h0]; rfl
            exact ⟨by rw [rt_get hk, h1], h1⟩
          have HNE : Hid (0 < L.length → L ≠ []) := fun q e => by rw [e] at q; simp at q
          generalize hln : L.length = m at *
          have htm : t ≤ 241 := by have := HRT.out; omega
          have hcs : (((m : Int) == 0) = true ∧ erv = 190) ∨ ((m : Int) == 0) = false := by
            by_cases hm0 : m = 0
            · exact Or.inl ⟨by simp [hm0], HER.out (List.eq_nil_of_length_eq_zero (by omega))⟩
            · exact Or.inr (by simp; omega)
          clear HER
          rcases hcs with ⟨hmb, rfl⟩ | hmb
          all_goals (
            go_wp2_with fail
            rename_i wr2
            go_loopw [17] (fun ti wr => ∃ (k q : Nat), ti = .int .i64 (k : Nat) ∧ k ≤ m ∧ wr = w6.drewN q) (fun ti _ => m - (intOf ti).toNat)
            case atStart => exact ⟨0, 0, rfl, by omega, rfl⟩
            case round =>
              obtain ⟨k, q, rfl, hk2, hwr⟩ := hrel
              have HWR : Hid (wr = w6.drewN q) := hwr
              by_cases hkm : k < m
              · obtain ⟨hg1, hg2⟩ := HRG.out k hkm
                have hmod : ((k : Int) + (t : Int)).tmod (m : Int) = (((k + t) % m : Nat) : Int) := by
                  rw [Int.tmod_eq_emod_of_nonneg (by omega)]
                  exact (Int.natCast_emod (k + t) m).symm
                have hlt2 : (k + t) % m < m := Nat.mod_lt _ (by omega)
                obtain ⟨g1, c1, L1, e1, _⟩ := H6.out.2.2.2.shape.resolve_left (fun z => by have := HLX.out; rw [z.2] at this; simp at this; omega)
                obtain ⟨g2, c2, L2, e2, _⟩ := H6.out.2.2.1.shape.resolve_left (fun z => by rw [z.2] at hln; simp at hln; omega)
                injection e1 with e1a e1b e1c
                injection e2 with e2a e2b e2c
                subst e1a e2a
                clear e1b e1c e2b e2c
                have o1 := H6.out.2.2.2
                have o2 := H6.out.2.2.1
                rw [← HLX.out] at o1
                rw [← hln] at o2
                have ck : wr.cell? ⟨g1, k, none⟩ = some (.int .i64 (L.getD ((k + t) % m) 0)) := by rw [hwr]; exact o1.cells hg1
                have cw2 : wr.cell? ⟨g2, (k + t) % m, none⟩ = some (.int .i64 (L.getD ((k + t) % m) 0)) := by rw [hwr]; exact o2.cells hg2
                clear hg1 hg2 o1 o2 hwr
                generalize L.getD ((k + t) % m) 0 = val at *
                generalize (k + t) % m = kt at *
                go_wp2
                go_quiet (fail)
                go_wp2
                go_roundw
                case rel => exact ⟨k + 1, q + nq, by go_num, by omega, by rw [HWR.out]; simp [World.drewN_drewN]⟩
                case measure => simp [intOf]; omega
              · obtain rfl : k = m := by omega
                have HX : Hid (Below W0.heap.size W0 wr ∧ Rd W0.heap.size wr p g b (rt L t)) := by
                  have hdb : Below w6.heap.size w6 wr := by rw [hwr]; exact below_drewN w6 q
                  exact ⟨H6.out.1.trans (hdb.mono H6.out.1.size), H6.out.2.1.below hdb⟩
                clear hwr HWR H6 HRG
                have CZ : Hid (Calls _ _ _ _ _) := List_ok HX.out.2.rx
                go_wp2_with fail
                refine CZ.out.mono ?_
                rintro e wz ⟨vz, rfl, nz⟩
                obtain ⟨qz, cz, hvz, _⟩ := nz.1.lst
                subst hvz
                have HZ : Hid (Below W0.heap.size W0 wz ∧ Rd W0.heap.size wz p g b (rt L t)) := ⟨HX.out.1.trans (nz.2.1.mono HX.out.1.size), HX.out.2.below nz.2.1⟩
                rw [HLX.out]
                clear CZ nz HX
                go_wp2
                go_roundw
                case rel => exact ⟨j + 1, g, rt L t, by rw [HLX.out]; skip, by go_num, by omega, by omega, HZ.out.1, HZ.out.2, by have := HLJ.out; rw [HLX.out]; omega⟩
                case measure => simp [intOf]; omega)
      · go_wp2
        go_ret
        exact ⟨rfl, HR.out.1⟩
    · go_wp2
      go_ret
      exact ⟨rfl, HR.out.1⟩
end Go.Proofs.Ytimeoinmepfpnaa.Ri
