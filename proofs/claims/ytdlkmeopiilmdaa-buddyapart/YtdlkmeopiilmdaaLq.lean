/- What the statement's lists says: the program's lists are the reference's, and new memory; no condition but those that it names. -/
import Derived.Test.YtdlkmeopiilmdaaHd
namespace Go.Proofs.Ytdlkmeopiilmdaa
open Go.ChangeShapes Go.WideShapes Go.ChangeAt Go.RowKit
set_option linter.unusedVariables false

theorem St.len {n : Nat} {op : Nat → Bool} {L : Nat → List Nat} {tk : Nat → Option Nat} (h : St n op L tk) (hn : n ≤ 4096) : ∀ i, i < 7 → (L i).length ≤ 4096 := by
  intro i hi
  have h1 := h.cn
  have h2 := cnt_le op n
  unfold fr at h1
  rcases six (show i ≤ 6 by omega) with rfl | rfl | rfl | rfl | rfl | rfl | rfl <;> omega
theorem St.up {n : Nat} {op : Nat → Bool} {L : Nat → List Nat} {tk : Nat → Option Nat} (h : St n op L tk) : ∀ i, i < 7 → (L i).Pairwise (· < ·) := fun i hi => (h.fit i (by omega)).1
theorem Own.setAt {w : World} {v : Value} {l : List Int} (h : Own w v l) (k : Nat) (hk : k < l.length) (x : Int) (g cap : Nat) (e : v = .slice (some ⟨g, 0, none⟩) l.length cap) : Own (w.setCell ⟨g, k, none⟩ (.int .i64 x)) v (l.set k x) := by
  subst e
  obtain ⟨g', cap', Lv, e, hB, h1, h2, h3, h4⟩ := h.shape.resolve_left (by rintro ⟨q, _⟩; cases q)
  cases e
  have hl : (l.set k x).length = l.length := by simp
  have := Own.of_blk (l := l.set k x) (hB.set k (.int .i64 x)) (by rw [hl]; exact h1) h2 (by simp; exact h3) (by
    rw [hl, List.take_set, h4]
    simp [tv, List.map_set])
  rw [hl] at this
  exact this
theorem Rws.turn_in {w w1 : World} {F : Nat → Prop} {g k : Nat} {M : Nat → List Int} {V : Nat → Value} (h : Rws w F g k M V) (i : Nat) (hi : i < k) (l' : List Int) (G1 : w.grownBy w1 (V i).ownBlock) (ho : Own w1 (V i) l') : Rws w1 F g k (put M i l') V := by
  have eg : w1.heap[g]? = w.heap[g]? := G1.block g (h.lt g h.fg) (fun e => h.vg i hi e.symm)
  refine ⟨fun b hb => Nat.lt_of_lt_of_le (h.lt b hb) G1.size, h.fg, h.fv, fun j hj => (World.cell?_of_block (w := w) (a := ⟨g, j, none⟩) eg).trans (h.row j hj), fun j hj => (World.frozen?_of_block (w := w) (a := ⟨g, j, none⟩) eg).trans (h.fz j hj), fun j hj => ?_, h.vg, h.inj⟩
  by_cases e : j = i
  · subst e
    rw [put_same]
    exact ho
  · rw [put_other _ _ _ _ e]
    exact (h.own j hj).of_eq (fun b hb => G1.block b ((h.own j hj).lt b hb) (fun q => h.inj j i b hj hi e hb q.symm))
theorem Own.frozen {w : World} {g n cap : Nat} {l : List Int} (h : Own w (.slice (some ⟨g, 0, none⟩) n cap) l) (i : Nat) : w.frozen? ⟨g, i, none⟩ = false := by
  obtain ⟨g', cap', Lv, e, hB, _⟩ := h.shape.resolve_left (by rintro ⟨q, _⟩; cases q)
  cases e
  exact hB.frozen i
/-- What the outer loop has of the first answer. -/
def Qst (D : Nat → Prop) (w3 wr : World) (g i : Nat) (m : Nat → Nat) : Prop := ∃ M F V, Rws wr F g 7 M V ∧ (∀ j, i ≤ j → j < 7 → (M j).length = m j) ∧ (∀ b, F b → D b) ∧ Kp D D w3 wr
theorem news_two (w : World) (x y : Int) : ∀ k u, [Value.int .i64 x, Value.int .i64 y][k]? = some u → (w.alloc (.cells #[.int .i64 x, .int .i64 y] 3)).cell? ((⟨w.heap.size, 0, none⟩ : Addr).add k) = some u := fun k u hk => by
  rw [Go.WideShapes.add_plain, Nat.zero_add]
  exact ((blk_new w [.int .i64 x, .int .i64 y] 3).cell k).trans hk
theorem ints_one2 (x y : Int) : ∀ v ∈ [Value.int .i64 x, Value.int .i64 y], v.oneCell' = true := by
  intro v hv
  simp at hv
  rcases hv with rfl | rfl <;> rfl
theorem Ls.kept {B : Nat} {w w' : World} {v : Value} {M : Nat → List Int} {D : Nat → Prop} (h : Ls B w v M) (k : Kp D D w w') (hd : ∀ b, B ≤ b → b < w.heap.size → ¬ D b) : Ls B w' v M := by
  obtain ⟨g, cap, F, V, rfl, R, hF⟩ := h
  exact ⟨g, cap, F, V, rfl, R.of_eq k.size (fun b hb => k.block b (R.lt b hb) (hd b (hF b hb) (R.lt b hb))), hF⟩
set_option maxHeartbeats 2000000 in
theorem lists_ok {w : World} {G : Nat → Prop} {p q go gt n : Nat} {op : Nat → Bool} {L : Nat → List Nat} {tk tk' : Nat → Option Nat} (hB : Bu w G p L tk) (hR : Rb w q go gt n op tk') (hS : St n op L tk) :
    Calls Try.prog 20 #[.pointer (some ⟨p, 0, none⟩), .pointer (some ⟨q, 0, none⟩)] w fun e w' => e = .returned (.bool true) ∧ w.grownBy w' none := by
  have HB : Hid (Bu w G p L tk) := hB
  have HR : Hid (Rb w q go gt n op tk') := hR
  have HS : Hid (St n op L tk) := hS
  have HL : Hid (∀ i, i < 7 → (L i).length ≤ 4096) := hS.len hR.n4
  have HL5 : Hid (∀ i, i < 7 → ((fun i => ints (L i)) i).length ≤ 5000) := fun i hi => by have := HL.out i hi; simp only [ints_len]; omega
  have C1 : Hid (Calls _ _ _ _ _) := Lists_any hB HL.out
  clear hB hR hS
  go_enter Try.func20, Try.ntmps20
  go_wp2_with fail
  refine C1.out.mono ?_
  rintro e w1 ⟨v1, rfl, L1, g1⟩
  have HL1 : Hid (Ls w.heap.size w1 v1 (fun i => ints (L i))) := L1
  have HG1 : Hid (w.grownBy w1 none) := g1
  obtain ⟨ga, ca, rfl, _⟩ := L1.cell
  have C2 : Hid (Calls _ _ _ _ _) := Lists_any (HB.out.none g1) HL.out
  clear L1 g1 C1
  go_wp2_with fail
  refine C2.out.mono ?_
  rintro e w2 ⟨v2, rfl, L2, g2⟩
  have HL2 : Hid (Ls w1.heap.size w2 v2 (fun i => ints (L i))) := L2
  have HG2 : Hid (w1.grownBy w2 none) := g2
  obtain ⟨gc, cc, rfl, _⟩ := L2.cell
  have HR2 : Hid (Rb w2 q go gt n op tk') := HR.out.of_eq (HG1.out.trans g2).size ((HG1.out.trans g2).block q HR.out.ql (by simp)) ((HG1.out.trans g2).block go HR.out.ol (by simp)) ((HG1.out.trans g2).block gt HR.out.tl (by simp))
  have C3 : Hid (Calls _ _ _ _ _) := rLists_ok HR2.out HS.out.lt HS.out.fit
  clear L2 g2 C2
  go_wp2_with fail
  refine C3.out.mono ?_
  rintro e w3 ⟨v3, rfl, L3, g3⟩
  have HL3 : Hid (Ls w2.heap.size w3 v3 (fun i => ints (L i))) := L3
  have HG3 : Hid (w2.grownBy w3 none) := g3
  obtain ⟨gw, cw, rfl, _⟩ := L3.cell
  have C4 : Hid (Calls _ _ _ _ _) := same_ok (HL1.out.none (HG2.out.trans g3)) L3 HL5.out
  clear L3 g3 C3
  go_wp2_with fail
  refine C4.out.mono ?_
  rintro e w4 ⟨rfl, g4⟩
  have HG4 : Hid (w3.grownBy w4 none) := g4
  clear g4 C4
  obtain ⟨D, hD⟩ : ∃ D : Nat → Prop, D = fun b => (w.heap.size ≤ b ∧ b < w1.heap.size) ∨ w4.heap.size ≤ b := ⟨_, rfl⟩
  have HD : Hid (∀ b, D b ↔ (w.heap.size ≤ b ∧ b < w1.heap.size) ∨ w4.heap.size ≤ b) := fun b => by rw [hD]
  clear hD
  have HQ0 : Hid (Qst D w4 w4 ga 0 (fun i => (L i).length)) := by
    obtain ⟨g', cap', F, V, e1, R, hF⟩ := HL1.out
    cases e1
    have gg := (HG2.out.trans HG3.out).trans HG4.out
    refine ⟨fun i => ints (L i), F, V, R.of_eq gg.size (fun b hb => gg.block b (R.lt b hb) (by simp)), fun j _ _ => by simp only [ints_len], fun b hb => (HD.out b).2 (Or.inl ⟨hF b hb, R.lt b hb⟩), Kp.refl _ _⟩
  obtain ⟨i0, hi0, hz0, hz1, hz2⟩ := info_parts Try.infoI
  go_wp2_with fail
  go_loopw [8] (fun z wr => ∃ i : Nat, i ≤ 7 ∧ z = .int .i64 i ∧ Qst D w4 wr ga i (fun i => (L i).length)) (fun z _ => 7 - (iv z).toNat)
  case atStart => exact ⟨0, by omega, rfl, HQ0.out⟩
  case round =>
    obtain ⟨i, hi, rfl, hQ⟩ := hrel
    by_cases hi7 : i < 7
    · have hi7I : (i : Int) < 7 := by omega
      have hi0I : (0 : Int) ≤ (i : Int) := by omega
      obtain ⟨M, F, V, R, hlen, hF, hK⟩ := hQ
      have HF : Hid (∀ b, F b → D b) := hF
      have hm := hlen i (Nat.le_refl _) hi7
      have hml := HL.out i hi7
      obtain ⟨m, hme⟩ : ∃ m, (L i).length = m := ⟨_, rfl⟩
      simp only [hme] at hm hml
      have HLE : Hid (∀ j, i + 1 ≤ j → j < 7 → (M j).length = (L j).length) := fun j h1 h2 => hlen j (by omega) h2
      clear hme
      obtain ⟨av, cv, hv⟩ := (R.own i hi7).len
      rw [hm] at hv
      have HV : Hid (V i = .slice av m cv) := hv
      have HST : Hid (∃ M', Rws wr F ga 7 M' V ∧ (M' i).length = m ∧ (∀ j, i + 1 ≤ j → j < 7 → (M' j).length = (L j).length) ∧ Kp D D w4 wr) := ⟨M, R, hm, HLE.out, hK⟩
      clear R hlen hF hK hv HLE hm
      go_wp2
      go_loopw [9] (fun z wq => ∃ k : Nat, k ≤ m ∧ z = .int .i64 k ∧ ∃ M', Rws wq F ga 7 M' V ∧ (M' i).length = m ∧ (∀ j, i + 1 ≤ j → j < 7 → (M' j).length = (L j).length) ∧ Kp D D w4 wq) (fun z _ => m - (iv z).toNat)
      case atStart => exact ⟨0, by omega, rfl, HST.out⟩
      case round =>
        obtain ⟨k, hk, rfl, M', R', hl', hj', hK'⟩ := hrel
        have HR' : Hid (Rws wr F ga 7 M' V) := R'
        have HJ' : Hid (∀ j, i + 1 ≤ j → j < 7 → (M' j).length = (L j).length) := hj'
        have HK' : Hid (Kp D D w4 wr) := hK'
        have hr := R'.row i hi7
        have hfr := R'.fz i hi7
        have how := R'.own i hi7
        rw [HV.out] at hr how
        have HOW : Hid (Own wr (.slice av m cv) (M' i)) := how
        have HLM : Hid ((M' i).length = m) := hl'
        clear R' hj' hK' how hl'
        by_cases hkm : k < m
        · obtain ⟨x, hx⟩ : ∃ x, (M' i)[k]? = some x := ⟨_, List.getElem?_eq_getElem (by rw [HLM.out]; exact hkm)⟩
          obtain ⟨g5, c5, e5, d5⟩ := HOW.out.cell hx
          rw [HLM.out] at e5
          cases e5
          have f5 := HOW.out.frozen k
          have hkI : (k : Int) < (m : Int) := by omega
          have hne : ga ≠ g5 := fun e => by
            have := HR'.out.vg i hi7
            rw [HV.out] at this
            exact this (by rw [e]; rfl)
          have hg5 : D g5 := HF.out g5 (HR'.out.fv i g5 hi7 (by rw [HV.out]; rfl))
          have HNX : Hid (∃ M'', Rws (wr.setCell ⟨g5, k, none⟩ (.int .i64 (-9))) F ga 7 M'' V ∧ (M'' i).length = m ∧ (∀ j, i + 1 ≤ j → j < 7 → (M'' j).length = (L j).length) ∧ Kp D D w4 (wr.setCell ⟨g5, k, none⟩ (.int .i64 (-9)))) := by
            have ho := HOW.out.setAt k (by rw [HLM.out]; exact hkm) (-9) g5 cv (by rw [HLM.out])
            have G5 := grown_setCell' wr g5 k (.int .i64 (-9))
            refine ⟨put M' i ((M' i).set k (-9)), HR'.out.turn_in i hi7 _ (by rw [HV.out]; exact G5) (by rw [HV.out]; exact ho), by rw [put_same]; simp; exact HLM.out, fun j h1 h2 => by rw [put_other _ _ _ _ (by omega)]; exact HJ'.out j h1 h2, HK'.out.trans (Kp.of_grown G5 (fun c e => by cases e; exact hg5) (fun _ z => Or.inl z))⟩
          clear hx HOW
          go_wp2
          exact ⟨⟨k + 1, by omega, by go_num, HNX.out⟩, by simp [iv]; omega⟩
        · obtain rfl : m = k := by omega
          have hpw : ga < wr.heap.size := HR'.out.lt _ HR'.out.fg
          have HUW : Hid (∀ W, Below wr.heap.size wr W → W.ownsRow 0 3 1 (.slice av m cv) m (tv (M' i))) := fun W hW => by
            have := HOW.out.of_eq (w' := W) (fun c hc => hW.block c (HOW.out.lt c hc))
            unfold Own at this
            rwa [HLM.out] at this
          have HC : Hid (∀ w1, wr.grownBy w1 (Value.slice av m cv).ownBlock → w1.cell? ⟨ga, i, none⟩ = some (.slice av m cv) ∧ w1.frozen? ⟨ga, i, none⟩ = false) := fun w1 G => by
            have := HR'.out.vg i hi7
            rw [HV.out] at this
            exact ⟨(G.cell_far ⟨ga, i, none⟩ hpw (fun e => this e.symm)).trans hr, (G.frozen_far ⟨ga, i, none⟩ hpw (fun e => this e.symm)).trans hfr⟩
          go_wp2_with (at_builtin; refine wpList_append_lies _ rfl (.tmp 46) (.tmp 47) 44 rfl 0 3 i0 _ 1 8 Try.underlying44 hi0 hz0 hz1 hz2 rfl (by decide) (.slice av m cv) m (tv (M' i)) rfl (HUW.out _ ((Below.refl _ wr).alloc (Nat.le_refl _) _)) ⟨wr.heap.size, 0, none⟩ 2 2 [.int .i64 (-8), .int .i64 (-7)] rfl rfl (news_two wr (-8) (-7)) (ints_one2 _ _) (by omega) (by unfold maxLen; omega) (by omega) (Nat.zero_le _) (wr.heap.size + 1) (by simp) ?_; intro g6 k6 w6 o6 gr6 at6 lt6; have G6 : Hid (wr.grownBy w6 (Value.slice av m cv).ownBlock) := (World.grownBy_alloc wr _ _).trans gr6; obtain ⟨r1, r2⟩ := HC.out w6 G6.out)
          have HNX : Hid (Qst D w4 (w6.setCell ⟨ga, i, none⟩ (.slice (some ⟨g6, 0, none⟩) (m + 2) k6)) ga (i + 1) (fun i => (L i).length)) := by
            have hz := HR'.out.turn i hi7 (.slice (some ⟨g6, 0, none⟩) (m + 2) k6) (M' i ++ [-8, -7]) (w1 := w6) (by rw [HV.out]; exact G6.out) (by
              unfold Own
              have e1 : (M' i ++ [-8, -7]).length = m + 2 := by rw [List.length_append, HLM.out]; rfl
              have e2 : tv (M' i ++ [-8, -7]) = tv (M' i) ++ [.int .i64 (-8), .int .i64 (-7)] := by simp [tv]
              rw [e1, e2]
              exact o6) (fun c hc => by
              rw [HV.out]
              obtain rfl : g6 = c := by simpa [Value.ownBlock] using hc
              rcases at6 with z | z
              · exact Or.inl z
              · exact Or.inr (by omega))
            obtain ⟨R1, K1⟩ := hz
            refine ⟨_, _, _, R1, fun j h1 h2 => by rw [put_other _ _ _ _ (by omega)]; exact HJ'.out j h1 h2, ?_, HK'.out.trans ⟨K1.os, K1.tape, K1.output, K1.size, fun b hb hn => K1.block b hb (fun z => hn (HF.out b z)), fun b z => Or.inl z⟩⟩
            intro b hb
            rcases hb with z | z
            · exact HF.out b z
            · exact (HD.out b).2 (Or.inr (Nat.le_trans HK'.out.size z.1))
          clear r1 r2 G6 gr6 o6 at6 lt6 HC HUW hr hfr HOW
          generalize w6.setCell ⟨ga, i, none⟩ (.slice (some ⟨g6, 0, none⟩) (m + 2) k6) = w7 at *
          go_wp2
          exact ⟨⟨i + 1, by omega, by go_num, HNX.out⟩, by simp [iv]; omega⟩
    · obtain rfl : i = 7 := by omega
      obtain ⟨M, F, V, R, hlen, hF, hK⟩ := hQ
      have HK : Hid (Kp D D w4 wr) := hK
      have s1 := HG1.out.size
      have s2 := HG2.out.size
      have s3 := HG3.out.size
      have s4 := HG4.out.size
      have HL2e : Hid (Ls w1.heap.size wr (.slice (some ⟨gc, 0, none⟩) 7 cc) (fun i => ints (L i))) := by
        obtain ⟨g', cap', F', V', e1, R', hF'⟩ := HL2.out
        cases e1
        have gg := HG3.out.trans HG4.out
        exact ⟨_, _, F', V', rfl, (R'.of_eq gg.size (fun b hb => gg.block b (R'.lt b hb) (by simp))).of_eq hK.size (fun b hb => hK.block b (by have := R'.lt b hb; omega) (fun z => by have z1 := R'.lt b hb; have z2 := hF' b hb; rcases (HD.out b).1 z with z3 | z3 <;> omega)), hF'⟩
      have HL3e : Hid (Ls w2.heap.size wr (.slice (some ⟨gw, 0, none⟩) 7 cw) (fun i => ints (L i))) := by
        obtain ⟨g', cap', F', V', e1, R', hF'⟩ := HL3.out
        cases e1
        exact ⟨_, _, F', V', rfl, (R'.of_eq HG4.out.size (fun b hb => HG4.out.block b (R'.lt b hb) (by simp))).of_eq hK.size (fun b hb => hK.block b (by have := R'.lt b hb; omega) (fun z => by have z1 := R'.lt b hb; have z2 := hF' b hb; rcases (HD.out b).1 z with z3 | z3 <;> omega)), hF'⟩
      have HGR : Hid (w.grownBy wr none) := by
        have gg := ((HG1.out.trans HG2.out).trans HG3.out).trans HG4.out
        exact ⟨hK.os.trans gg.os, hK.tape.trans gg.tape, hK.output.trans gg.output, Nat.le_trans gg.size hK.size, fun b hb hn => (hK.block b (by omega) (fun z => by rcases (HD.out b).1 z with z3 | z3 <;> omega)).trans (gg.block b hb hn)⟩
      have C5 : Hid (Calls _ _ _ _ _) := same_ok HL2e.out HL3e.out HL5.out
      clear R hlen hF hK
      go_wp2_with fail
      refine C5.out.mono ?_
      rintro e w8 ⟨rfl, g8⟩
      have HG8 : Hid (w.grownBy w8 none) := HGR.out.trans g8
      have HL8 : Hid (Ls w2.heap.size w8 (.slice (some ⟨gw, 0, none⟩) 7 cw) (fun i => ints (L i))) := HL3e.out.none g8
      have C6 : Hid (Calls _ _ _ _ _) := Lists_any (HB.out.none HG8.out) HL.out
      clear C5 g8
      go_wp2_with fail
      refine C6.out.mono ?_
      rintro e w9 ⟨v9, rfl, L9, g9⟩
      have HG9 : Hid (w.grownBy w9 none) := HG8.out.trans g9
      have C7 : Hid (Calls _ _ _ _ _) := same_ok L9 (HL8.out.none g9) HL5.out
      obtain ⟨g', c', rfl, _⟩ := L9.cell
      clear C6 g9 L9
      go_wp2_with fail
      refine C7.out.mono ?_
      rintro e w10 ⟨rfl, g10⟩
      have HG10 : Hid (w.grownBy w10 none) := HG9.out.trans g10
      clear g10 C7
      go_wp2
      go_ret
      exact ⟨rfl, HG10.out⟩
end Go.Proofs.Ytdlkmeopiilmdaa
