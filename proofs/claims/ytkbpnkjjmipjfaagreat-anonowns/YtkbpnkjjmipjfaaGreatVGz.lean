/- What Take of package buddy gives back and writes; no condition but the ranges that each theorem names. -/
import Derived.Test.YtkbpnkjjmipjfaaGreatVGy
import Derived.WalkMore
import Derived.Deep.LoopGhost
namespace Go.Proofs.YtkbpnkjjmipjfaaGreat.B
open Go.ChangeShapes Go.WideShapes Go.ChangeAt Go.RowKit
set_option linter.unusedVariables false
set_option maxRecDepth 8192

theorem order_any (o : Int) (w : World) : Calls Tryz.prog 173 #[.int .i64 o] w fun e w' => e = .returned (.bool (decide (0 ≤ o) && decide (o ≤ 6))) ∧ w' = w := by
  by_cases h : 0 ≤ o
  · go_enter Tryz.func173, Tryz.ntmps173
    go_wp2
    go_ret
    exact ⟨ret_bool (by simp [h]), rfl⟩
  · go_enter Tryz.func173, Tryz.ntmps173
    go_wp2
    go_ret
    exact ⟨ret_bool (by simp; omega), rfl⟩
def hvL (L : Nat → List Nat) (o k a : Nat) : Nat → List Nat := fun i => if o ≤ i ∧ i < k then L i ++ [a + 2 ^ i] else L i
set_option maxHeartbeats 1000000 in
theorem halve_ok {w : World} {G : Nat → Prop} {p : Nat} {L : Nat → List Nat} {tk : Nat → Option Nat} (h : Bu w G p L tk) (hl : ∀ i, i < 7 → (L i).length ≤ 4096) (a o k : Nat) (ha : a ≤ 8192) (ho : o ≤ k) (hk : k ≤ 6) :
    Calls Tryz.prog 187 #[.pointer (some ⟨p, 0, none⟩), .int .i64 a, .int .i64 k, .int .i64 o] w fun e w' => e = .returned (.tuple #[]) ∧ ∃ G', Bu w' G' p (hvL L o k a) tk ∧ Kp G G' w w' := by
  have HB : Hid (Bu w G p L tk) := h
  have HL : Hid (∀ i, i < 7 → (L i).length ≤ 4096) := hl
  clear h hl
  go_enter Tryz.func187, Tryz.ntmps187
  go_wp2
  go_loopw [8] (fun z wr => ∃ j : Nat, o ≤ j ∧ j ≤ k ∧ z = .int .i64 ((j : Int) - 1) ∧ ∃ G', Bu wr G' p (hvL L j k a) tk ∧ Kp G G' w wr) (fun z _ => (iv z + 1).toNat)
  case atStart =>
    refine ⟨k, ho, Nat.le_refl _, rfl, G, HB.out.congr (fun i hi => ?_), Kp.refl _ _⟩
    unfold hvL
    rw [if_neg (by omega)]
  case round =>
    obtain ⟨j, h1, h2, rfl, hN⟩ := hrel
    by_cases hjo : o < j
    · obtain ⟨G1, hB, hK⟩ := hN
      obtain ⟨i, rfl⟩ : ∃ i, j = i + 1 := ⟨j - 1, by omega⟩
      have HK : Hid (Kp G G1 w wr) := hK
      obtain ⟨b, V, hP⟩ := hB
      have HP : Hid (Bp wr G1 p b V (hvL L (i + 1) k a) tk) := hP
      have hr := hP.rws.row i (by omega)
      have hf := hP.rws.fz i (by omega)
      have hw1 := hP.rws.own i (by omega)
      have e0 : hvL L (i + 1) k a i = L i := by unfold hvL; rw [if_neg (by omega)]
      have HE0 : Hid (hvL L (i + 1) k a i = L i) := e0
      rw [e0] at hw1
      clear e0
      obtain ⟨g0, c0, hv⟩ := hw1.len
      rw [hv] at hr hw1
      have HV : Hid (V i = _) := hv
      have HO : Hid (Own wr _ _) := hw1
      have hm := HL.out i (by omega)
      clear hP hv hw1 hK
      rw [ints_len] at hr HV HO
      have HLI : Hid (ints (L i) = ints (L i)) := rfl
      obtain ⟨m, hme⟩ : ∃ m, (L i).length = m := ⟨_, rfl⟩
      have HME : Hid ((L i).length = m) := hme
      rw [hme] at hr HV HO hm
      clear hme
      have hpw : p < wr.heap.size := HP.out.lt _ HP.out.gp
      have hsh := shl_wrap i (by omega)
      have hpl := pow_le i (by omega)
      obtain ⟨S, hS⟩ : ∃ S, 2 ^ i = S := ⟨_, rfl⟩
      have HS : Hid (2 ^ i = S) := hS
      rw [hS] at hsh hpl
      clear hS
      obtain ⟨i0, hi0, hz0, hz1, hz2⟩ := info_parts Tryz.infoI
      have HOW : Hid (∀ W, Below wr.heap.size wr W → W.ownsRow 0 3 1 (.slice g0 m c0) m (tv (ints (L i)))) := fun W hW => by
        have := HO.out.of_eq (w' := W) (fun g hg => hW.block g (HO.out.lt g hg))
        unfold Own at this
        rwa [ints_len, HME.out] at this
      have HB1 : Hid (Below wr.heap.size wr (wr.alloc (.cells #[.int .i64 ((a : Int) + S)] 3)).drew) := ((Below.refl _ wr).alloc (Nat.le_refl _) _).drew
      have HN1 : Hid (∀ k u, [Value.int .i64 ((a : Int) + S)][k]? = some u → (wr.alloc (.cells #[.int .i64 ((a : Int) + S)] 3)).drew.cell? ((⟨wr.heap.size, 0, none⟩ : Addr).add k) = some u) := fun k u hk => by
        rw [Go.WideShapes.add_plain, Nat.zero_add]
        exact ((blk_new wr [.int .i64 ((a : Int) + S)] 3).cell k).trans hk
      have HT : Hid (∀ v ∈ [Value.int .i64 ((a : Int) + S)], v.oneCell' = true) := by
        intro v hv
        simp at hv
        subst hv
        rfl
      have HC : Hid (∀ w1, wr.grownBy w1 (Value.slice g0 m c0).ownBlock → w1.cell? ⟨p, i, none⟩ = some (.slice g0 m c0)) := fun w1 G => by
        have := HP.out.rws.vg i (by omega)
        rw [HV.out] at this
        exact (G.cell_far ⟨p, i, none⟩ hpw (fun e => this e.symm)).trans hr
      have HZ : Hid (∀ w1, wr.grownBy w1 (Value.slice g0 m c0).ownBlock → w1.frozen? ⟨p, i, none⟩ = false) := fun w1 G => by
        have := HP.out.rws.vg i (by omega)
        rw [HV.out] at this
        exact (G.frozen_far ⟨p, i, none⟩ hpw (fun e => this e.symm)).trans hf
      have hr2 : (wr.alloc (.cells #[.int .i64 ((a : Int) + S)] 3)).cell? ⟨p, i, none⟩ = some (.slice g0 m c0) := (((Below.refl _ wr).alloc (Nat.le_refl _) _).cell (p := ⟨p, i, none⟩) hpw).trans hr
      have hj0 : (0 : Int) ≤ (i : Int) := by omega
      have hj7 : (i : Int) < 7 := by omega
      have hj7n : i < 7 := by omega
      have hij : ((i + 1 : Nat) : Int) - 1 = (i : Int) := by omega
      rw [hij]
      have hoi : (o : Int) ≤ (i : Int) := by omega
      have hwr : IntKind.i64.wrap ((a : Int) + (S : Int)) = (a : Int) + (S : Int) := IntWalk.i64_in _ (by omega)
      go_wp2
      go_region_law (first | (refine step_append_lies _ rfl (.tmp 23) (.tmp 28) 25 rfl 0 3 i0 _ 1 8 Tryz.underlying25 hi0 hz0 hz1 hz2 rfl (by decide) (.slice g0 m c0) m (tv (ints (L i))) rfl (HOW.out _ HB1.out) ⟨wr.heap.size, 0, none⟩ 1 1 [.int .i64 ((a : Int) + S)] rfl rfl HN1.out HT.out (by omega) (by unfold maxLen; omega) (by omega) (Nat.zero_le _) (wr.heap.size + 1) (by simp) ?_; intro g1 k1 w1 o1 gr1 at1 lt1; have G1 : Hid (wr.grownBy w1 (Value.slice g0 m c0).ownBlock) := ((World.grownBy_alloc wr _ _).trans (grown_drew _ _)).trans gr1; have r1 := HC.out w1 G1.out; have r2 := HZ.out w1 G1.out))
      all_goals (
        have HS1 : Hid (∃ G', Bu (w1.setCell ⟨p, i, none⟩ (.slice (some ⟨g1, 0, none⟩) (m + 1) k1)) G' p (hvL L i k a) tk ∧ Kp G G' w (w1.setCell ⟨p, i, none⟩ (.slice (some ⟨g1, 0, none⟩) (m + 1) k1))) := by
          obtain ⟨G', hB', hK'⟩ := HP.out.grow i (by omega) (a + S) g1 k1 (w1 := w1) (by rw [HV.out]; exact G1.out) (by
            rw [HE0.out, HME.out, show ((a + S : Nat) : Int) = (a : Int) + (S : Int) by omega]
            exact o1) (by
            rw [HV.out]
            rcases at1 with q | q
            · exact Or.inl q
            · exact Or.inr (by omega))
          rw [HE0.out, HME.out] at hB' hK'
          refine ⟨G', hB'.congr (fun c hc => ?_), HK.out.trans hK'⟩
          unfold put
          by_cases e : c = i
          · subst e
            rw [if_pos rfl]
            unfold hvL
            rw [if_pos (by omega), HS.out]
          · rw [if_neg e]
            unfold hvL
            by_cases e2 : i + 1 ≤ c ∧ c < k
            · rw [if_pos e2, if_pos (by omega)]
            · rw [if_neg e2, if_neg (by omega)]
        clear o1 gr1 at1 lt1 G1 r1 r2 hr hr2 hf HOW HB1 HN1 HT HC HZ HP HV HO HK HE0
        generalize w1.setCell ⟨p, i, none⟩ (.slice (some ⟨g1, 0, none⟩) (m + 1) k1) = w2 at *
        go_wp2
        go_roundw
        case rel => exact ⟨i, by omega, by omega, by go_num, HS1.out⟩
        case measure => simp [iv])
    · obtain rfl : j = o := by omega
      have HN : Hid (∃ G', Bu wr G' p (hvL L j k a) tk ∧ Kp G G' w wr) := hN
      clear hN
      go_wp2
      go_end0
      exact ⟨rfl, HN.out⟩
end Go.Proofs.YtkbpnkjjmipjfaaGreat.B
namespace Go.Proofs.YtkbpnkjjmipjfaaGreat.B
open Go.ChangeShapes Go.WideShapes Go.ChangeAt Go.RowKit
set_option linter.unusedVariables false
set_option maxRecDepth 8192

theorem Own.empty {w : World} {v : Value} (h : Own w v (ints [])) : ∃ a c, v = .slice a 0 c := by
  obtain ⟨a, c, e⟩ := h.len
  exact ⟨a, c, e⟩
theorem Take_none {w : World} {G : Nat → Prop} {p : Nat} {L : Nat → List Nat} {tk : Nat → Option Nat} (h : Bu w G p L tk) (o : Nat) (ho : o ≤ 6) (he : ∀ i, o ≤ i → i ≤ 6 → L i = []) :
    Calls Tryz.prog 146 #[.pointer (some ⟨p, 0, none⟩), .int .i64 o] w fun e w' => e = .returned (.tuple #[.int .i64 0, .int .i64 90]) ∧ w' = w := by
  have C1 : Hid (Calls _ _ _ _ _) := made_any h
  have C2 : Hid (Calls _ _ _ _ _) := order_any o w
  have hb : (decide ((0 : Int) ≤ (o : Int)) && decide ((o : Int) ≤ 6)) = true := by simp; omega
  rw [hb] at C2
  obtain ⟨b, V, hP⟩ := h
  have HR : Hid (∀ i, o ≤ i → i ≤ 6 → ∃ a c, w.cell? ⟨p, i, none⟩ = some (.slice a 0 c)) := fun i h1 h2 => by
    have h3 := hP.rws.own i (by omega)
    rw [he i h1 h2] at h3
    obtain ⟨a, c, e⟩ := h3.empty
    exact ⟨a, c, by rw [← e]; exact hP.rws.row i (by omega)⟩
  clear hP hb he
  go_enter Tryz.func146, Tryz.ntmps146
  go_wp2_with (first | (go_at_call 172; refine C1.out.mono ?_; rintro e w' ⟨rfl, h⟩; obtain rfl := h.symm) | (go_at_call 173; refine C2.out.mono ?_; rintro e w' ⟨rfl, h⟩; obtain rfl := h.symm))
  go_loopw [6] (fun z wr => ∃ j : Nat, o ≤ j ∧ j ≤ 7 ∧ z = .int .i64 j ∧ wr = w) (fun z _ => (7 - iv z).toNat)
  case atStart => exact ⟨o, Nat.le_refl _, by omega, rfl, rfl⟩
  case round =>
    obtain ⟨j, h1, h2, rfl, hw⟩ := hrel
    obtain rfl := hw
    by_cases hj : j ≤ 6
    · obtain ⟨a, c, hc⟩ := HR.out j h1 hj
      have hj0 : (0 : Int) ≤ (j : Int) := by omega
      have hj7 : (j : Int) < 7 := by omega
      go_wp2
      go_roundw
      case rel => exact ⟨j + 1, by omega, by omega, by go_num, by simp⟩
      case measure => simp [iv]; omega
    · obtain rfl : j = 7 := by omega
      go_wp2
      go_ret2
      exact ⟨rfl, rfl⟩
theorem ints_drop_one (a : Nat) (r : List Nat) : (ints (a :: r)).take 0 ++ (ints (a :: r)).drop (0 + 1) = ints r := by simp [ints]
set_option maxHeartbeats 2000000 in
theorem Take_ok {w : World} {G : Nat → Prop} {p : Nat} {L : Nat → List Nat} {tk : Nat → Option Nat} (h : Bu w G p L tk) (hl : ∀ i, i < 7 → (L i).length ≤ 4096) (o k a : Nat) (r : List Nat) (ho : o ≤ k) (hk : k ≤ 6) (he : ∀ i, o ≤ i → i < k → L i = []) (hL : L k = a :: r) (ha : a < 4096) :
    Calls Tryz.prog 146 #[.pointer (some ⟨p, 0, none⟩), .int .i64 o] w fun e w' => e = .returned (.tuple #[.int .i64 a, .int .i64 0]) ∧ ∃ G', Bu w' G' p (tkL L o k a) (pt tk a (some o)) ∧ Kp G G' w w' := by
  have C1 : Hid (Calls _ _ _ _ _) := made_any h
  have C2 : Hid (Calls _ _ _ _ _) := order_any o w
  have hb : (decide ((0 : Int) ≤ (o : Int)) && decide ((o : Int) ≤ 6)) = true := by simp; omega
  rw [hb] at C2
  obtain ⟨b, V, hP⟩ := h
  have HR : Hid (∀ i, o ≤ i → i < k → ∃ a c, w.cell? ⟨p, i, none⟩ = some (.slice a 0 c)) := fun i h1 h2 => by
    have h3 := hP.rws.own i (by omega)
    rw [he i h1 h2] at h3
    obtain ⟨a, c, e⟩ := h3.empty
    exact ⟨a, c, by rw [← e]; exact hP.rws.row i (by omega)⟩
  have HP : Hid (Bp w G p b V L tk) := hP
  have hr := hP.rws.row k (by omega)
  have hf := hP.rws.fz k (by omega)
  have hw1 := hP.rws.own k (by omega)
  rw [hL] at hw1
  obtain ⟨g, cap, Lv, hv, hB, c1, c2, c3, c4⟩ := hw1.shape.resolve_left (by rintro ⟨_, e⟩; simp [ints] at e)
  have hc := hw1.cell (k := 0) (t := a) (by simp [ints])
  obtain ⟨g', cap', e', hc0⟩ := hc
  rw [hv] at e'
  cases e'
  rw [hv] at hr hw1
  have HV : Hid (V k = _) := hv
  have hpw : p < w.heap.size := hP.lt _ hP.gp
  have hvg := hP.rws.vg k (by omega)
  rw [hv] at hvg
  have hml : (ints (a :: r)).length = r.length + 1 := by simp [ints]
  have hlr : r.length + 1 ≤ 4096 := by have := hl k (by omega); rw [hL] at this; simpa using this
  have CD : Hid (∀ W, Below w.heap.size w W → Calls Tryz.prog 81 #[.slice (some ⟨g, 0, none⟩) (r.length + 1) cap, .int .i64 0, .int .i64 1] W fun e w' => e = .returned (.slice (some ⟨g, 0, none⟩) r.length cap) ∧ W.grownBy w' (some g) ∧ Own w' (.slice (some ⟨g, 0, none⟩) r.length cap) (ints r)) := fun W hW => by
    have hoW := hw1.of_eq (w' := W) (fun c hc => hW.block c (hw1.lt c hc))
    have := Delete_ok hoW c1 c2 0 (by rw [hml]; omega)
    rw [ints_drop_one, hml] at this
    exact this
  rw [hml] at hr HV
  have HL : Hid (∀ i, i < 7 → (L i).length ≤ 4096) := hl
  have HE : Hid (∀ i, o ≤ i → i < k → L i = []) := he
  have HLk : Hid (L k = a :: r) := hL
  have hgl : g < w.heap.size := hB.lt
  have hpg : p ≠ g := fun e => hvg (by rw [e]; rfl)
  clear hP hb he hl hL hv hvg hw1 hB c1 c2 c3 c4 hml
  go_enter Tryz.func146, Tryz.ntmps146
  go_wp2_with (first | (go_at_call 172; refine C1.out.mono ?_; rintro e w' ⟨rfl, h⟩; obtain rfl := h.symm) | (go_at_call 173; refine C2.out.mono ?_; rintro e w' ⟨rfl, h⟩; obtain rfl := h.symm))
  clear C1 C2
  go_loopw [6] (fun z wr => ∃ j : Nat, o ≤ j ∧ j ≤ k ∧ z = .int .i64 j ∧ wr = w) (fun z _ => (7 - iv z).toNat)
  case atStart => exact ⟨o, Nat.le_refl _, by omega, rfl, rfl⟩
  case round =>
    obtain ⟨j, h1, h2, rfl, hw⟩ := hrel
    obtain rfl := hw
    by_cases hj : j < k
    · obtain ⟨a, c, hc⟩ := HR.out j h1 hj
      have hj0 : (0 : Int) ≤ (j : Int) := by omega
      have hj7 : (j : Int) < 7 := by omega
      clear hr hf hc0
      go_wp2
      go_roundw
      case rel => exact ⟨j + 1, by omega, by omega, by go_num, by simp⟩
      case measure => simp [iv]; omega
    · obtain rfl : j = k := by omega
      have hj0 : (0 : Int) ≤ (j : Int) := by omega
      have hj7 : (j : Int) < 7 := by omega
      have hj7n : j < 7 := by omega
      have hrl : (0 : Int) < (r.length : Int) + 1 := by omega
      obtain ⟨m, hm⟩ : ∃ m, r.length = m := ⟨_, rfl⟩
      rw [hm] at hr HV CD hlr hrl
      have HM : Hid (r.length = m) := hm
      clear hm HR
      go_wp2
      go_region_with (first | (go_at_call 81; refine (CD.out _ (by first | exact (Below.refl _ _).drew | exact Below.refl _ _)).mono ?_; rintro e w1 ⟨rfl, g1, o1⟩; have r1 : w1.cell? ⟨p, j, none⟩ = some (.slice (some ⟨g, 0, none⟩) (m + 1) cap) := (g1.cell_far ⟨p, j, none⟩ hpw (some_ne hpg)).trans hr; have r2 : w1.frozen? ⟨p, j, none⟩ = false := (g1.frozen_far ⟨p, j, none⟩ hpw (some_ne hpg)).trans hf))
      have HS1 : Hid (∃ G', Bu (w1.setCell ⟨p, j, none⟩ (.slice (some ⟨g, 0, none⟩) m cap)) G' p (put L j r) tk ∧ Kp G G' wr (w1.setCell ⟨p, j, none⟩ (.slice (some ⟨g, 0, none⟩) m cap))) :=
        HP.out.turn j hj7n _ _ (by rw [HV.out]; exact (grown_drew _ _).trans g1) o1 (fun c hc => by rw [HV.out]; exact Or.inl hc)
      clear r1 r2 g1 o1 hr hf CD hc0 HV HP
      generalize w1.setCell ⟨p, j, none⟩ (.slice (some ⟨g, 0, none⟩) m cap) = w2 at *
      obtain ⟨G2, B2, K2⟩ := HS1.out
      have HK2 : Hid (Kp G G2 wr w2) := K2
      have CH : Hid (Calls _ _ _ _ _) := halve_ok B2 (fun i hi => by
        unfold put
        split
        · rw [HM.out]; omega
        · exact HL.out i hi) a o j (by omega) h1 hk
      clear HS1 B2 K2
      go_wp2_with fail
      refine CH.out.mono ?_
      rintro e w3 ⟨rfl, G3, ⟨b3, V3, P3⟩, K3⟩
      have HK3 : Hid (Kp G G3 wr w3) := HK2.out.trans K3
      have HP3 : Hid (Bp w3 G3 p b3 V3 (hvL (put L j r) o j a) tk) := P3
      have hcm := P3.cm
      obtain ⟨w4, hst, M4, g4⟩ := P3.mp.store (Nat.le_refl _) a ha o (by omega)
      have HF : Hid (∃ G', Bu w4 G' p (tkL L o j a) (pt tk a (some o)) ∧ Kp G G' wr w4) := by
        obtain ⟨B4, K4⟩ := HP3.out.mapped g4 M4
        have hB : Bu w4 G3 p (hvL (put L j r) o j a) (pt tk a (some o)) := ⟨b3, V3, B4⟩
        refine ⟨G3, hB.congr (fun i hi => ?_), HK3.out.trans K4⟩
        unfold hvL tkL put
        by_cases e : i = j
        · subst e
          rw [if_neg (by omega), if_pos rfl, if_pos rfl, HLk.out]
          rfl
        · rw [if_neg e, if_neg e]
      clear P3 M4 g4 K3 HK2 CH HP3 HK3
      go_wp2
      go_ret2
      exact ⟨rfl, HF.out⟩
end Go.Proofs.YtkbpnkjjmipjfaaGreat.B
namespace Go.Proofs.YtkbpnkjjmipjfaaGreat.B
open Go.ChangeShapes Go.WideShapes Go.ChangeAt Go.RowKit
set_option linter.unusedVariables false
set_option maxRecDepth 8192

theorem xor_one (q : Nat) : q ^^^ 1 = sib q := by
  have h1 : (q ^^^ 1) / 2 = q / 2 := by rw [Nat.xor_div_two]; simp
  have h2 : (q ^^^ 1) % 2 = (q % 2) ^^^ 1 := by have := @Nat.xor_mod_two_pow q 1 1; simpa using this
  unfold sib
  rcases Nat.mod_two_eq_zero_or_one q with e | e
  · rw [e, show (0 ^^^ 1 : Nat) = 1 by decide] at h2
    rw [if_pos e]
    omega
  · rw [e, show (1 ^^^ 1 : Nat) = 0 by decide] at h2
    rw [if_neg (by omega)]
    omega
theorem xor_bud (a j : Nat) : (a / 2 ^ j * 2 ^ j) ^^^ 2 ^ j = bud a j := by
  unfold bud
  rw [← xor_one]
  have h := @Nat.shiftLeft_xor_distrib j (a / 2 ^ j) 1
  rw [Nat.shiftLeft_eq, Nat.shiftLeft_eq, Nat.shiftLeft_eq, Nat.one_mul] at h
  exact h.symm
theorem bud_le {a j : Nat} (ha : a < 4096) (hj : j ≤ 6) : bud a j < 8192 ∧ a / 2 ^ j * 2 ^ j ≤ a := by
  unfold bud sib
  rcases six hj with rfl | rfl | rfl | rfl | rfl | rfl | rfl <;> simp only [Nat.reducePow] <;> split <;> omega
theorem min_bud {a j : Nat} (hj : j ≤ 6) : min (a / 2 ^ j * 2 ^ j) (bud a j) = a / 2 ^ (j + 1) * 2 ^ (j + 1) := by
  unfold bud sib
  rcases six hj with rfl | rfl | rfl | rfl | rfl | rfl | rfl <;> simp only [Nat.reducePow, Nat.reduceAdd] <;> split <;> omega
theorem xor_nat (a b : Nat) (ha : a < 65536) (hb : b < 65536) : bits .xor .i64 (a : Int) (b : Int) = ((a ^^^ b : Nat) : Int) := by
  have hx : a ^^^ b < 2 ^ 16 := Nat.xor_lt_two_pow (by omega) (by omega)
  have h1 : (BitVec.ofInt 64 (a : Int)).toNat = a := by
    rw [BitVec.ofInt_natCast, BitVec.toNat_ofNat]; exact Nat.mod_eq_of_lt (by omega)
  have h2 : (BitVec.ofInt 64 (b : Int)).toNat = b := by
    rw [BitVec.ofInt_natCast, BitVec.toNat_ofNat]; exact Nat.mod_eq_of_lt (by omega)
  show IntKind.i64.wrap ((BitVec.ofInt 64 (a : Int) ^^^ BitVec.ofInt 64 (b : Int)).toNat : Int) = _
  rw [BitVec.toNat_xor, h1, h2, IntKind.wrap_i64]
  omega
theorem xor_i64 (a j : Nat) (ha : a < 4096) (hj : j ≤ 6) : bits .xor .i64 ((a / 2 ^ j * 2 ^ j : Nat) : Int) ((2 ^ j : Nat) : Int) = ((bud a j : Nat) : Int) := by
  have h1 := bud_le ha hj
  have h2 := pow_le j hj
  rw [← xor_bud, xor_nat _ _ (by omega) (by omega)]
theorem filter_at : ∀ (l : List Nat) (k : Nat) (t : Nat), l.Nodup → l[k]? = some t → l.filter (fun x => x != t) = l.take k ++ l.drop (k + 1)
  | [], k, t, _, h => by simp at h
  | a :: l, 0, t, hn, h => by
    simp at h
    subst h
    have h1 := (List.nodup_cons.1 hn).1
    have : l.filter (fun x => x != a) = l := by
      rw [List.filter_eq_self]
      intro b hb
      simp only [bne_iff_ne]
      intro e
      exact h1 (e ▸ hb)
    simp [this]
  | a :: l, k + 1, t, hn, h => by
    have hn' := List.nodup_cons.1 hn
    simp at h
    have ih := filter_at l k t hn'.2 h
    have hne : a ≠ t := by
      intro e
      subst e
      exact hn'.1 (List.mem_of_getElem? h)
    rw [List.filter_cons_of_pos (by simpa using hne), ih]
    simp
theorem ints_sorted {l : List Nat} (h : l.Pairwise (· < ·)) : (ints l).Pairwise (· ≤ ·) := by
  unfold ints
  rw [List.pairwise_map]
  exact h.imp (fun h => by omega)
theorem ints_count (l : List Nat) (c : Nat) : (ints l).countP (· < (c : Int)) = l.countP (· < c) := by
  unfold ints
  rw [List.countP_map]
  congr 1
  funext x
  simp
theorem ints_ins (l : List Nat) (c : Nat) : (ints l).take (l.countP (· < c)) ++ (c : Int) :: (ints l).drop (l.countP (· < c)) = ints (ins c l) := by
  simp [ints, ins, List.map_take, List.map_drop]
theorem grown_row {w w' : World} (h : w.grownBy w' none) (row : Option Nat) : w.grownBy w' row := ⟨h.os, h.tape, h.output, h.size, fun i hi _ => h.block i hi (by simp)⟩
def Jst (w wr : World) (G : Nat → Prop) (p : Nat) (L : Nat → List Nat) (tk : Nat → Option Nat) (o a j : Nat) : Prop :=
  (∀ i, o ≤ i → i < j → bud a i ∈ L i) ∧ ∃ G', Bu wr G' p (gvL L o a j) tk ∧ Kp G G' w wr
def Jnd (w : World) (G : Nat → Prop) (p : Nat) (L : Nat → List Nat) (tk : Nat → Option Nat) (o a : Nat) (w' : World) : Prop :=
  ∃ J, Top L o a J ∧ ∃ G', Bu w' G' p (gvE L o a J) tk ∧ Kp G G' w w'
set_option maxHeartbeats 1000000 in
theorem join_ok {w : World} {G : Nat → Prop} {p : Nat} {L : Nat → List Nat} {tk : Nat → Option Nat} (h : Bu w G p L tk) (hl : ∀ i, i < 7 → (L i).length ≤ 4096) (hs : ∀ i, i < 7 → (L i).Pairwise (· < ·)) (a o : Nat) (ha : a < 4096) (ho : o ≤ 6) (hao : a % 2 ^ o = 0) :
    Calls Tryz.prog 174 #[.pointer (some ⟨p, 0, none⟩), .int .i64 a, .int .i64 o] w fun e w' => e = .returned (.tuple #[]) ∧ Jnd w G p L tk o a w' := by
  have HB : Hid (Bu w G p L tk) := h
  have HL : Hid (∀ i, i < 7 → (L i).length ≤ 4096) := hl
  have HSO : Hid (∀ i, i < 7 → (L i).Pairwise (· < ·)) := hs
  have HAO : Hid (a / 2 ^ o * 2 ^ o = a) := mod_mul_div hao
  clear h hl hs hao
  go_enter Tryz.func174, Tryz.ntmps174
  go_wp2
  go_step3
  go_wp2
  go_step3
  go_wp2
  go_loopw [1, 2] (fun z y wr => ∃ j : Nat, o ≤ j ∧ j ≤ 6 ∧ z = .int .i64 (a / 2 ^ j * 2 ^ j : Nat) ∧ y = .int .i64 j ∧ Jst w wr G p L tk o a j) (fun _ y _ => (6 - iv y).toNat)
  case atStart =>
    refine ⟨o, Nat.le_refl _, ho, by rw [HAO.out], rfl, fun i h1 h2 => by omega, G, HB.out.congr (fun i hi => ?_), Kp.refl _ _⟩
    unfold gvL
    rw [if_neg (by omega)]
  case round =>
    obtain ⟨j, h1, h2, rfl, rfl, hJ⟩ := hrel
    have HJ : Hid (Jst w wr G p L tk o a j) := hJ
    clear hJ HB HAO
    obtain ⟨HM, G1, ⟨b, V, P1⟩, K1⟩ := HJ.out
    have HP : Hid (Bp wr G1 p b V (gvL L o a j) tk) := P1
    have hr := P1.rws.row j (by omega)
    have hf := P1.rws.fz j (by omega)
    have hw1 := P1.rws.own j (by omega)
    have e0 : gvL L o a j j = L j := by unfold gvL; rw [if_neg (by omega)]
    rw [e0] at hw1
    obtain ⟨g0, c0, hv⟩ := hw1.len
    rw [hv] at hr hw1
    have HV : Hid (V j = _) := hv
    have HO : Hid (Own wr _ _) := hw1
    have hm := HL.out j (by omega)
    have HK : Hid (Kp G G1 w wr) := K1
    have HMM : Hid (∀ i, o ≤ i → i < j → bud a i ∈ L i) := HM
    clear P1 hv hw1 K1 HM
    rw [ints_len] at hr HV HO
    obtain ⟨m, hme⟩ : ∃ m, (L j).length = m := ⟨_, rfl⟩
    have HME : Hid ((L j).length = m) := hme
    rw [hme] at hr HV HO hm
    clear hme
    have hpw : p < wr.heap.size := HP.out.lt _ HP.out.gp
    have hsh := shl_wrap j (by omega)
    have hpl := pow_le j (by omega)
    have hxo := xor_i64 a j ha (by omega)
    have hbl := bud_le ha (show j ≤ 6 by omega)
    have hmi := @min_bud a j (by omega)
    obtain ⟨S, hS⟩ : ∃ S, 2 ^ j = S := ⟨_, rfl⟩
    obtain ⟨c, hC⟩ : ∃ c, a / 2 ^ j * 2 ^ j = c := ⟨_, rfl⟩
    obtain ⟨B, hBu⟩ : ∃ B, bud a j = B := ⟨_, rfl⟩
    have HS : Hid (2 ^ j = S) := hS
    have HC : Hid (a / 2 ^ j * 2 ^ j = c) := hC
    have HBU : Hid (bud a j = B) := hBu
    obtain ⟨c', hC'⟩ : ∃ c', a / 2 ^ (j + 1) * 2 ^ (j + 1) = c' := ⟨_, rfl⟩
    have HC' : Hid (a / 2 ^ (j + 1) * 2 ^ (j + 1) = c') := hC'
    have HMI : Hid (min c B = c') := by rw [← hC, ← hBu, ← hC']; exact hmi
    rw [hC] at hbl hxo ⊢
    rw [hBu] at hbl hxo
    rw [hS] at hsh hpl hxo
    clear hS hC hBu hmi e0 hC'
    have hj0 : (0 : Int) ≤ (j : Int) := by omega
    have hj7 : (j : Int) < 7 := by omega
    have hj7n : j < 7 := by omega
    by_cases hj6 : j < 6
    · have hj6I : (j : Int) < 6 := by omega
      go_wp2
      go_loopw [1, 2, 19] (fun y1 y2 z wq => ∃ k : Nat, k ≤ m ∧ y1 = .int .i64 c ∧ y2 = .int .i64 j ∧ z = .int .i64 k ∧ wq = wr ∧ ∀ t, t < k → (L j)[t]? ≠ some B) (fun _ _ z _ => m - (iv z).toNat)
      case atStart => exact ⟨0, by omega, rfl, rfl, rfl, rfl, fun t ht => by omega⟩
      case round =>
        obtain ⟨k, hk, rfl, rfl, rfl, hw, hno⟩ := hrel
        obtain rfl := hw
        have HNO : Hid (∀ t, t < k → (L j)[t]? ≠ some B) := hno
        clear hno
        by_cases hkm : k < m
        · obtain ⟨x, hg⟩ : ∃ x, (L j)[k]? = some x := ⟨_, List.getElem?_eq_getElem (by rw [HME.out]; exact hkm)⟩
          obtain ⟨g, cap, e1, hc1⟩ := HO.out.cell (k := k) (t := (x : Int)) (by rw [ints_get, hg]; rfl)
          rw [ints_len, HME.out] at e1
          cases e1
          have HG : Hid ((L j)[k]? = some x) := hg
          clear hg
          by_cases hx : x = B
          · subst hx
            have CD : Hid (∀ W, Below wr.heap.size wr W → Calls Tryz.prog 81 #[.slice (some ⟨g, 0, none⟩) m c0, .int .i64 k, .int .i64 ((k : Int) + 1)] W fun e w' => e = .returned (.slice (some ⟨g, 0, none⟩) (m - 1) c0) ∧ W.grownBy w' (some g) ∧ Own w' (.slice (some ⟨g, 0, none⟩) (m - 1) c0) (ints ((L j).filter (fun y => y != x)))) := fun W hW => by
              have hown := HO.out
              have hml : (ints (L j)).length = m := by rw [ints_len, HME.out]
              obtain ⟨g', cap', Lv, e2, _, c1, c2, _, _⟩ := hown.shape.resolve_left (by rintro ⟨q, _⟩; cases q)
              rw [hml] at e2 c1
              cases e2
              have hoW := hown.of_eq (w' := W) (fun c hc => hW.block c (hown.lt c hc))
              rw [← hml] at hoW
              have := Delete_ok hoW (by rw [hml]; exact c1) c2 k (by rw [hml]; exact hkm)
              rw [hml] at this
              have hf : (ints (L j)).take k ++ (ints (L j)).drop (k + 1) = ints ((L j).filter (fun y => y != x)) := by
                rw [filter_at (L j) k x ((HSO.out j hj7n).imp (fun h => by omega)) HG.out]
                simp [ints, List.map_take, List.map_drop]
              rw [hf] at this
              exact this
            have hpg : p ≠ g := fun e => by
              have := HP.out.rws.vg j hj7n
              rw [HV.out] at this
              exact this (by rw [e]; rfl)
            have hk1 : IntKind.i64.wrap ((k : Int) + 1) = (k : Int) + 1 := IntWalk.i64_in _ (by omega)
            have hmin : min (c : Int) (x : Int) = (c' : Int) := by
              have := HMI.out
              omega
            go_wp2
            go_region_with (first | (go_at_call 81; refine (CD.out _ (by first | exact (Below.refl _ _).drew | exact Below.refl _ _)).mono ?_; rintro e w1 ⟨rfl, g1, o1⟩; have r1 : w1.cell? ⟨p, j, none⟩ = some (.slice (some ⟨g, 0, none⟩) m c0) := (g1.cell_far ⟨p, j, none⟩ hpw (some_ne hpg)).trans hr; have r2 : w1.frozen? ⟨p, j, none⟩ = false := (g1.frozen_far ⟨p, j, none⟩ hpw (some_ne hpg)).trans hf))
            have HJ1 : Hid (Jst w (w1.setCell ⟨p, j, none⟩ (.slice (some ⟨g, 0, none⟩) (m - 1) c0)) G p L tk o a (j + 1)) := by
              obtain ⟨G', hB', hK'⟩ := HP.out.turn j hj7n (.slice (some ⟨g, 0, none⟩) (m - 1) c0) _ (w1 := w1) (by rw [HV.out]; exact (grown_drew _ _).trans g1) o1 (fun c hc => by rw [HV.out]; exact Or.inl hc)
              refine ⟨fun i q1 q2 => ?_, G', hB'.congr (fun i hi => ?_), HK.out.trans hK'⟩
              · by_cases e : i < j
                · exact HMM.out i q1 e
                · obtain rfl : i = j := by omega
                  rw [HBU.out]
                  exact List.mem_of_getElem? HG.out
              · unfold put
                by_cases e : i = j
                · subst e
                  rw [if_pos rfl]
                  unfold gvL
                  rw [if_pos (by omega), HBU.out]
                · rw [if_neg e]
                  unfold gvL
                  by_cases e2 : o ≤ i ∧ i < j
                  · rw [if_pos e2, if_pos (by omega)]
                  · rw [if_neg e2, if_neg (by omega)]
            clear r1 r2 g1 o1 hr hf CD hc1 HV HP HO
            generalize w1.setCell ⟨p, j, none⟩ (.slice (some ⟨g, 0, none⟩) (m - 1) c0) = w2 at *
            go_wp2
            exact ⟨⟨j + 1, by omega, by omega, by rw [HC'.out], by go_num, HJ1.out⟩, by simp [iv]; omega⟩
          · have hxI : ¬ ((x : Int) = (B : Int)) := by omega
            go_wp2
            go_roundw
            case rel =>
              refine ⟨k + 1, by omega, rfl, rfl, by go_num, by simp, fun t ht => ?_⟩
              by_cases e : t < k
              · exact HNO.out t e
              · obtain rfl : t = k := by omega
                rw [HG.out]
                intro q
                injection q with q
                exact hx q
            case measure => simp [iv]; omega
        · obtain rfl : m = k := by omega
          have HSTOP : Hid (j < 6 → bud a j ∉ L j) := fun _ hq => by
            rw [HBU.out] at hq
            obtain ⟨t, ht⟩ := List.getElem?_of_mem hq
            exact HNO.out t (by rw [← HME.out]; exact (List.getElem?_eq_some_iff.1 ht).1) ht
          clear HNO
          have CS : Hid (Calls _ _ _ _ _) := Search_ok HO.out (ints_sorted (HSO.out j hj7n)) (by rw [ints_len]; have := HL.out j hj7n; omega) (c : Int)
          have hcp : (L j).countP (· < c) ≤ m := by rw [← HME.out]; exact List.countP_le_length
          obtain ⟨i, hi⟩ : ∃ i, (L j).countP (· < c) = i := ⟨_, rfl⟩
          have HI : Hid ((L j).countP (· < c) = i) := hi
          rw [ints_count, hi] at CS
          rw [hi] at hcp
          clear hi
          go_wp2_with fail
          refine CS.out.mono ?_
          rintro e w3 ⟨rfl, g3⟩
          have hr3 : w3.cell? ⟨p, j, none⟩ = some (.slice g0 m c0) := (g3.cell_far ⟨p, j, none⟩ hpw (by simp)).trans hr
          have hf3 : w3.frozen? ⟨p, j, none⟩ = false := (g3.frozen_far ⟨p, j, none⟩ hpw (by simp)).trans hf
          have hpw3 : p < w3.heap.size := Nat.lt_of_lt_of_le hpw g3.size
          have hvgp := HP.out.rws.vg j hj7n
          rw [HV.out] at hvgp
          have HVG : Hid ((Value.slice g0 m c0).ownBlock ≠ some p) := hvgp
          have CI : Hid (∀ W, Below w3.heap.size w3 W → Blk W w3.heap.size 3 [.int .i64 c] → Calls Tryz.prog 218 #[.slice g0 m c0, .int .i64 i, .slice (some ⟨w3.heap.size, 0, none⟩) 1 1] W fun e w' => ∃ g1 k1, e = .returned (.slice (some ⟨g1, 0, none⟩) (m + 1) k1) ∧ Own w' (.slice (some ⟨g1, 0, none⟩) (m + 1) k1) (ints (ins c (L j))) ∧ W.grownBy w' (Value.slice g0 m c0).ownBlock ∧ ((Value.slice g0 m c0).ownBlock = some g1 ∨ W.heap.size ≤ g1)) := fun W hW hb => by
            have hown3 := HO.out.of_eq (w' := w3) (fun q hq => g3.block q (HO.out.lt q hq) (by simp))
            have hoW := hown3.of_eq (w' := W) (fun q hq => hW.block q (hown3.lt q hq))
            have := Insert_ok hoW (by rw [ints_len]; have := HL.out j hj7n; omega) i (by rw [ints_len, HME.out]; exact hcp) (c : Int) w3.heap.size hb (fun q => by have := hown3.lt _ q; omega)
            have hh := ints_ins (L j) c
            rw [HI.out] at hh
            rw [hh] at this
            refine this.mono ?_
            rintro e w' ⟨v', rfl, q1, q2, q3⟩
            obtain ⟨g1, k1, Lv, e1, _⟩ := q1.shape.resolve_left (by rintro ⟨_, q⟩; have := congrArg List.length q; rw [ints_len, ins_len] at this; simp at this)
            rw [ints_len, ins_len, HME.out] at e1
            subst e1
            exact ⟨g1, k1, rfl, q1, q2, q3 g1 rfl⟩
          have BN : Hid (Blk (w3.alloc (.cells #[.int .i64 c] 3)).drew w3.heap.size 3 [.int .i64 c]) := blk_new w3 [.int .i64 c] 3
          have BB : Hid (Below w3.heap.size w3 (w3.alloc (.cells #[.int .i64 c] 3)).drew) := ((Below.refl _ w3).alloc (Nat.le_refl _) _).drew
          have hr4 : (w3.alloc (.cells #[.int .i64 c] 3)).cell? ⟨p, j, none⟩ = some (.slice g0 m c0) := (((Below.refl _ w3).alloc (Nat.le_refl _) _).cell (p := ⟨p, j, none⟩) hpw3).trans hr3
          have hpw4 : p < (w3.alloc (.cells #[.int .i64 c] 3)).drew.heap.size := by show p < (w3.alloc (.cells #[.int .i64 c] 3)).heap.size; simp; omega
          have hr5 : (w3.alloc (.cells #[.int .i64 c] 3)).drew.cell? ⟨p, j, none⟩ = some (.slice g0 m c0) := hr4
          have hf5 : (w3.alloc (.cells #[.int .i64 c] 3)).drew.frozen? ⟨p, j, none⟩ = false := (((Below.refl _ w3).alloc (Nat.le_refl _) _).frozen (p := ⟨p, j, none⟩) hpw3).trans hf3
          have HG3 : Hid (wr.grownBy w3 none) := g3
          clear g3 hr hf hvgp
          go_wp2
          go_region_with (first | (go_at_call 218; refine (CI.out _ BB.out BN.out).mono ?_; rintro e w1 ⟨v1, k1, rfl, o1, g1, at1⟩; have r1 : w1.cell? ⟨p, j, none⟩ = some (.slice g0 m c0) := (g1.cell_far ⟨p, j, none⟩ hpw4 (fun e => HVG.out e.symm)).trans hr5; have r2 : w1.frozen? ⟨p, j, none⟩ = false := (g1.frozen_far ⟨p, j, none⟩ hpw4 (fun e => HVG.out e.symm)).trans hf5))
          all_goals (
            have HF : Hid (Jnd w G p L tk o a (w1.setCell ⟨p, j, none⟩ (.slice (some ⟨v1, 0, none⟩) (m + 1) k1))) := by
              obtain ⟨G', hB', hK'⟩ := HP.out.turn j hj7n (.slice (some ⟨v1, 0, none⟩) (m + 1) k1) (ins c (L j)) (w1 := w1) (by rw [HV.out]; exact ((grown_row HG3.out _).trans ((World.grownBy_alloc _ _ _).trans (grown_drew _ _))).trans g1) o1 (fun q hq => by
                rw [HV.out]
                cases hq
                rcases at1 with z | z
                · exact Or.inl z
                · refine Or.inr (Nat.le_trans HG3.out.size (Nat.le_trans ?_ z))
                  show w3.heap.size ≤ (w3.alloc (.cells #[.int .i64 c] 3)).heap.size
                  simp)
              refine ⟨j, ⟨h1, h2, HMM.out, HSTOP.out⟩, G', hB'.congr (fun i hi => ?_), HK.out.trans hK'⟩
              unfold put gvE
              by_cases e : i = j
              · subst e
                rw [if_pos rfl, if_pos rfl, HC.out]
              · rw [if_neg e, if_neg e]
            clear HP HV HO HK CI BN BB r1 r2 hr3 hr4 hr5 hf3 hf5 g1 o1 at1 HG3
            generalize w1.setCell ⟨p, j, none⟩ (.slice (some ⟨v1, 0, none⟩) (m + 1) k1) = w5 at *
            try rw [Exit.noGoto_normal]
            go_end0
            exact ⟨rfl, HF.out⟩)
    · have HSTOP : Hid (j < 6 → bud a j ∉ L j) := fun q => absurd q hj6
      have hj6I : ¬ ((j : Int) < 6) := by omega
      have CS : Hid (Calls _ _ _ _ _) := Search_ok HO.out (ints_sorted (HSO.out j hj7n)) (by rw [ints_len]; have := HL.out j hj7n; omega) (c : Int)
      have hcp : (L j).countP (· < c) ≤ m := by rw [← HME.out]; exact List.countP_le_length
      obtain ⟨i, hi⟩ : ∃ i, (L j).countP (· < c) = i := ⟨_, rfl⟩
      have HI : Hid ((L j).countP (· < c) = i) := hi
      rw [ints_count, hi] at CS
      rw [hi] at hcp
      clear hi
      go_wp2_with fail
      refine CS.out.mono ?_
      rintro e w3 ⟨rfl, g3⟩
      have hr3 : w3.cell? ⟨p, j, none⟩ = some (.slice g0 m c0) := (g3.cell_far ⟨p, j, none⟩ hpw (by simp)).trans hr
      have hf3 : w3.frozen? ⟨p, j, none⟩ = false := (g3.frozen_far ⟨p, j, none⟩ hpw (by simp)).trans hf
      have hpw3 : p < w3.heap.size := Nat.lt_of_lt_of_le hpw g3.size
      have hvgp := HP.out.rws.vg j hj7n
      rw [HV.out] at hvgp
      have HVG : Hid ((Value.slice g0 m c0).ownBlock ≠ some p) := hvgp
      have CI : Hid (∀ W, Below w3.heap.size w3 W → Blk W w3.heap.size 3 [.int .i64 c] → Calls Tryz.prog 218 #[.slice g0 m c0, .int .i64 i, .slice (some ⟨w3.heap.size, 0, none⟩) 1 1] W fun e w' => ∃ g1 k1, e = .returned (.slice (some ⟨g1, 0, none⟩) (m + 1) k1) ∧ Own w' (.slice (some ⟨g1, 0, none⟩) (m + 1) k1) (ints (ins c (L j))) ∧ W.grownBy w' (Value.slice g0 m c0).ownBlock ∧ ((Value.slice g0 m c0).ownBlock = some g1 ∨ W.heap.size ≤ g1)) := fun W hW hb => by
        have hown3 := HO.out.of_eq (w' := w3) (fun q hq => g3.block q (HO.out.lt q hq) (by simp))
        have hoW := hown3.of_eq (w' := W) (fun q hq => hW.block q (hown3.lt q hq))
        have := Insert_ok hoW (by rw [ints_len]; have := HL.out j hj7n; omega) i (by rw [ints_len, HME.out]; exact hcp) (c : Int) w3.heap.size hb (fun q => by have := hown3.lt _ q; omega)
        have hh := ints_ins (L j) c
        rw [HI.out] at hh
        rw [hh] at this
        refine this.mono ?_
        rintro e w' ⟨v', rfl, q1, q2, q3⟩
        obtain ⟨g1, k1, Lv, e1, _⟩ := q1.shape.resolve_left (by rintro ⟨_, q⟩; have := congrArg List.length q; rw [ints_len, ins_len] at this; simp at this)
        rw [ints_len, ins_len, HME.out] at e1
        subst e1
        exact ⟨g1, k1, rfl, q1, q2, q3 g1 rfl⟩
      have BN : Hid (Blk (w3.alloc (.cells #[.int .i64 c] 3)).drew w3.heap.size 3 [.int .i64 c]) := blk_new w3 [.int .i64 c] 3
      have BB : Hid (Below w3.heap.size w3 (w3.alloc (.cells #[.int .i64 c] 3)).drew) := ((Below.refl _ w3).alloc (Nat.le_refl _) _).drew
      have hr4 : (w3.alloc (.cells #[.int .i64 c] 3)).cell? ⟨p, j, none⟩ = some (.slice g0 m c0) := (((Below.refl _ w3).alloc (Nat.le_refl _) _).cell (p := ⟨p, j, none⟩) hpw3).trans hr3
      have hpw4 : p < (w3.alloc (.cells #[.int .i64 c] 3)).drew.heap.size := by show p < (w3.alloc (.cells #[.int .i64 c] 3)).heap.size; simp; omega
      have hr5 : (w3.alloc (.cells #[.int .i64 c] 3)).drew.cell? ⟨p, j, none⟩ = some (.slice g0 m c0) := hr4
      have hf5 : (w3.alloc (.cells #[.int .i64 c] 3)).drew.frozen? ⟨p, j, none⟩ = false := (((Below.refl _ w3).alloc (Nat.le_refl _) _).frozen (p := ⟨p, j, none⟩) hpw3).trans hf3
      have HG3 : Hid (wr.grownBy w3 none) := g3
      clear g3 hr hf hvgp
      go_wp2
      go_region_with (first | (go_at_call 218; refine (CI.out _ BB.out BN.out).mono ?_; rintro e w1 ⟨v1, k1, rfl, o1, g1, at1⟩; have r1 : w1.cell? ⟨p, j, none⟩ = some (.slice g0 m c0) := (g1.cell_far ⟨p, j, none⟩ hpw4 (fun e => HVG.out e.symm)).trans hr5; have r2 : w1.frozen? ⟨p, j, none⟩ = false := (g1.frozen_far ⟨p, j, none⟩ hpw4 (fun e => HVG.out e.symm)).trans hf5))
      all_goals (
        have HF : Hid (Jnd w G p L tk o a (w1.setCell ⟨p, j, none⟩ (.slice (some ⟨v1, 0, none⟩) (m + 1) k1))) := by
          obtain ⟨G', hB', hK'⟩ := HP.out.turn j hj7n (.slice (some ⟨v1, 0, none⟩) (m + 1) k1) (ins c (L j)) (w1 := w1) (by rw [HV.out]; exact ((grown_row HG3.out _).trans ((World.grownBy_alloc _ _ _).trans (grown_drew _ _))).trans g1) o1 (fun q hq => by
            rw [HV.out]
            cases hq
            rcases at1 with z | z
            · exact Or.inl z
            · refine Or.inr (Nat.le_trans HG3.out.size (Nat.le_trans ?_ z))
              show w3.heap.size ≤ (w3.alloc (.cells #[.int .i64 c] 3)).heap.size
              simp)
          refine ⟨j, ⟨h1, h2, HMM.out, HSTOP.out⟩, G', hB'.congr (fun i hi => ?_), HK.out.trans hK'⟩
          unfold put gvE
          by_cases e : i = j
          · subst e
            rw [if_pos rfl, if_pos rfl, HC.out]
          · rw [if_neg e, if_neg e]
        clear HP HV HO HK CI BN BB r1 r2 hr3 hr4 hr5 hf3 hf5 g1 o1 at1 HG3
        generalize w1.setCell ⟨p, j, none⟩ (.slice (some ⟨v1, 0, none⟩) (m + 1) k1) = w5 at *
        try rw [Exit.noGoto_normal]
        go_end0
        exact ⟨rfl, HF.out⟩)
end Go.Proofs.YtkbpnkjjmipjfaaGreat.B
namespace Go.Proofs.YtkbpnkjjmipjfaaGreat.B
open Go.ChangeShapes Go.WideShapes Go.ChangeAt Go.RowKit
set_option linter.unusedVariables false
set_option maxRecDepth 8192

theorem wpList_delete_at {w : World} {ops : Array Oper} {rest : List Oper} {o : Oper} {a : Act} {Q : Exit → Act → World → Prop} {R : World → Prop} (hgd : o.guard = none) (s x : Operand)
    (ho : o.op = .call { callee := .builtin .delete, args := #[s, x], argTypes := #[69, 3] }) (vs vx : Value) (hs : a.eval s = vs) (hx : a.eval x = vx)
    (hr : ∃ w', (Builtin.delete_ #[69, 3] o.type #[vs, vx]).run Tryz.prog w = .ok (.tuple #[]) w' ∧ R w') (h : ∀ w', R w' → wpList Tryz.prog ops Q rest (a.put o.dst (.tuple #[])) w') : wpList Tryz.prog ops Q (o :: rest) a w := by
  refine wpList_plain hgd fun K hK => ?_
  obtain ⟨w', hr, hR⟩ := hr
  unfold Oper.wp
  simp [execOp, ho, resolve, invoke, builtin, hs, hx, hr, Result.andThen]
  exact hK _ _ (h w' hR)
set_option maxHeartbeats 1000000 in
theorem Give_ok {w : World} {G : Nat → Prop} {p : Nat} {L : Nat → List Nat} {tk : Nat → Option Nat} (h : Bu w G p L tk) (hl : ∀ i, i < 7 → (L i).length ≤ 4096) (hs : ∀ i, i < 7 → (L i).Pairwise (· < ·)) (a o : Nat) (ha : a < 4096) (ho : o ≤ 6) (hao : a % 2 ^ o = 0) (ht : tk a = some o) :
    Calls Tryz.prog 133 #[.pointer (some ⟨p, 0, none⟩), .int .i64 a, .int .i64 o] w fun e w' => e = .returned (.int .i64 0) ∧ Jnd w G p L (pt tk a none) o a w' := by
  have C1 : Hid (Calls _ _ _ _ _) := made_any h
  have C2 : Hid (Calls _ _ _ _ _) := order_any o w
  have hb' : (decide ((0 : Int) ≤ (o : Int)) && decide ((o : Int) ≤ 6)) = true := by simp; omega
  rw [hb'] at C2
  obtain ⟨b, V, hP⟩ := h
  have HP : Hid (Bp w G p b V L tk) := hP
  have hcm := hP.cm
  have hlk := hP.mp.look_some (Nat.le_refl _) ht
  have HDE : Hid (∀ ty, ∃ w', (Builtin.delete_ #[69, 3] ty #[.map (some b), .int .i64 a]).run Tryz.prog w = .ok (.tuple #[]) w' ∧ (Mp w' b 4096 (pt tk a none) ∧ w.grownBy w' (some b))) := fun ty => hP.mp.drop a (by omega) ty
  have HL : Hid (∀ i, i < 7 → (L i).length ≤ 4096) := hl
  have HSO : Hid (∀ i, i < 7 → (L i).Pairwise (· < ·)) := hs
  have HAO : Hid (a % 2 ^ o = 0) := hao
  clear hP hb' ht hl hs hao
  go_enter Tryz.func133, Tryz.ntmps133
  go_wp2_with (first | (go_at_call 172; refine C1.out.mono ?_; rintro e w' ⟨rfl, h⟩; obtain rfl := h.symm) | (go_at_call 173; refine C2.out.mono ?_; rintro e w' ⟨rfl, h⟩; obtain rfl := h.symm) | (at_delete; refine wpList_delete_at rfl (.tmp 38) (.tmp 39) rfl _ _ rfl rfl (HDE.out _) ?_; rintro w3 ⟨hM3, hG3⟩))
  obtain ⟨B3, K3⟩ := HP.out.mapped hG3 hM3
  have HK3 : Hid (Kp G G w w3) := K3
  have CJ : Hid (Calls _ _ _ _ _) := join_ok ⟨b, V, B3⟩ HL.out HSO.out a o ha ho HAO.out
  clear B3 K3 hM3 hG3 HDE hlk hcm HP
  refine CJ.out.mono ?_
  rintro e w4 ⟨rfl, hJ⟩
  have HJ : Hid (Jnd w G p L (pt tk a none) o a w4) := by
    obtain ⟨J, h1, G', h2, h3⟩ := hJ
    exact ⟨J, h1, G', h2, HK3.out.trans h3⟩
  clear hJ CJ
  go_wp2
  go_ret
  exact ⟨rfl, HJ.out⟩
end Go.Proofs.YtkbpnkjjmipjfaaGreat.B
namespace Go.Proofs.YtkbpnkjjmipjfaaGreat.B
open Go.ChangeShapes Go.WideShapes Go.ChangeAt Go.RowKit
set_option linter.unusedVariables false
set_option maxRecDepth 8192

def pre (f : Nat → Nat) : Nat → Nat
  | 0 => 0
  | k + 1 => pre f k + f k * 2 ^ k
theorem pre_fr (L : Nat → List Nat) : pre (fun i => (L i).length) 7 = fr L := by
  simp [pre, fr]
theorem wpList_index_at {P : Program} {w : World} {ops : Array Oper} {rest : List Oper} {o : Oper} {a : Act} {Q : Exit → Act → World → Prop} (hgd : o.guard = none) (t : TypeId) (x y : Operand)
    (ho : o.op = .index t x y) (u v r : Value) (hx : a.eval x = u) (hy : a.eval y = v) (hrun : (Instr.index t u v).run P w = .ok r w) (h : wpList P ops Q rest (a.put o.dst r) w) : wpList P ops Q (o :: rest) a w := by
  refine wpList_plain hgd fun K hK => ?_
  unfold Oper.wp
  simp [execOp, ho, hx, hy, hrun, Result.andThen]
  exact hK _ _ h
theorem run_idx (w : World) (cs : Array Value) (j : Nat) (hj : j < 7) (v : Value) (hv : cs[j]? = some v) : (Instr.index 191 (.agg cs) (.int .i64 j)).run Tryz.prog w = .ok v w := by
  have h1 : (0 : Int) ≤ (j : Int) ∧ (j : Int) < 7 := by omega
  simp [Instr.index, run_underlying Tryz.underlying191, asIntOf, h1, Tryz.sizeOf25]
  rw [if_pos hj]
  simp [part, Tryz.isAgg25, Tryz.sizeOf25, hv]
theorem Bu.cells {w : World} {G : Nat → Prop} {p : Nat} {L : Nat → List Nat} {tk : Nat → Option Nat} (h : Bu w G p L tk) : ∃ (a : Nat → Option Addr) (c : Nat → Nat), (∀ i, i < 7 → w.cell? ⟨p, i, none⟩ = some (.slice (a i) (L i).length (c i))) ∧ ∀ i, i < 7 → Own w (.slice (a i) (L i).length (c i)) (ints (L i)) := by
  obtain ⟨b, V, hP⟩ := h
  have h1 : ∀ i, ∃ x : Option Addr × Nat, i < 7 → V i = .slice x.1 (L i).length x.2 := fun i => by
    by_cases hi : i < 7
    · obtain ⟨a, c, e⟩ := (hP.rws.own i hi).len
      rw [ints_len] at e
      exact ⟨(a, c), fun _ => e⟩
    · exact ⟨(none, 0), fun q => absurd q hi⟩
  have h2 := fun i => Classical.choose_spec (h1 i)
  refine ⟨fun i => (Classical.choose (h1 i)).1, fun i => (Classical.choose (h1 i)).2, fun i hi => ?_, fun i hi => ?_⟩
  · rw [hP.rws.row i hi, h2 i hi]
  · have := hP.rws.own i hi
    rw [h2 i hi] at this
    exact this
set_option maxHeartbeats 1000000 in
theorem Free_any {w : World} {G : Nat → Prop} {p : Nat} {L : Nat → List Nat} {tk : Nat → Option Nat} (h : Bu w G p L tk) (hl : ∀ i, i < 7 → (L i).length ≤ 4096) : Calls Tryz.prog 186 #[.pointer (some ⟨p, 0, none⟩)] w fun e w' => e = .returned (.int .i64 (fr L : Nat)) ∧ w' = w := by
  have C1 : Hid (Calls _ _ _ _ _) := made_any h
  obtain ⟨a, c, hc, _⟩ := h.cells
  have d0 := hc 0 (by omega)
  have d1 := hc 1 (by omega)
  have d2 := hc 2 (by omega)
  have d3 := hc 3 (by omega)
  have d4 := hc 4 (by omega)
  have d5 := hc 5 (by omega)
  have d6 := hc 6 (by omega)
  have l0 := hl 0 (by omega)
  have l1 := hl 1 (by omega)
  have l2 := hl 2 (by omega)
  have l3 := hl 3 (by omega)
  have l4 := hl 4 (by omega)
  have l5 := hl 5 (by omega)
  have l6 := hl 6 (by omega)
  have HF : Hid (pre (fun i => (L i).length) 7 = fr L) := pre_fr L
  clear hc hl h
  generalize fr L = R at *
  obtain ⟨n, hn⟩ : ∃ n : Nat → Nat, n = fun i => (L i).length := ⟨_, rfl⟩
  have e : ∀ i, (L i).length = n i := fun i => by rw [hn]
  rw [← hn] at HF
  rw [e] at d0 d1 d2 d3 d4 d5 d6 l0 l1 l2 l3 l4 l5 l6
  clear e hn
  go_enter Tryz.func186, Tryz.ntmps186
  go_wp2_with (go_at_call 172; refine C1.out.mono ?_; rintro e w' ⟨rfl, h⟩; obtain rfl := h.symm)
  go_loopw [3, 13] (fun y z wr => ∃ j : Nat, j ≤ 7 ∧ y = .int .i64 (pre n j : Nat) ∧ z = .int .i64 j ∧ wr = w) (fun _ z _ => (7 - iv z).toNat)
  case atStart => exact ⟨0, by omega, rfl, rfl, rfl⟩
  case round =>
    obtain ⟨j, hj, rfl, rfl, hw⟩ := hrel
    obtain rfl := hw
    by_cases hj7 : j < 7
    · have hix : (Instr.index 191 (.agg #[.slice (a 0) (n 0) (c 0), .slice (a 1) (n 1) (c 1), .slice (a 2) (n 2) (c 2), .slice (a 3) (n 3) (c 3), .slice (a 4) (n 4) (c 4), .slice (a 5) (n 5) (c 5), .slice (a 6) (n 6) (c 6)]) (.int .i64 j)).run Tryz.prog wr = .ok (.slice (a j) (n j) (c j)) wr :=
        run_idx wr _ j hj7 _ (by rcases six (show j ≤ 6 by omega) with rfl | rfl | rfl | rfl | rfl | rfl | rfl <;> rfl)
      have HIX : Hid (_ = _) := hix
      have hnj : n j ≤ 4096 := by rcases six (show j ≤ 6 by omega) with rfl | rfl | rfl | rfl | rfl | rfl | rfl <;> assumption
      have hpb : pre n j ≤ 600000 := by rcases six (show j ≤ 6 by omega) with rfl | rfl | rfl | rfl | rfl | rfl | rfl <;> simp only [pre] <;> omega
      have hpl := pow_le j (by omega)
      have hT : n j * 2 ^ j ≤ 4096 * 64 := Nat.mul_le_mul hnj hpl.2
      have HP : Hid (pre n (j + 1) = pre n j + n j * 2 ^ j) := rfl
      obtain ⟨T, hTe⟩ : ∃ T, n j * 2 ^ j = T := ⟨_, rfl⟩
      rw [hTe] at hT HP
      have hw : IntKind.i64.wrap ((n j : Int) * 2 ^ j) = (T : Int) := by
        rw [show ((n j : Int) * 2 ^ j) = ((n j * 2 ^ j : Nat) : Int) by simp, hTe]
        exact IntWalk.i64_in _ (by omega)
      clear hix hTe d0 d1 d2 d3 d4 d5 d6 l0 l1 l2 l3 l4 l5 l6
      generalize pre n j = P at *
      have hj7I : (j : Int) < 7 := by omega
      go_wp2_with (refine wpList_index_at rfl 191 (.tmp 12) (.tmp 13) rfl _ _ _ rfl rfl HIX.out ?_)
      go_roundw
      case rel => exact ⟨j + 1, by omega, by rw [HP.out]; go_num, by go_num, by simp⟩
      case measure => simp [iv]; omega
    · obtain rfl : j = 7 := by omega
      rw [HF.out]
      go_wp2
      go_ret
      exact ⟨rfl, rfl⟩
end Go.Proofs.YtkbpnkjjmipjfaaGreat.B
