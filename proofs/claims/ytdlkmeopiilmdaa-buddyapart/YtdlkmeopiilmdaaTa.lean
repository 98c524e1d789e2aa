/- What Take of package buddy gives back and writes where there is a block, and where there is none; no condition but the ranges that each theorem names. -/
import Derived.Test.YtdlkmeopiilmdaaTk
namespace Go.Proofs.Ytdlkmeopiilmdaa
open Go.ChangeShapes Go.WideShapes Go.ChangeAt Go.RowKit
set_option linter.unusedVariables false

theorem Own.empty {w : World} {v : Value} (h : Own w v (ints [])) : ∃ a c, v = .slice a 0 c := by
  obtain ⟨a, c, e⟩ := h.len
  exact ⟨a, c, e⟩
theorem Take_none {w : World} {G : Nat → Prop} {p : Nat} {L : Nat → List Nat} {tk : Nat → Option Nat} (h : Bu w G p L tk) (o : Nat) (ho : o ≤ 6) (he : ∀ i, o ≤ i → i ≤ 6 → L i = []) :
    Calls Try.prog 11 #[.pointer (some ⟨p, 0, none⟩), .int .i64 o] w fun e w' => e = .returned (.tuple #[.int .i64 0, .int .i64 90]) ∧ w' = w := by
  have C1 : Hid (Calls _ _ _ _ _) := made_any h
  have C2 : Hid (Calls _ _ _ _ _) := order_any o w
  have hb : (decide ((0 : Int) ≤ (o : Int)) && decide ((o : Int) ≤ 6)) = true := by simp; omega
  rw [hb] at C2
  obtain ⟨b, V, hP⟩ := h
  have HR : Hid (∀ i, o ≤ i → i ≤ 6 → ∃ a c, w.cell? ⟨p, i, none⟩ = some (.slice a 0 c)) := fun i h1 h2 => by
    have h3 := hP.rws.own i (by omega)
    rw [he i h1 h2] at h3
    obtain ⟨a, c, e⟩ := h3.empty
    exact ⟨a, c, by rw [← e]; exact hP.rws.row i (by omega)⟩
  clear hP hb he
  go_enter Try.func11, Try.ntmps11
  go_wp2_with (first | (go_at_call 27; refine C1.out.mono ?_; rintro e w' ⟨rfl, h⟩; obtain rfl := h.symm) | (go_at_call 28; refine C2.out.mono ?_; rintro e w' ⟨rfl, h⟩; obtain rfl := h.symm))
  go_loopw [6] (fun z wr => ∃ j : Nat, o ≤ j ∧ j ≤ 7 ∧ z = .int .i64 j ∧ wr = w) (fun z _ => (7 - iv z).toNat)
  case atStart => exact ⟨o, Nat.le_refl _, by omega, rfl, rfl⟩
  case round =>
    obtain ⟨j, h1, h2, rfl, hw⟩ := hrel
    obtain rfl := hw
    by_cases hj : j ≤ 6
    · obtain ⟨a, c, hc⟩ := HR.out j h1 hj
      have hj0 : (0 : Int) ≤ (j : Int) := by omega
      have hj7 : (j : Int) < 7 := by omega
      go_wp2
      go_roundw
      case rel => exact ⟨j + 1, by omega, by omega, by go_num, by simp⟩
      case measure => simp [iv]; omega
    · obtain rfl : j = 7 := by omega
      go_wp2
      go_ret2
      exact ⟨rfl, rfl⟩
theorem ints_drop_one (a : Nat) (r : List Nat) : (ints (a :: r)).take 0 ++ (ints (a :: r)).drop (0 + 1) = ints r := by simp [ints]
set_option maxHeartbeats 2000000 in
theorem Take_ok {w : World} {G : Nat → Prop} {p : Nat} {L : Nat → List Nat} {tk : Nat → Option Nat} (h : Bu w G p L tk) (hl : ∀ i, i < 7 → (L i).length ≤ 4096) (o k a : Nat) (r : List Nat) (ho : o ≤ k) (hk : k ≤ 6) (he : ∀ i, o ≤ i → i < k → L i = []) (hL : L k = a :: r) (ha : a < 4096) :
    Calls Try.prog 11 #[.pointer (some ⟨p, 0, none⟩), .int .i64 o] w fun e w' => e = .returned (.tuple #[.int .i64 a, .int .i64 0]) ∧ ∃ G', Bu w' G' p (tkL L o k a) (pt tk a (some o)) ∧ Kp G G' w w' := by
  have C1 : Hid (Calls _ _ _ _ _) := made_any h
  have C2 : Hid (Calls _ _ _ _ _) := order_any o w
  have hb : (decide ((0 : Int) ≤ (o : Int)) && decide ((o : Int) ≤ 6)) = true := by simp; omega
  rw [hb] at C2
  obtain ⟨b, V, hP⟩ := h
  have HR : Hid (∀ i, o ≤ i → i < k → ∃ a c, w.cell? ⟨p, i, none⟩ = some (.slice a 0 c)) := fun i h1 h2 => by
    have h3 := hP.rws.own i (by omega)
    rw [he i h1 h2] at h3
    obtain ⟨a, c, e⟩ := h3.empty
    exact ⟨a, c, by rw [← e]; exact hP.rws.row i (by omega)⟩
  have HP : Hid (Bp w G p b V L tk) := hP
  have hr := hP.rws.row k (by omega)
  have hf := hP.rws.fz k (by omega)
  have hw1 := hP.rws.own k (by omega)
  rw [hL] at hw1
  obtain ⟨g, cap, Lv, hv, hB, c1, c2, c3, c4⟩ := hw1.shape.resolve_left (by rintro ⟨_, e⟩; simp [ints] at e)
  have hc := hw1.cell (k := 0) (t := a) (by simp [ints])
  obtain ⟨g', cap', e', hc0⟩ := hc
  rw [hv] at e'
  cases e'
  rw [hv] at hr hw1
  have HV : Hid (V k = _) := hv
  have hpw : p < w.heap.size := hP.lt _ hP.gp
  have hvg := hP.rws.vg k (by omega)
  rw [hv] at hvg
  have hml : (ints (a :: r)).length = r.length + 1 := by simp [ints]
  have hlr : r.length + 1 ≤ 4096 := by have := hl k (by omega); rw [hL] at this; simpa using this
  have CD : Hid (∀ W, Below w.heap.size w W → Calls Try.prog 29 #[.slice (some ⟨g, 0, none⟩) (r.length + 1) cap, .int .i64 0, .int .i64 1] W fun e w' => e = .returned (.slice (some ⟨g, 0, none⟩) r.length cap) ∧ W.grownBy w' (some g) ∧ Own w' (.slice (some ⟨g, 0, none⟩) r.length cap) (ints r)) := fun W hW => by
    have hoW := hw1.of_eq (w' := W) (fun c hc => hW.block c (hw1.lt c hc))
    have := Delete_ok hoW c1 c2 0 (by rw [hml]; omega)
    rw [ints_drop_one, hml] at this
    exact this
  rw [hml] at hr HV
  have HL : Hid (∀ i, i < 7 → (L i).length ≤ 4096) := hl
  have HE : Hid (∀ i, o ≤ i → i < k → L i = []) := he
  have HLk : Hid (L k = a :: r) := hL
  have hgl : g < w.heap.size := hB.lt
  have hpg : p ≠ g := fun e => hvg (by rw [e]; rfl)
  clear hP hb he hl hL hv hvg hw1 hB c1 c2 c3 c4 hml
  go_enter Try.func11, Try.ntmps11
  go_wp2_with (first | (go_at_call 27; refine C1.out.mono ?_; rintro e w' ⟨rfl, h⟩; obtain rfl := h.symm) | (go_at_call 28; refine C2.out.mono ?_; rintro e w' ⟨rfl, h⟩; obtain rfl := h.symm))
  clear C1 C2
  go_loopw [6] (fun z wr => ∃ j : Nat, o ≤ j ∧ j ≤ k ∧ z = .int .i64 j ∧ wr = w) (fun z _ => (7 - iv z).toNat)
  case atStart => exact ⟨o, Nat.le_refl _, by omega, rfl, rfl⟩
  case round =>
    obtain ⟨j, h1, h2, rfl, hw⟩ := hrel
    obtain rfl := hw
    by_cases hj : j < k
    · obtain ⟨a, c, hc⟩ := HR.out j h1 hj
      have hj0 : (0 : Int) ≤ (j : Int) := by omega
      have hj7 : (j : Int) < 7 := by omega
      clear hr hf hc0
      go_wp2
      go_roundw
      case rel => exact ⟨j + 1, by omega, by omega, by go_num, by simp⟩
      case measure => simp [iv]; omega
    · obtain rfl : j = k := by omega
      have hj0 : (0 : Int) ≤ (j : Int) := by omega
      have hj7 : (j : Int) < 7 := by omega
      have hj7n : j < 7 := by omega
      have hrl : (0 : Int) < (r.length : Int) + 1 := by omega
      obtain ⟨m, hm⟩ : ∃ m, r.length = m := ⟨_, rfl⟩
      rw [hm] at hr HV CD hlr hrl
      have HM : Hid (r.length = m) := hm
      clear hm HR
      go_wp2
      go_region_with (first | (go_at_call 29; refine (CD.out _ (by first | exact (Below.refl _ _).drew | exact Below.refl _ _)).mono ?_; rintro e w1 ⟨rfl, g1, o1⟩; have r1 : w1.cell? ⟨p, j, none⟩ = some (.slice (some ⟨g, 0, none⟩) (m + 1) cap) := (g1.cell_far ⟨p, j, none⟩ hpw (some_ne hpg)).trans hr; have r2 : w1.frozen? ⟨p, j, none⟩ = false := (g1.frozen_far ⟨p, j, none⟩ hpw (some_ne hpg)).trans hf))
      have HS1 : Hid (∃ G', Bu (w1.setCell ⟨p, j, none⟩ (.slice (some ⟨g, 0, none⟩) m cap)) G' p (put L j r) tk ∧ Kp G G' wr (w1.setCell ⟨p, j, none⟩ (.slice (some ⟨g, 0, none⟩) m cap))) :=
        HP.out.turn j hj7n _ _ (by rw [HV.out]; exact (grown_drew _ _).trans g1) o1 (fun c hc => by rw [HV.out]; exact Or.inl hc)
      clear r1 r2 g1 o1 hr hf CD hc0 HV HP
      generalize w1.setCell ⟨p, j, none⟩ (.slice (some ⟨g, 0, none⟩) m cap) = w2 at *
      obtain ⟨G2, B2, K2⟩ := HS1.out
      have HK2 : Hid (Kp G G2 wr w2) := K2
      have CH : Hid (Calls _ _ _ _ _) := halve_ok B2 (fun i hi => by
        unfold put
        split
        · rw [HM.out]; omega
        · exact HL.out i hi) a o j (by omega) h1 hk
      clear HS1 B2 K2
      go_wp2_with fail
      refine CH.out.mono ?_
      rintro e w3 ⟨rfl, G3, ⟨b3, V3, P3⟩, K3⟩
      have HK3 : Hid (Kp G G3 wr w3) := HK2.out.trans K3
      have HP3 : Hid (Bp w3 G3 p b3 V3 (hvL (put L j r) o j a) tk) := P3
      have hcm := P3.cm
      obtain ⟨w4, hst, M4, g4⟩ := P3.mp.store (Nat.le_refl _) a ha o (by omega)
      have HF : Hid (∃ G', Bu w4 G' p (tkL L o j a) (pt tk a (some o)) ∧ Kp G G' wr w4) := by
        obtain ⟨B4, K4⟩ := HP3.out.mapped g4 M4
        have hB : Bu w4 G3 p (hvL (put L j r) o j a) (pt tk a (some o)) := ⟨b3, V3, B4⟩
        refine ⟨G3, hB.congr (fun i hi => ?_), HK3.out.trans K4⟩
        unfold hvL tkL put
        by_cases e : i = j
        · subst e
          rw [if_neg (by omega), if_pos rfl, if_pos rfl, HLk.out]
          rfl
        · rw [if_neg e, if_neg e]
      clear P3 M4 g4 K3 HK2 CH HP3 HK3
      go_wp2
      go_ret2
      exact ⟨rfl, HF.out⟩
end Go.Proofs.Ytdlkmeopiilmdaa
