/- The law TlbAges walked. -/
import Derived.Test.YtkgmdalekakgpaaAw
import Derived.Test.YtkgmdalekakgpaaWk
import Derived.Test.YtkgmdalekakgpaaOp
import Derived.Deep.RegionLaw
import Derived.Deep.CutBlock
import Derived.Deep.CutRange
import Derived.Deep.DeepCutAuto
import Derived.Deep.RegionWith
namespace Go.Proofs.Ytkgmdalekakgpaa
open Go.ChangeShapes Go.WideShapes Go.ChangeAt Go.RowKit
set_option linter.unusedVariables false
set_option linter.unusedSimpArgs false

def mrk1 (a p : Int) (z : Tr) : Tr := if hk a p z then { z with d := true } else z
theorem mrk_snoc {a p : Int} {l : List Tr} {j : Nat} {y : Tr} (h : l[j]? = some y) : mrk a p (l.take (j + 1)) = mrk a p (l.take j) ++ [mrk1 a p y] := by
  rw [List.take_add_one, h]
  simp [mrk, mrk1]
theorem mrk1_d {a p : Int} {z : Tr} (h : z.d = true) : mrk1 a p z = ⟨z.a, z.p, z.f, z.r, z.w, true⟩ := by
  unfold mrk1
  split
  · rfl
  · cases z; cases h; rfl
theorem mrk1_is {a p : Int} {z : Tr} (ha : z.a = a) (hp : z.p = p) : mrk1 a p z = ⟨z.a, z.p, z.f, z.r, z.w, true⟩ := by
  unfold mrk1
  rw [if_pos (by simp [hk, ha, hp])]
theorem mrk1_no {a p : Int} {z : Tr} (h : z.d = false) (hn : ¬ (z.a = a ∧ z.p = p)) : mrk1 a p z = ⟨z.a, z.p, z.f, z.r, z.w, false⟩ := by
  unfold mrk1
  rw [if_neg (fun e => hn (hk_eq e))]
  cases z; cases h; rfl
set_option maxRecDepth 100000 in
set_option maxHeartbeats 8000000 in
theorem ages_walk (w : World) (n0 : Int) (hn0 : -9223372036854775808 ≤ n0) (hn1 : n0 < 9223372036854775808) (al : Option Addr) (ll cl : Nat) (hl : ll ≤ maxLen) (D : Dos w al ll) :
    Calls Try.prog 7 #[.int .i64 n0, .slice al ll cl] w fun e w' => e = .returned (.bool true) ∧ Below w.heap.size w w' := by
  unfold maxLen at hl
  have HD : Hid (Dos w al ll) := D
  have CN : Hid (∀ W, Calls Try.prog 15 #[.int .i64 n0, .int .i64 8] W fun e w' => e = .returned (.int .i64 (n0 % 8)) ∧ w' = W) := fun W => kind_any n0 8 (by omega) (by omega) hn0 hn1 W
  obtain ⟨m, hm⟩ : ∃ m : Nat, n0 % 8 = m := ⟨(n0 % 8).toNat, by omega⟩
  have hm8 : m < 8 := by omega
  rw [hm] at CN
  clear D hm hn0 hn1
  go_enter Try.func7, Try.ntmps7
  go_wp2_with fail
  refine (works_any w).mono ?_
  rintro e w1 ⟨rfl, hb⟩
  have B1 : Hid (Below w.heap.size w w1) := hb
  clear hb
  go_wp2_with fail
  refine (CN.out _).mono ?_
  rintro e w' ⟨rfl, rfl⟩
  have CW : Hid (Calls Try.prog 8 #[.int .i64 (1 + (m : Int))] w' fun e w'' => ∃ p F, e = .returned (.tuple #[.pointer (some ⟨p, 0, none⟩), .int .i64 0]) ∧ Ca w'' F p (1 + m) [] ∧ Kp (fun _ => False) F w' w'') := by
    have := New_ok (1 + m) (by omega) (by omega) w'
    rw [show ((1 + m : Nat) : Int) = 1 + (m : Int) by omega] at this
    exact this
  go_wp2_with fail
  refine CW.out.mono ?_
  rintro e w2 ⟨p, F, rfl, hC, hK⟩
  have O0 : Hid (On (fun k => k < w.heap.size) w w2 p (1 + m) []) := by
    have h := On.start hC hK
    have kp : Kpt (fun k => k < w.heap.size) w w' := ⟨B1.out.os, B1.out.tape, B1.out.output, B1.out.size, B1.out.block, fun i hi => hi⟩
    exact On.less kp h (fun i hi => Nat.lt_of_lt_of_le hi B1.out.size)
  clear hC hK B1 CW CN
  go_wp2_with fail
  go_loopw [7] (fun i wr => ∃ k : Nat, k ≤ ll ∧ k ≤ 60 ∧ i = .int .i64 k ∧ ∃ l, On (fun k => k < w.heap.size) w wr p (1 + m) l) (fun i _ => ll - (intOf i).toNat)
  case atStart => exact ⟨0, by omega, by omega, rfl, _, O0.out⟩
  case round =>
    clear O0
    obtain ⟨k, hk, hk2, rfl, l, hO⟩ := hrel
    have O1 : Hid (On (fun k => k < w.heap.size) w wr p (1 + m) l) := hO
    clear hO
    by_cases a1 : k < ll ∧ k < 60
    · obtain ⟨a1, a2⟩ := a1
      obtain ⟨b, off, Kd, x, e1, hb, hd⟩ := HD.out k a1
      subst e1
      have HDo : Hid (∀ W, Kpt (fun k => k < w.heap.size) w W → W.cell? ⟨b, off + k * 7, none⟩ = some (.int .i64 Kd)) := fun W hW => (hd.of_eq (hW.block b hb)).k
      obtain ⟨d0, d1, d2, d3, d4, d5⟩ := Six.of (hd.of_eq (O1.out.kpt.block b hb)).six
      obtain ⟨xa0, xa1⟩ := hd.wf.a
      obtain ⟨xp0, xp1⟩ := hd.wf.p
      obtain ⟨xf0, xf1⟩ := hd.wf.f
      have C1 : Hid (∀ W, Calls Try.prog 15 #[.int .i64 x.a, .int .i64 3] W fun e w' => e = .returned (.int .i64 (x.a % 3)) ∧ w' = W) := fun W => kind_any x.a 3 (by omega) (by omega) xa0 xa1 W
      have C2 : Hid (∀ W, Calls Try.prog 15 #[.int .i64 x.p, .int .i64 6] W fun e w' => e = .returned (.int .i64 (x.p % 6)) ∧ w' = W) := fun W => kind_any x.p 6 (by omega) (by omega) xp0 xp1 W
      have C3 : Hid (∀ W, Calls Try.prog 15 #[.int .i64 x.f, .int .i64 4096] W fun e w' => e = .returned (.int .i64 (x.f % 4096)) ∧ w' = W) := fun W => kind_any x.f 4096 (by omega) (by omega) xf0 xf1 W
      have C4 : Hid (∀ W, Calls Try.prog 15 #[.int .i64 Kd, .int .i64 5] W fun e w' => e = .returned (.int .i64 (Kd % 5)) ∧ w' = W) := fun W => kind_any Kd 5 (by omega) (by omega) hd.k0 hd.k1 W
      have HXX : Hid (okA (x.a % 3) = true ∧ okP (x.p % 6) = true ∧ okF (x.f % 4096) = true) := by
        refine ⟨?_, ?_, ?_⟩
        · simp [okA]; omega
        · simp [okP]; omega
        · simp [okF]; omega
      obtain ⟨xr, hxr⟩ : ∃ xr, x.r = xr := ⟨_, rfl⟩
      obtain ⟨xw, hxw⟩ : ∃ xw, x.w = xw := ⟨_, rfl⟩
      obtain ⟨xd, hxd⟩ : ∃ xd, x.d = xd := ⟨_, rfl⟩
      rw [hxr] at d3
      rw [hxw] at d4
      rw [hxd] at d5
      have hr3 : Kd % 5 = 0 ∨ Kd % 5 = 1 ∨ Kd % 5 = 2 ∨ Kd % 5 = 3 ∨ Kd % 5 = 4 := by omega
      clear hd xa0 xa1 xp0 xp1 xf0 xf1 hxr hxw hxd
      go_wp2_with fail
      refine (C1.out _).mono ?_
      rintro e w' ⟨rfl, rfl⟩
      go_wp2_with fail
      refine (C2.out _).mono ?_
      rintro e w' ⟨rfl, rfl⟩
      go_wp2_with fail
      refine (C3.out _).mono ?_
      rintro e w' ⟨rfl, rfl⟩
      generalize x.a % 3 = A at *
      generalize x.p % 6 = G at *
      generalize x.f % 4096 = Fr at *
      clear C1 C2 C3 d0 d1 d2 d3 d4 d5
      go_wp2_with fail
      have X2 : Hid (Six (wr.alloc (.cells #[.int .i64 A, .int .i64 G, .int .i64 Fr, .bool xr, .bool xw, .bool xd] 32)) wr.heap.size 0 ⟨A, G, Fr, xr, xw, xd⟩) := six_new wr ⟨A, G, Fr, xr, xw, xd⟩ 32
      have B2 : Hid (Below wr.heap.size wr (wr.alloc (.cells #[.int .i64 A, .int .i64 G, .int .i64 Fr, .bool xr, .bool xw, .bool xd] 32))) := below_new _ _
      have hb2 : wr.heap.size < (wr.alloc (.cells #[.int .i64 A, .int .i64 G, .int .i64 Fr, .bool xr, .bool xw, .bool xd] 32)).heap.size := by simp
      generalize wr.alloc (.cells #[.int .i64 A, .int .i64 G, .int .i64 Fr, .bool xr, .bool xw, .bool xd] 32) = W2 at *
      obtain ⟨hlen, hn64, hn1', huq⟩ := O1.out.len
      have HU : Hid (Uq l) := huq
      clear huq
      refine (O1.out.below B2.out).all.mono ?_
      rintro e w3 ⟨va, rfl, oa, hb3⟩
      have A3 : Hid (Own W2.heap.size w3 va l) := oa
      have B3 : Hid (Below wr.heap.size wr w3) := B2.out.trans (hb3.mono B2.out.size)
      have X3 : Hid (Six w3 wr.heap.size 0 ⟨A, G, Fr, xr, xw, xd⟩) := X2.out.below hb2 hb3
      have hs3 := hb3.size
      clear oa hb3 B2 X2
      obtain ⟨x0, x1, x2, x3, x4, x5⟩ := X3.out
      have CW : Hid (Calls _ _ _ _ _) := without_any A3.out (by omega) A G
      go_wp2_with fail
      refine CW.out.mono ?_
      rintro e w4 ⟨vr, rfl, orr, hb4⟩
      have R4 : Hid (Own w3.heap.size w4 vr (rm A G l)) := orr
      have A4 : Hid (Own W2.heap.size w4 va l) := A3.out.below hb4
      have B4 : Hid (Below wr.heap.size wr w4) := B3.out.trans (hb4.mono B3.out.size)
      have X4 : Hid (Six w4 wr.heap.size 0 ⟨A, G, Fr, xr, xw, xd⟩) := X3.out.below (by omega) hb4
      have hs4 := hb4.size
      have O4 : Hid (On (fun i => i < w.heap.size ∨ (wr.heap.size ≤ i ∧ i < w4.heap.size)) w4 w4 p (1 + m) l) := O1.out.more B4.out
      have KB : Hid (Kpt (fun k => k < w.heap.size) w w4) := O1.out.kpt.below B4.out
      clear orr hb4 CW B3 X3 A3 x0 x1 x2 x3 x4 x5
      have KA : Hid (∀ W, Kpt (fun i => i < w.heap.size ∨ (wr.heap.size ≤ i ∧ i < w4.heap.size)) w4 W → Own 0 W va l) := fun W kk => (kk.own A4.out (fun g hg => Or.inr (by have := A4.out.lt g hg; omega))).weak (Nat.zero_le _)
      have KR : Hid (∀ W, Kpt (fun i => i < w.heap.size ∨ (wr.heap.size ≤ i ∧ i < w4.heap.size)) w4 W → Own 0 W vr (rm A G l)) := fun W kk => (kk.own R4.out (fun g hg => Or.inr (by have := R4.out.lt g hg; omega))).weak (Nat.zero_le _)
      have KX : Hid (∀ W, Kpt (fun i => i < w.heap.size ∨ (wr.heap.size ≤ i ∧ i < w4.heap.size)) w4 W → Six W wr.heap.size 0 ⟨A, G, Fr, xr, xw, xd⟩) := fun W kk => X4.out.of_eq (kk.block _ (Or.inr ⟨Nat.le_refl _, by omega⟩))
      have DK : Hid (∀ W, Kpt (fun i => i < w.heap.size ∨ (wr.heap.size ≤ i ∧ i < w4.heap.size)) w4 W → W.cell? ⟨b, off + k * 7, none⟩ = some (.int .i64 Kd)) := fun W kk => HDo.out W (KB.out.trans kk (fun i hi => Or.inl hi))
      have FIN : Hid (∀ W l, On (fun i => i < w.heap.size ∨ (wr.heap.size ≤ i ∧ i < w4.heap.size)) w4 W p (1 + m) l → On (fun k => k < w.heap.size) w W p (1 + m) l) := fun W l o => On.less KB.out o (fun i hi => Or.inl hi)
      obtain ⟨Q, hQ⟩ : ∃ Q, Q = (fun i => i < w.heap.size ∨ (wr.heap.size ≤ i ∧ i < w4.heap.size)) := ⟨_, rfl⟩
      rw [← hQ] at O4 KA KR KX DK FIN
      clear hQ KB A4 R4 X4 HDo B4 O1
      generalize wr.heap.size = b2 at *
      have dk := DK.out w4 O4.out.kpt
      obtain ⟨va0, vac, hva⟩ := (KA.out w4 O4.out.kpt).len
      obtain ⟨vr0, vrc, hvr⟩ := (KR.out w4 O4.out.kpt).len
      subst hva hvr
      go_wp2_with fail
      refine (C4.out _).mono ?_
      rintro e w' ⟨rfl, rfl⟩
      clear dk C4 DK
      obtain ⟨o1, o2, o3⟩ := HXX.out
      obtain ⟨x0, x1, x2, x3, x4, x5⟩ := KX.out w' O4.out.kpt
      have HRN : Hid (look A G l = none → rm A G l = l) := fun h => by
        rcases ix_or A G l with ⟨_, _, _, e⟩ | ⟨h1, _⟩
        · rw [h] at e; cases e
        · exact rm_none h1
      have HRS : Hid (∀ X, look A G l = some X → (rm A G l).length + 1 = l.length) := fun X h => by
        rcases ix_or A G l with ⟨_, _, hx, _⟩ | ⟨_, e⟩
        · exact rm_len_at HU.out hx.at' hx.is
        · rw [h] at e; cases e
      have HRl : Hid ((look A G l).isSome = decide ((rm A G l).length < l.length)) := by
        unfold Hid
        cases hlk : look A G l with
        | none => rw [HRN.out hlk]; simp
        | some X => have := HRS.out X hlk; simp; omega
      obtain ⟨r, hrr⟩ : ∃ r, (rm A G l).length = r := ⟨_, rfl⟩
      have HR : Hid ((rm A G l).length = r) := hrr
      have hrl := rm_len A G l
      rw [hrr] at KR hrl HRl HRS
      rw [hrr]
      clear hrr
      go_upto_block 2 with fail
      go_cut [11] (fun v wc => ∃ l', On Q w' wc p (1 + m) l' ∧ Own 0 wc v l')
      case first =>
        rcases hr3 with hr | hr | hr | hr | hr
        · have q0 : ((Kd % 5 : Int) == 0) = true := by rw [hr]; rfl
          clear hr
          cases hlk : look A G l with
          | none =>
            have hrn := HRN.out hlk
            have CF : Hid (Calls _ _ _ _ _) := O4.out.find_at A G z0 false 0 l (by simp [pk, o1, o2, hlk]) (by simp [fd, o1, o2, hlk])
            have hrq : ¬ r < l.length := by
              have := HR.out
              rw [hrn] at this
              omega
            clear hlk o1 o2 o3 hrn HRN HRS HRl
            go_wp2_with fail
            refine CF.out.mono ?_
            rintro e w5 ⟨rfl, hO⟩
            have O6 : Hid (On Q w' (w5.alloc (.cells #[.int .i64 0, .int .i64 0, .int .i64 0, .bool false, .bool false, .bool false] 32)) p (1 + m) l) := hO.below (below_new _ _)
            have HW : Hid (Own 0 (w5.alloc (.cells #[.int .i64 0, .int .i64 0, .int .i64 0, .bool false, .bool false, .bool false] 32)) (.slice va0 l.length vac) l) := (KA.out w5 hO.kpt).below (below_new _ _)
            clear hO CF x0 x1 x2 x3 x4 x5
            go_wp2_with fail
            go_meet
            case rel => exact ⟨_, O6.out, HW.out⟩
          | some X =>
            have hrl := HRS.out X hlk
            have CF : Hid (Calls _ _ _ _ _) := O4.out.find_at A G X true 0 (X :: rm A G l) (by simp [pk, o1, o2, hlk]) (by simp [fd, o1, o2, hlk])
            clear hlk o1 o2 o3 HRN HRS HRl
            have hr1 : r < l.length := by omega
            clear hrl
            go_wp2_with fail
            refine CF.out.mono ?_
            rintro e w5 ⟨rfl, hO⟩
            have HFR : Hid (∀ ty, ∃ v' w6, (Builtin.append_ #[35, 35] ty #[.slice (some ⟨w5.heap.size + 1, 0, none⟩) 1 1, .slice vr0 r vrc]).run Try.prog ((w5.alloc (.cells #[.int .i64 X.a, .int .i64 X.p, .int .i64 X.f, .bool X.r, .bool X.w, .bool X.d] 32)).alloc (.cells #[.int .i64 X.a, .int .i64 X.p, .int .i64 X.f, .bool X.r, .bool X.w, .bool X.d] 32)) = .ok v' w6 ∧ (Own 0 w6 v' (X :: (rm A G l).take r) ∧ ((w5.alloc (.cells #[.int .i64 X.a, .int .i64 X.p, .int .i64 X.f, .bool X.r, .bool X.w, .bool X.d] 32)).alloc (.cells #[.int .i64 X.a, .int .i64 X.p, .int .i64 X.f, .bool X.r, .bool X.w, .bool X.d] 32)).grownBy w6 (some (w5.heap.size + 1)))) := fun ty => by
              have hbk : Blk ((w5.alloc (.cells #[.int .i64 X.a, .int .i64 X.p, .int .i64 X.f, .bool X.r, .bool X.w, .bool X.d] 32)).alloc (.cells #[.int .i64 X.a, .int .i64 X.p, .int .i64 X.f, .bool X.r, .bool X.w, .bool X.d] 32)) (w5.heap.size + 1) 32 (tc X) := by
                have := blk_new (w5.alloc (.cells #[.int .i64 X.a, .int .i64 X.p, .int .i64 X.f, .bool X.r, .bool X.w, .bool X.d] 32)) (tc X) 32
                rw [show (w5.alloc (.cells #[.int .i64 X.a, .int .i64 X.p, .int .i64 X.f, .bool X.r, .bool X.w, .bool X.d] 32)).heap.size = w5.heap.size + 1 by simp] at this
                exact this
              exact front_run hbk (Nat.zero_le _) (((KR.out w5 hO.kpt).below (below_new _ _)).below (below_new _ _)) (by rw [HR.out]; exact Nat.le_refl _) (by rw [HR.out]; omega) ty
            have HTK : Hid ((rm A G l).take r = rm A G l) := List.take_of_length_le (by rw [HR.out]; exact Nat.le_refl _)
            have O5 : Hid (On Q w' w5 p (1 + m) (X :: rm A G l)) := hO
            clear hO CF x0 x1 x2 x3 x4 x5
            go_wp2_with (at_builtin; refine wpList_append_any rfl (.tmp 124) (.tmp 125) rfl _ _ rfl rfl (HFR.out _) ?_; rintro v6 w6 ⟨o6, g6⟩)
            have O6 : Hid (On Q w' w6 p (1 + m) (X :: rm A G l)) := O5.out.below ((((below_new w5 _).alloc (by simp) _)).grown g6 (by simp; omega) (fun i hi => by injection hi with hi; omega))
            have HW : Hid (Own 0 w6 v6 (X :: rm A G l)) := by
              rw [HTK.out] at o6
              exact o6
            clear o6 g6 HFR
            go_wp2_with fail
            go_meet
            case rel => exact ⟨_, O6.out, HW.out⟩
        · have q0 : ((Kd % 5 : Int) == 0) = false := by rw [hr]; rfl
          have q1 : ((Kd % 5 : Int) == 1) = true := by rw [hr]; rfl
          clear hr
          have CF : Hid (Calls _ _ _ _ _) := O4.out.fill_at A G Fr xr xw xd (fil (1 + m) ⟨A, G, Fr, xr, xw, xd⟩ l) 0 (by simp [filE, o1, o2, o3]) (by simp [filL, o1, o2, o3])
          clear o1 o2 o3 HRN HRS HRl
          go_wp2_with fail
          refine CF.out.mono ?_
          rintro e w5 ⟨rfl, hO⟩
          clear x0 x1 x2 x3 x4 x5
          obtain ⟨x0, x1, x2, x3, x4, x5⟩ := KX.out w5 hO.kpt
          have hvc : r ≤ vrc ∧ vrc ≤ maxLen := by
            rcases (KR.out w5 hO.kpt).shape with ⟨e, e2⟩ | ⟨g, cap, L, e, _, _, h1, h2, _⟩
            · cases e
              exact ⟨Nat.le_refl _, by unfold maxLen; omega⟩
            · cases e
              rw [HR.out] at h1
              exact ⟨h1, h2⟩
          obtain ⟨hvc1, hvc2⟩ := hvc
          unfold maxLen at hvc2
          have j1 : IntKind.i64.wrap (1 + (m : Int) - 1) = (m : Int) := by rw [IntWalk.i64_in _ (by omega)]; omega
          have j2 : (0 : Int) ≤ (r : Int) := by omega
          have j3 : (0 : Int) ≤ (m : Int) := by omega
          obtain ⟨kk, hk0, hk1, hk2⟩ : ∃ kk : Nat, (if m < r then (m : Int) else (r : Int)) = (kk : Int) ∧ kk ≤ r ∧ ⟨A, G, Fr, xr, xw, xd⟩ :: (rm A G l).take kk = fil (1 + m) ⟨A, G, Fr, xr, xw, xd⟩ l := by
            by_cases hrm : m < r
            · refine ⟨m, if_pos hrm, by omega, ?_⟩
              unfold fil
              rw [Nat.add_comm 1 m, List.take_succ_cons]
            · refine ⟨r, if_neg hrm, by omega, ?_⟩
              unfold fil
              rw [Nat.add_comm 1 m, List.take_succ_cons]
              congr 1
              rw [List.take_of_length_le (by rw [HR.out]; omega), List.take_of_length_le (by rw [HR.out]; omega)]
          have HTK : Hid (⟨A, G, Fr, xr, xw, xd⟩ :: (rm A G l).take kk = fil (1 + m) ⟨A, G, Fr, xr, xw, xd⟩ l) := hk2
          have j6 : (kk : Int) ≤ (vrc : Int) := by omega
          have j7 : (0 : Int) ≤ (kk : Int) := by omega
          clear hk2
          have HFR : Hid (∀ ty, ∃ v' w6, (Builtin.append_ #[35, 35] ty #[.slice (some ⟨w5.heap.size, 0, none⟩) 1 1, .slice vr0 kk vrc]).run Try.prog (w5.alloc (.cells #[.int .i64 A, .int .i64 G, .int .i64 Fr, .bool xr, .bool xw, .bool xd] 32)).drew = .ok v' w6 ∧ (Own 0 w6 v' (⟨A, G, Fr, xr, xw, xd⟩ :: (rm A G l).take kk) ∧ (w5.alloc (.cells #[.int .i64 A, .int .i64 G, .int .i64 Fr, .bool xr, .bool xw, .bool xd] 32)).drew.grownBy w6 (some w5.heap.size))) := fun ty => by
            have hbk : Blk (w5.alloc (.cells #[.int .i64 A, .int .i64 G, .int .i64 Fr, .bool xr, .bool xw, .bool xd] 32)).drew w5.heap.size 32 (tc ⟨A, G, Fr, xr, xw, xd⟩) := (blk_new w5 (tc ⟨A, G, Fr, xr, xw, xd⟩) 32).drew
            exact front_run hbk (Nat.zero_le _) ((KR.out w5 hO.kpt).below (below_new _ _).drew) (by rw [HR.out]; omega) (by rw [HR.out]; omega) ty
          have O5 : Hid (On Q w' w5 p (1 + m) (fil (1 + m) ⟨A, G, Fr, xr, xw, xd⟩ l)) := hO
          clear hO CF
          go_wp2_with fail
          go_region_law (refine step_append_any rfl (.tmp 134) (.tmp 141) rfl (.slice (some ⟨w5.heap.size, 0, none⟩) 1 1) (.slice vr0 kk vrc) (by simp [Act.eval, Act.put]) (by simp [Act.eval, Act.put]) (HFR.out _) ?_; rintro v6 w6 ⟨o6, g6⟩)
          all_goals (
            have O6 : Hid (On Q w' w6 p (1 + m) (fil (1 + m) ⟨A, G, Fr, xr, xw, xd⟩ l)) := O5.out.below (((below_new w5 _).drew).grown g6 (by show _ ≤ (w5.alloc _).heap.size; simp) (fun i hi => by injection hi with hi; omega))
            have HW : Hid (Own 0 w6 v6 (fil (1 + m) ⟨A, G, Fr, xr, xw, xd⟩ l)) := by
              rw [HTK.out] at o6
              exact o6
            clear o6 g6 HFR x0 x1 x2 x3 x4 x5
            go_wp2_with fail
            go_meet
            case rel => exact ⟨_, O6.out, HW.out⟩)
        · as_aux_lemma =>
            have q0 : ((Kd % 5 : Int) == 0) = false := by rw [hr]; rfl
            have q1 : ((Kd % 5 : Int) == 1) = false := by rw [hr]; rfl
            have q2 : ((Kd % 5 : Int) == 2) = true := by rw [hr]; rfl
            clear hr
            have CF : Hid (Calls _ _ _ _ _) := O4.out.peek_at A G (pk A G l).1 (look A G l).isSome 0 (by cases hlk : look A G l <;> simp [pk, o1, o2, hlk])
            rw [HRl.out] at CF
            generalize (pk A G l).1 = X at *
            clear o1 o2 o3 HRN HRS HRl
            obtain ⟨bb, hbb⟩ : ∃ bb, decide (r < l.length) = bb := ⟨_, rfl⟩
            rw [hbb] at CF
            have hbb2 : decide ((r : Int) < (l.length : Int)) = bb := by rw [← hbb]; simp
            have hbn : (bb != bb) = false := by simp
            go_wp2_with fail
            refine CF.out.mono ?_
            rintro e w5 ⟨rfl, hb5⟩
            have O6 : Hid (On Q w' (w5.alloc (.cells #[.int .i64 X.a, .int .i64 X.p, .int .i64 X.f, .bool X.r, .bool X.w, .bool X.d] 32)) p (1 + m) l) := (O4.out.below hb5).below (below_new _ _)
            have HW : Hid (Own 0 (w5.alloc (.cells #[.int .i64 X.a, .int .i64 X.p, .int .i64 X.f, .bool X.r, .bool X.w, .bool X.d] 32)) (.slice va0 l.length vac) l) := (KA.out _ (O4.out.below hb5).kpt).below (below_new _ _)
            clear hb5 CF x0 x1 x2 x3 x4 x5
            go_wp2_with fail
            go_meet
            case rel => exact ⟨_, O6.out, HW.out⟩
        · have q0 : ((Kd % 5 : Int) == 0) = false := by rw [hr]; rfl
          have q1 : ((Kd % 5 : Int) == 1) = false := by rw [hr]; rfl
          have q2 : ((Kd % 5 : Int) == 2) = false := by rw [hr]; rfl
          have q3 : ((Kd % 5 : Int) == 3) = true := by rw [hr]; rfl
          clear hr
          obtain ⟨i0, hi0, hz0, hz1, hz2⟩ := info_parts Try.infoT
          have CF : Hid (Calls _ _ _ _ _) := O4.out.mark_at A G (look A G l).isSome 0 (mrk A G l) (by simp [isT, o1, o2]) (by simp [mrkL, o1, o2])
          rw [HRl.out] at CF
          clear o1 o2 o3 HRN HRS HRl x0 x1 x2 x3 x4 x5
          have hb4 : b2 < w'.heap.size := by
            have h0 := (KX.out w' O4.out.kpt).c0
            unfold World.cell? at h0
            by_cases hh : b2 < w'.heap.size
            · exact hh
            · rw [Array.getElem?_eq_none (by omega)] at h0
              cases h0
          obtain ⟨x0, x1, x2, x3, x4, x5⟩ := KX.out w' O4.out.kpt
          obtain ⟨bb, hbb⟩ : ∃ bb, decide (r < l.length) = bb := ⟨_, rfl⟩
          rw [hbb] at CF
          have hbb2 : decide ((r : Int) < (l.length : Int)) = bb := by rw [← hbb]; simp
          have hbn : (bb != bb) = false := by simp
          go_wp2_with fail
          refine CF.out.mono ?_
          rintro e w5 ⟨rfl, hO⟩
          have O5 : Hid (On Q w' w5 p (1 + m) (mrk A G l)) := hO
          have hs5 := hO.kpt.size
          have KA5 : Hid (Own 0 w5 (.slice va0 l.length vac) l) := KA.out w5 hO.kpt
          have KX5 : Hid (Six w5 b2 0 ⟨A, G, Fr, xr, xw, xd⟩) := KX.out w5 hO.kpt
          clear hO CF x0 x1 x2 x3 x4 x5
          go_wp2_with fail
          go_loopw [11, 20] (fun v i wr => ∃ j : Nat, j ≤ l.length ∧ i = .int .i64 j ∧ Own w5.heap.size wr v (mrk A G (l.take j)) ∧ Below w5.heap.size w5 wr) (fun _ i _ => l.length - (intOf i).toNat)
          case atStart => exact ⟨0, by omega, rfl, Own.nil _ _, Below.refl _ _⟩
          case round =>
            obtain ⟨j, hj, rfl, o, hb⟩ := hrel
            have HB : Hid (Below w5.heap.size w5 wr) := hb
            have hsz := hb.size
            have HK : Hid (wr.ownsRow w5.heap.size 32 6 u11 (mrk A G (l.take j)).length (tv (mrk A G (l.take j)))) := o
            have hA : (mrk A G (l.take j)).length ≤ 1000 := by rw [mrk_len]; simp; omega
            obtain ⟨x0, x1, x2, x3, x4, x5⟩ := KX5.out.below (by omega) hb
            have hb2r : b2 < wr.heap.size := by omega
            clear o
            by_cases hjl : j < l.length
            · have hg : l[j]? = some l[j] := List.getElem?_eq_getElem hjl
              have HG : Hid (l[j]? = some l[j]) := hg
              obtain ⟨gr, cap', e1, ⟨d0, d1, d2, d3, d4, d5⟩, _, hgl, hc1, hc2⟩ := (KA5.out.below hb).cell hg
              cases e1
              clear hg hb
              generalize l[j] = z at *
              unfold maxLen at hc2
              go_upto_region 45 with fail
              go_cut [] from 197 to 214 (fun wc => ∃ D, mrk1 A G z = ⟨z.a, z.p, z.f, z.r, z.w, D⟩ ∧ wc = wr.alloc (.cells #[.int .i64 z.a, .int .i64 z.p, .int .i64 z.f, .bool z.r, .bool z.w, .bool D] 32))
              case first =>
                by_cases qd : z.d = true
                · have HZ : Hid (mrk1 A G z = ⟨z.a, z.p, z.f, z.r, z.w, true⟩) := mrk1_d qd
                  go_wp2_with fail
                  go_meet
                  case rel => exact ⟨_, HZ.out, rfl⟩
                · have qd : z.d = false := by simpa using qd
                  by_cases ha : z.a = A
                  · have q11 : (z.a == A) = true := by simpa using ha
                    by_cases hp : z.p = G
                    · have q12 : (z.p == G) = true := by simpa using hp
                      have HZ : Hid (mrk1 A G z = ⟨z.a, z.p, z.f, z.r, z.w, true⟩) := mrk1_is ha hp
                      clear ha hp
                      go_wp2_with fail
                      go_meet
                      case rel => exact ⟨_, HZ.out, rfl⟩
                    · have q12 : (z.p == G) = false := by simpa using hp
                      have HZ : Hid (mrk1 A G z = ⟨z.a, z.p, z.f, z.r, z.w, false⟩) := mrk1_no qd (fun h => hp h.2)
                      clear ha hp
                      go_wp2_with fail
                      go_meet
                      case rel => exact ⟨_, HZ.out, rfl⟩
                  · have q11 : (z.a == A) = false := by simpa using ha
                    have HZ : Hid (mrk1 A G z = ⟨z.a, z.p, z.f, z.r, z.w, false⟩) := mrk1_no qd (fun h => ha h.1)
                    clear ha
                    go_wp2_with fail
                    go_meet
                    case rel => exact ⟨_, HZ.out, rfl⟩
              case rest =>
                obtain ⟨D, hZD, rfl⟩ := hcut
                clear d0 d1 d2 d3 d4 d5
                have HZ : Hid (mrk1 A G z = ⟨z.a, z.p, z.f, z.r, z.w, D⟩) := hZD
                have HN : Hid (∀ o j u, (tc ⟨z.a, z.p, z.f, z.r, z.w, D⟩)[j]? = some u → ((wr.alloc o).alloc (.cells #[.int .i64 z.a, .int .i64 z.p, .int .i64 z.f, .bool z.r, .bool z.w, .bool D] 32)).cell? ((⟨wr.heap.size + 1, 0, none⟩ : Addr).add j) = some u) := fun o j u hu => by
                  have := box_cells (wr.alloc o) ⟨z.a, z.p, z.f, z.r, z.w, D⟩ 32 j u hu
                  rw [show (wr.alloc o).heap.size = wr.heap.size + 1 by simp] at this
                  exact this
                have HT : Hid (∀ v ∈ tc ⟨z.a, z.p, z.f, z.r, z.w, D⟩, v.oneCell' = true) := tc_one _
                have HF : Hid (mrk A G (l.take (j + 1)) = mrk A G (l.take j) ++ [⟨z.a, z.p, z.f, z.r, z.w, D⟩]) := by
                  unfold Hid
                  rw [mrk_snoc HG.out, HZ.out]
                obtain ⟨M, hMM⟩ : ∃ M, mrk A G (l.take j) = M := ⟨_, rfl⟩
                have HMM : Hid (mrk A G (l.take j) = M) := hMM
                rw [hMM] at HK hA HF
                clear hMM
                go_wp2_with (at_builtin; refine wpList_append_own _ rfl (.tmp 215) (.tmp 217) 35 rfl w5.heap.size 32 i0 _ 6 32 Try.underlying35 hi0 hz0 hz1 hz2 rfl (by decide) _ M.length _ rfl (World.ownsRow.alloc (World.ownsRow.alloc HK.out _) _) ⟨wr.heap.size + 1, 0, none⟩ 1 1 (tc ⟨z.a, z.p, z.f, z.r, z.w, D⟩) rfl rfl (HN.out _) HT.out (by unfold maxLen; omega) (by omega) (by simp; omega) ?_; intro v3 w3 o3 gr3 nil3)
                go_roundw
                case rel =>
                  refine ⟨j + 1, by omega, by go_num, ?_, ((HB.out.alloc hsz _).alloc (by simp; omega) _).grown gr3 (by simp; omega) (fun k hk => (HK.out.lt k hk).1)⟩
                  rw [HF.out]
                  unfold Own
                  rw [tv_app, List.length_append, show tv [⟨z.a, z.p, z.f, z.r, z.w, D⟩] = tc ⟨z.a, z.p, z.f, z.r, z.w, D⟩ by simp [tv]]
                  exact o3
                case measure => simp [intOf]; omega
            · obtain rfl : j = l.length := by omega
              have O6 : Hid (On Q w' wr p (1 + m) (mrk A G l)) := O5.out.below hb
              have HW : Hid (Own 0 wr u11 (mrk A G l)) := by
                have h := HK.out
                rw [List.take_of_length_le (Nat.le_refl _)] at h
                exact Own.weak h (Nat.zero_le _)
              clear hb x0 x1 x2 x3 x4 x5
              go_wp2_with fail
              go_meet
              case rel => exact ⟨_, O6.out, HW.out⟩
        · as_aux_lemma =>
            have q0 : ((Kd % 5 : Int) == 0) = false := by rw [hr]; rfl
            have q1 : ((Kd % 5 : Int) == 1) = false := by rw [hr]; rfl
            have q2 : ((Kd % 5 : Int) == 2) = false := by rw [hr]; rfl
            have q3 : ((Kd % 5 : Int) == 3) = false := by rw [hr]; rfl
            clear hr
            have CF : Hid (Calls _ _ _ _ _) := O4.out.drop_at A G (look A G l).isSome 0 (rm A G l) (by simp [isT, o1, o2]) (by simp [rmL, o1, o2])
            rw [HRl.out] at CF
            clear o1 o2 o3 HRN HRS HRl
            obtain ⟨bb, hbb⟩ : ∃ bb, decide (r < l.length) = bb := ⟨_, rfl⟩
            rw [hbb] at CF
            have hbb2 : decide ((r : Int) < (l.length : Int)) = bb := by rw [← hbb]; simp
            have hbn : (bb != bb) = false := by simp
            go_wp2_with fail
            refine CF.out.mono ?_
            rintro e w5 ⟨rfl, hO⟩
            have O6 : Hid (On Q w' w5 p (1 + m) (rm A G l)) := hO
            have HW : Hid (Own 0 w5 (.slice vr0 r vrc) (rm A G l)) := KR.out _ hO.kpt
            clear hO CF x0 x1 x2 x3 x4 x5
            go_wp2_with fail
            go_meet
            case rel => exact ⟨_, O6.out, HW.out⟩
      case rest =>
        as_aux_lemma =>
          obtain ⟨l', hO, hW⟩ := hcut
          have O6 : Hid (On Q w' wc p (1 + m) l') := hO
          have HW : Hid (Own 0 wc u11 l') := hW
          clear hO hW x0 x1 x2 x3 x4 x5 o1 o2 o3 HRN HRS HRl
          go_wp2_with fail
          refine O6.out.all.mono ?_
          rintro e w7 ⟨v7, rfl, o7, hb7⟩
          have O7 : Hid (On (fun k => k < w.heap.size) w w7 p (1 + m) _) := FIN.out _ _ (O6.out.below hb7)
          have CS : Hid (Calls _ _ _ _ _) := same_any o7 (HW.out.below hb7) (by have := O7.out.len.1; omega)
          clear o7 hb7
          go_wp2_with fail
          refine CS.out.mono ?_
          rintro e w8 ⟨rfl, hb8⟩
          have O8 : Hid (On (fun k => k < w.heap.size) w w8 p (1 + m) _) := O7.out.below hb8
          clear hb8 CS O7
          go_wp2_with fail
          go_roundw
          case rel => exact ⟨k + 1, by omega, by omega, by go_num, _, O8.out⟩
          case measure => simp [intOf]; omega
    · have a1' : ¬ k < ll ∨ (k < ll ∧ ¬ k < 60) := by omega
      clear a1
      rcases a1' with a1 | ⟨a1, a2⟩
      all_goals (
        go_wp2
        go_ret
        exact ⟨rfl, O1.out.kpt.toBelow⟩)
end Go.Proofs.Ytkgmdalekakgpaa
