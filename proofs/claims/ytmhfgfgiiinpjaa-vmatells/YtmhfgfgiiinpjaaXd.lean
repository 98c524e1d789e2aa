/- The document's joined over regions; no condition but the ranges that each theorem names. -/
import Derived.Test.YtmhfgfgiiinpjaaXc
import Derived.Test.YtmhfgfgiiinpjaaWm
namespace Go.Proofs.Ytmhfgfgiiinpjaa.V
open Go.ChangeShapes Go.WideShapes Go.ChangeAt Go.RowKit
set_option linter.unusedVariables false
set_option maxRecDepth 8192

theorem jnd_succ {l : List Rg} {k : Nat} (hk : k < l.length) : jnd (l.take (k + 1)) = jn (jnd (l.take k)) l[k] := by
  unfold jnd
  rw [List.take_add_one, List.getElem?_eq_getElem hk, List.foldl_append]
  rfl
set_option maxHeartbeats 4000000 in
theorem joined_r {w : World} {ao : Option Addr} {cap : Nat} {l : List Rg} (h : Rn w ao l) (hs : Rs l) (hl : l.length ≤ 3000) :
    Calls Try.prog 53 #[.slice ao l.length cap] w (An w (ans (jnd l))) := by
  have HR : Hid (Rn w ao l) := h
  have HS : Hid (Rs l) := hs
  clear h hs
  go_enter Try.func53, Try.ntmps53
  go_wp2_with fail
  go_loopw [4, 5] (fun o i wr => ∃ (k : Nat) (v : Value), k ≤ l.length ∧ i = .int .i64 k ∧ v = o ∧ Hid (Rw wr w.heap.size v (jnd (l.take k))) ∧ Below w.heap.size w wr) (fun _ i _ => l.length - (iv i).toNat)
  case atStart => exact ⟨0, _, by omega, rfl, rfl, Rw.nil _ _, Below.refl _ _⟩
  case round =>
    obtain ⟨k, v, hk, rfl, rfl, HV, hb⟩ := hrel
    have HB : Hid (Below w.heap.size w wr) := hb
    by_cases hlt : k < l.length
    case neg =>
      obtain rfl : k = l.length := by omega
      have HV2 : Hid (Rw wr w.heap.size v (jnd l)) := by have := HV.out; rwa [List.take_length] at this
      obtain ⟨a5, c5, rfl, _⟩ := HV2.out.rn
      generalize jnd l = res at *
      by_cases hlen : 1024 < res.length
      · have hd : decide ((1024 : Int) < (res.length : Int)) = true := by simp; omega
        have HA : Hid (ans res = ([], 3)) := if_pos hlen
        go_wp2
        go_ret2
        show An w (ans res) _ _
        rw [HA.out]
        exact An.no 3 HB.out
      · have hd : decide ((1024 : Int) < (res.length : Int)) = false := by simp; omega
        have HA : Hid (ans res = (res, 0)) := if_neg hlen
        go_wp2
        go_ret2
        show An w (ans res) _ _
        rw [HA.out]
        exact ⟨_, rfl, HV2.out, HB.out⟩
    case pos =>
      obtain ⟨b, off, rfl, hbl, hc⟩ := HR.out.idx hlt
      obtain ⟨x0, x1, x2⟩ := hc wr hb
      have HOk : Hid (l[k].Ok) := HS.out.ok _ (List.getElem_mem hlt)
      have HJ : Hid (jnd (l.take (k + 1)) = jn (jnd (l.take k)) l[k]) := jnd_succ hlt
      have HRt : Rs (l.take k) := (Rs.append (k := l.drop k) (by rw [List.take_append_drop]; exact HS.out)).1
      have HFm : Hid (Fm (jnd (l.take k))) := (jnd_ok HRt).1
      have hle : (jnd (l.take k)).length ≤ 3000 := by
        have := fold_len (l.take k) []
        rw [List.length_take] at this
        unfold jnd
        simp at this
        omega
      have ix1 : (0 : Int) ≤ (k : Int) := Int.natCast_nonneg k
      have ix2 : (k : Int) < (l.length : Int) := Int.ofNat_lt.2 hlt
      clear hc HRt
      obtain ⟨r, hr⟩ : ∃ r, l[k] = r := ⟨_, rfl⟩
      rw [hr] at HOk HJ x0 x1 x2
      clear hr
      generalize hO : jnd (l.take k) = out at *
      clear hO
      have hpg := HOk.out.pg
      unfold pgs at hpg
      obtain ⟨p, n, m⟩ := r
      simp only at x0 x1 x2 hpg
      obtain ⟨g1, g2, g3, g4⟩ := hpg
      have HAP : Hid (∀ W ty, Below wr.heap.size wr W → ∃ v' w', (Builtin.append_ #[22, 22] ty #[v, .slice (some ⟨W.heap.size, 0, none⟩) 1 1]).run Try.prog (W.alloc (.cells #[.int .i64 p, .int .i64 n, .int .u8 m] 29)) = .ok v' w' ∧ Rw w' w.heap.size v' (out ++ [⟨p, n, m⟩]) ∧ Below w.heap.size w w') := fun W ty hW => by
        have hWb : Below w.heap.size w (W.alloc (.cells #[.int .i64 p, .int .i64 n, .int .u8 m] 29)) := (HB.out.trans (hW.mono HB.out.size)).alloc (Nat.le_trans HB.out.size hW.size) _
        obtain ⟨v', w', h1, h2⟩ := app_jn (cx := 1) ((HV.out.below hW).alloc _) (lit1 W p n m _ rfl) hWb.size (by simp; omega) ty
        exact ⟨v', w', h1, h2.1, h2.below hWb (fun g hg => (row_lt HV.out g hg).1)⟩
      rcases snoc_cases out with e | ⟨o0, a, e⟩
      · subst e
        obtain ⟨av, cv, rfl, _⟩ := HV.out.rn
        have HJ2 : Hid (jnd (l.take (k + 1)) = [⟨p, n, m⟩]) := by rw [HJ.out]; exact jn_nil _
        clear HFm HV
        go_wp2_with fail
        go_quiet (fail)
        go_wp2_with (at_builtin; refine wpList_app rfl (.tmp 66) (.tmp 71) rfl _ _ rfl rfl (HAP.out _ _ (bdn (Below.refl _ _) _)) ?_; rintro v2 w2 ⟨hJ1, hJ2⟩; have HJ1 : Hid (Rw w2 w.heap.size v2 ([] ++ [⟨p, n, m⟩])) := hJ1; have HJB : Hid (Below w.heap.size w w2) := hJ2; clear hJ1 hJ2)
        go_roundw
        case rel => exact ⟨k + 1, v2, by omega, by go_num, rfl, by rw [HJ2.out]; exact HJ1.out, HJB.out⟩
        case measure => simp [iv]; omega
      · subst e
        have hln : (o0 ++ [a]).length = o0.length + 1 := by simp
        rcases HV.out.form with ⟨_, e⟩ | ⟨g, cv, rfl, hg1, hg2, hlen, hcells, hfr⟩
        · simp at e
        obtain ⟨av, cp, ev, hrn, _⟩ := HV.out.rn
        rw [hln] at ev hlen
        cases ev
        obtain ⟨z, hz⟩ : ∃ z, o0.length = z := ⟨_, rfl⟩
        obtain ⟨zz, hzz⟩ : ∃ zz, z + 1 = zz := ⟨_, rfl⟩
        have hq := hrn.at' (i := z) (by rw [hln]; omega)
        obtain ⟨b', off', e, hbl', q0, q1, q2⟩ := hq
        cases e
        have hla : (o0 ++ [a])[z]'(by rw [hln]; omega) = a := by simp [← hz]
        rw [hla] at q0 q1 q2
        rw [Nat.zero_add] at q0 q1 q2
        have hao : a.Ok := HFm.out.rs.ok a (by simp)
        have hpa := hao.pg
        unfold pgs at hpa
        obtain ⟨k1, k2, k3, k4⟩ := hpa
        have HJn : Hid (jnd (l.take (k + 1)) = if a.e = p ∧ a.m = m then o0 ++ [⟨a.p, a.n + n, a.m⟩] else o0 ++ [a, ⟨p, n, m⟩]) := by rw [HJ.out]; exact jn_snoc _ _ _
        have HSt : Hid (∀ W (x : Int), Below wr.heap.size wr W → Rw (W.setCell ⟨g, z * 3 + 1, none⟩ (.int .i64 x)) w.heap.size (.slice (some ⟨g, 0, none⟩) zz cv) (o0 ++ [⟨a.p, x, a.m⟩]) ∧ Below w.heap.size w (W.setCell ⟨g, z * 3 + 1, none⟩ (.int .i64 x))) := fun W x hW => by
          have h1 := HV.out.below hW
          rw [hln, hz] at h1
          subst hzz
          refine ⟨(Rw.setN h1 hz x).1, (HB.out.trans (hW.mono HB.out.size)).setCell hg1 _⟩
        rw [hln, hz, hzz] at HAP HV
        rw [hln, hz, hzz]
        rw [hz, hzz] at hlen
        have ii1 : ((zz : Int) - 1) = (z : Int) := by omega
        have ii2 : (0 : Int) ≤ (z : Int) := Int.natCast_nonneg z
        have ii3 : (z : Int) < (zz : Int) := by omega
        have ii4 : (0 : Int) < (zz : Int) := by omega
        have ii5 : decide ((0 : Int) < (zz : Int)) = true := decide_eq_true ii4
        have ii6 : (0 : Nat) < zz := by omega
        have hfz : wr.frozen? ⟨g, z * 3 + 1, none⟩ = false := hfr _
        have hee : a.e = a.p + a.n := rfl
        rw [hee] at HJn
        obtain ⟨ap, an, am⟩ := a
        simp only at q0 q1 q2 k1 k2 k3 k4 HJn
        clear HJ hcells hrn hla hao hee
        by_cases c1 : ap + an = p
        case neg =>
          have d1 : (ap + an == p) = false := by simpa using c1
          have HJ2 : Hid (jnd (l.take (k + 1)) = o0 ++ ([⟨ap, an, am⟩] ++ [⟨p, n, m⟩])) := HJn.out.trans (if_neg (fun q => c1 q.1))
          clear HJn HSt
          go_wp2_with fail
          go_quiet (fail)
          go_wp2_with (at_builtin; refine wpList_app rfl (.tmp 66) (.tmp 71) rfl _ _ rfl rfl (HAP.out _ _ (bdn (Below.refl _ _) _)) ?_; rintro v2 w2 ⟨hJ1, hJ2⟩; have HJ1 : Hid (Rw w2 w.heap.size v2 ((o0 ++ [⟨ap, an, am⟩]) ++ [⟨p, n, m⟩])) := hJ1; have HJB : Hid (Below w.heap.size w w2) := hJ2; clear hJ1 hJ2)
          go_roundw
          case rel => exact ⟨k + 1, v2, by omega, by go_num, rfl, by rw [HJ2.out]; have := HJ1.out; rwa [List.append_assoc] at this, HJB.out⟩
          case measure => simp [iv]; omega
        case pos =>
          have d1 : (ap + an == p) = true := by simpa using c1
          by_cases c2 : am = m
          case neg =>
            have d2 : (am == m) = false := by simpa using c2
            have HJ2 : Hid (jnd (l.take (k + 1)) = o0 ++ ([⟨ap, an, am⟩] ++ [⟨p, n, m⟩])) := HJn.out.trans (if_neg (fun q => c2 q.2))
            clear HJn HSt
            go_wp2_with fail
            go_quiet (fail)
            go_wp2_with (at_builtin; refine wpList_app rfl (.tmp 66) (.tmp 71) rfl _ _ rfl rfl (HAP.out _ _ (bdn (Below.refl _ _) _)) ?_; rintro v2 w2 ⟨hJ1, hJ2⟩; have HJ1 : Hid (Rw w2 w.heap.size v2 ((o0 ++ [⟨ap, an, am⟩]) ++ [⟨p, n, m⟩])) := hJ1; have HJB : Hid (Below w.heap.size w w2) := hJ2; clear hJ1 hJ2)
            go_roundw
            case rel => exact ⟨k + 1, v2, by omega, by go_num, rfl, by rw [HJ2.out]; have := HJ1.out; rwa [List.append_assoc] at this, HJB.out⟩
            case measure => simp [iv]; omega
          case pos =>
            have d2 : (am == m) = true := by simpa using c2
            have HJ2 : Hid (jnd (l.take (k + 1)) = o0 ++ [⟨ap, an + n, am⟩]) := HJn.out.trans (if_pos ⟨c1, c2⟩)
            have HF2 : Hid (∀ q, (wr.drewN q).cell? ⟨g, z * 3 + 1, none⟩ = some (.int .i64 an) ∧ (wr.drewN q).cell? ⟨b, off + k * 3 + 1, none⟩ = some (.int .i64 n) ∧ (wr.drewN q).frozen? ⟨g, z * 3 + 1, none⟩ = false) := fun q => ⟨q1, x1, hfz⟩
            clear HJn HAP
            go_wp2_with fail
            go_quiet (fail)
            go_wp2_with fail
            have hW3 : Below wr.heap.size wr (wr.drewN nq) := bdn (Below.refl _ _) _
            obtain ⟨y1, y2, y3⟩ := HF2.out nq
            have HST2 : Hid (Rw ((wr.drewN nq).setCell ⟨g, z * 3 + 1, none⟩ (.int .i64 (an + n))) w.heap.size (.slice (some ⟨g, 0, none⟩) zz cv) (o0 ++ [⟨ap, an + n, am⟩]) ∧ Below w.heap.size w ((wr.drewN nq).setCell ⟨g, z * 3 + 1, none⟩ (.int .i64 (an + n)))) := HSt.out _ (an + n) hW3
            clear HF2 hW3 HSt q0 q1 q2 x0 x1 x2 hfz
            generalize wr.drewN nq = W3 at *
            go_region
            go_wp2
            go_roundw
            case rel => exact ⟨k + 1, _, by omega, by go_num, rfl, by rw [HJ2.out]; exact HST2.out.1, HST2.out.2.drew⟩
            case measure => simp [iv]; omega
end Go.Proofs.Ytmhfgfgiiinpjaa.V
