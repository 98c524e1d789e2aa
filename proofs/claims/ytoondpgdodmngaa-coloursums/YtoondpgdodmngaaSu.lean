/- ColourSums walked: the Counts of all colours are together all frames; those of some colours are as many as these, each of one of them; with all colours they are all. -/
import Derived.Test.YtoondpgdodmngaaLw
namespace Go.Proofs.Ytoondpgdodmngaa
open Go.ChangeShapes Go.WideShapes Go.ChangeAt Go.RowKit
set_option linter.unusedVariables false

theorem fr_mem {F : Nat} {n : Int} {l : Nat} {f : Nat → Int} {x : Int} (h : x ∈ fr F n l f) : 0 ≤ x ∧ x < F ∧ has l f (x % n) = true := by
  unfold fr at h
  rw [List.mem_map] at h
  obtain ⟨k, hk, rfl⟩ := h
  rw [List.mem_filter] at hk
  have := List.mem_range.1 hk.1
  exact ⟨by omega, by omega, hk.2⟩
theorem fr_sorted (F : Nat) (n : Int) (l : Nat) (f : Nat → Int) : (fr F n l f).Pairwise (· < ·) := by
  unfold fr
  rw [List.pairwise_map]
  refine List.Pairwise.imp (fun {a b} h => ?_) (List.Pairwise.filter _ List.pairwise_lt_range)
  exact Int.ofNat_lt.2 h
theorem nth_mem {L : List Int} {i : Nat} (hi : i < L.length) : nth L i ∈ L := by
  unfold nth
  rw [List.getD_eq_getElem?_getD, List.getElem?_eq_getElem hi]
  exact List.getElem_mem _
theorem nth_lt {L : List Int} (h : L.Pairwise (· < ·)) {i j : Nat} (hij : i < j) (hj : j < L.length) : nth L i < nth L j := by
  unfold nth
  rw [List.getD_eq_getElem?_getD, List.getD_eq_getElem?_getD, List.getElem?_eq_getElem hj, List.getElem?_eq_getElem (show i < L.length by omega)]
  exact List.pairwise_iff_getElem.1 h i j (by omega) hj hij
/-- The first k colours. -/
def ids (k : Nat) : List Int := (List.range k).map fun (j : Nat) => (j : Int)
theorem ids_len (k : Nat) : (ids k).length = k := by simp [ids]
theorem ids_succ (k : Nat) : ids (k + 1) = ids k ++ [(k : Int)] := by simp [ids, List.range_succ]
theorem ids_nth (k j : Nat) (h : j < k) : nth (ids k) j = idc j := by simp [nth, ids, idc, h, List.getD_eq_getElem?_getD]
set_option maxRecDepth 20000 in
theorem sums_out (w : World) (F n : Int) (a : Option Addr) (l c : Nat) (h : ¬ ((1 ≤ F ∧ F ≤ 4096) ∧ (1 ≤ n ∧ n ≤ 16))) :
    Calls Try.prog 7 #[.int .i64 F, .int .i64 n, .slice a l c] w fun e w' => e = .returned (.bool true) ∧ Below w.heap.size w w' := by
  have C : Hid (∀ w : World, Calls Try.prog 16 #[.int .i64 F, .int .i64 n, .slice none 0 0] w fun e w' => e = .returned (.tuple #[.slice none 0 0, .int .i64 2]) ∧ Below w.heap.size w w') := fun w => by
    by_cases hF : 1 ≤ F ∧ F ≤ 4096
    · exact Frames_no (f := fun _ => 0) (by unfold maxLen; omega) (Or.inl rfl) hF (fun q => h ⟨hF, q.1⟩)
    · exact Frames_out hF
  by_cases h1 : F < 1
  case' neg => by_cases h2 : 4096 < F
  case' neg => by_cases h3 : n < 1
  case' neg => obtain h4 : 16 < n := by omega
  all_goals
    clear h
    go_enter Try.func7, Try.ntmps7
    go_wp2_with fail
    refine (works_any _).mono ?_
    rintro e w1 ⟨rfl, hb⟩
    have HB : Hid (Below w.heap.size w w1) := hb
    clear hb
    go_wp2_with fail
    refine (C.out _).mono ?_
    rintro e w2 ⟨rfl, hb⟩
    have HB2 : Hid (Below w.heap.size w w2) := HB.out.trans (hb.mono HB.out.size)
    clear hb C
    go_wp2
    go_ret
    exact ⟨rfl, HB2.out⟩
set_option maxRecDepth 20000 in
set_option maxHeartbeats 2000000 in
theorem sums_in (w : World) (F n : Nat) (a : Option Addr) (l c : Nat) (f : Nat → Int) (hl : l ≤ maxLen) (hA : Arg w a l f) (F0 : 1 ≤ F) (F1 : F ≤ 4096) (n0 : 1 ≤ n) (n1 : n ≤ 16) :
    Calls Try.prog 7 #[.int .i64 F, .int .i64 n, .slice a l c] w fun e w' => e = .returned (.bool true) ∧ Below w.heap.size w w' := by
  have HA : Hid (Arg w a l f) := hA
  have HL0 : Hid (l ≤ maxLen) := hl
  unfold maxLen at hl
  obtain ⟨i0, hi, hz0, hz1, hz2⟩ := info_parts Try.infoI
  clear hA
  have CC : Hid (∀ (c : Int) (w : World), 0 ≤ c → c < n → Calls Try.prog 19 #[.int .i64 F, .int .i64 n, .int .i64 c] w (Two (ct F n c) 0 w)) := fun c w h0 h1 => Count_ok F n c (by omega) (by omega) (by omega) (by omega) h0 h1 w
  go_enter Try.func7, Try.ntmps7
  go_wp2_with fail
  refine (works_any _).mono ?_
  rintro e w1 ⟨rfl, hb⟩
  have HB : Hid (Below w.heap.size w w1) := hb
  clear hb
  go_wp2_with fail
  go_loopw [9, 10, 11] (fun s v i wr => ∃ (k : Nat) (vv : Value), vv = v ∧ k ≤ n ∧ i = .int .i64 k ∧ s = .int .i64 (sm F n idc k) ∧ Is wr w1.heap.size v (ids k) ∧ Below w1.heap.size w1 wr) (fun _ _ i _ => n - (intOf i).toNat)
  case atStart => exact ⟨0, _, rfl, by omega, rfl, rfl, Is.nil _ _, Below.refl _ _⟩
  case round =>
    obtain ⟨k, v, hvv, hk, rfl, rfl, hI, hb⟩ := hrel
    subst hvv
    have HL : Hid (Below w1.heap.size w1 wr) := hb
    have HI : Hid (Is wr w1.heap.size v (ids k)) := hI
    clear hb hI
    by_cases hlt : k < n
    · have C1 : Hid (∀ w, Calls Try.prog 19 #[.int .i64 F, .int .i64 n, .int .i64 k] w (Two (ct F n k) 0 w)) := fun w => CC.out k w (by omega) (by omega)
      have s1 := sm_le (F := F) (n := n) (by omega) (by omega) (by omega) (by omega) idc k (okP_less (okP_id n) (by omega))
      have s2 := ct_le (F := F) (n := n) (c := k) (by omega) (by omega) (by omega) (by omega) (by omega)
      have HS : Hid (sm F n idc (k + 1) = sm F n idc k + ct F n k) := rfl
      have O : Hid (wr.ownsRow w1.heap.size 3 1 v k (enI (ids k))) := by have := HI.out; unfold Is at this; rw [ids_len] at this; exact this
      have hsz := HL.out.size
      generalize sm F n idc k = S at *
      generalize ct F n k = q at *
      go_wp2_with fail
      refine (C1.out _).mono ?_
      rintro e w2 ⟨rfl, h1⟩
      obtain rfl := h1.symm
      clear C1
      go_wp2_with (at_builtin; refine wpList_append_own _ rfl (.tmp 67) (.tmp 69) 28 rfl w1.heap.size 3 i0 _ 1 8 Try.underlying28 hi hz0 hz1 hz2 rfl (by decide) _ k _ rfl (O.out.alloc _) ⟨wr.heap.size, 0, none⟩ 1 1 [.int .i64 k] rfl rfl (cell_one_new _ _ _) (by intro u hu; simp at hu; subst hu; rfl) (by unfold maxLen; omega) (by omega) (by simp; omega) ?_; intro v2 w2 o2 gr2 nil2)
      go_roundw
      case rel =>
        refine ⟨k + 1, _, rfl, by omega, by go_num, by rw [HS.out], ?_, (HL.out.alloc hsz _).grown gr2 (by simp; omega) (fun t ht => (HI.out.lt t ht).1)⟩
        unfold Is
        rw [ids_succ, enI_snoc, List.length_append, ids_len]
        exact o2
      case measure => simp [intOf]; omega
    · obtain rfl : k = n := by omega
      have hsm := sm_id k F n0 n1
      rw [hsm]
      have HAI := HI.out.arg
      obtain ⟨aa, ca, e1, hAA⟩ := HAI
      rw [ids_len] at e1 hAA
      subst e1
      have A1 : Hid (Arg wr aa k idc) := hAA.congr (fun i hi => ids_nth k i hi)
      have F1' : Hid (Calls _ _ _ _ _) := Frames_ok (c := ca) (F := F) (n := k) (by unfold maxLen; omega) A1.out ⟨F0, F1⟩ ⟨by omega, okP_id k⟩
      have hfl := fr_id k (by omega) F
      clear hAA hsm
      go_wp2_with fail
      refine F1'.out.mono ?_
      rintro e w2 ⟨v2, rfl, o2, k2⟩
      obtain ⟨a2, c2, e2, _⟩ := o2.form
      rw [hfl] at e2
      subst e2
      have B2 : Hid (Below w.heap.size w w2) := (HB.out.trans (HL.out.mono HB.out.size)).trans (k2.mono (Nat.le_trans HB.out.size HL.out.size))
      have HA2 : Hid (Arg w2 a l f) := HA.out.below B2.out
      have hff : ((F : Int) != (F : Int)) = false := by simp
      clear o2 k2 F1' A1 HI HL HB hfl
      by_cases hok : okL k l f
      · have F2' : Hid (Calls _ _ _ _ _) := Frames_ok (c := c) (F := F) (n := k) HL0.out HA2.out ⟨F0, F1⟩ hok
        have HO : Hid (okP k l f) := hok.2
        have hlk : (l : Int) ≤ k := okP_len hok.2 (by omega)
        have HCT : Hid (((fr F k l f).length : Int) = sm F k f l) := fr_count (by omega) (by omega) hok.2 F
        have hflen := fr_len F k l f
        have HMem : Hid (∀ i, i < (fr F k l f).length → 0 ≤ nth (fr F k l f) i ∧ nth (fr F k l f) i < F ∧ has l f (nth (fr F k l f) i % k) = true) := fun i hi => fr_mem (nth_mem hi)
        have HSrt : Hid (∀ i j, i < j → j < (fr F k l f).length → nth (fr F k l f) i < nth (fr F k l f) j) := fun i j h1 h2 => nth_lt (fr_sorted F k l f) h1 h2
        clear hok
        go_wp2_with fail
        refine F2'.out.mono ?_
        rintro e w3 ⟨v3, rfl, o3, k3⟩
        obtain ⟨a3, c3, e3, hA3⟩ := o3.arg
        subst e3
        have B3 : Hid (Below w.heap.size w w3) := B2.out.trans (k3.mono B2.out.size)
        have A3 : Hid (Arg w3 a3 (fr F k l f).length (nth (fr F k l f))) := hA3
        have HA3 : Hid (Arg w3 a l f) := HA2.out.below k3
        clear k3 F2' o3 hA3 B2 HA2
        generalize fr F k l f = L at *
        obtain ⟨N, hN⟩ : ∃ N, L.length = N := ⟨_, rfl⟩
        rw [hN] at HCT hflen HMem HSrt A3 ⊢
        clear hN
        go_wp2
        go_loop [17, 18] (fun s i => ∃ t : Nat, t ≤ l ∧ i = .int .i64 t ∧ s = .int .i64 (sm F k f t)) (fun _ i => l - (intOf i).toNat)
        case atStart => exact ⟨0, by omega, rfl, rfl⟩
        case round =>
          obtain ⟨t, ht, rfl, rfl⟩ := hrel
          by_cases hlt2 : t < l
          · obtain ⟨b, off, rfl, hc⟩ := HA3.out.at' (Below.refl _ _) hlt2
            obtain ⟨x0, x1⟩ := HO.out.1 t hlt2
            have C1 : Hid (∀ w, Calls Try.prog 19 #[.int .i64 F, .int .i64 k, .int .i64 (f t)] w (Two (ct F k (f t)) 0 w)) := fun w => CC.out (f t) w x0 x1
            have s1 := sm_le (F := F) (n := k) (by omega) (by omega) (by omega) (by omega) f t (okP_less HO.out (by omega))
            have s2 := ct_le (F := F) (n := k) (c := f t) (by omega) (by omega) x0 x1 (by omega)
            have HS : Hid (sm F k f (t + 1) = sm F k f t + ct F k (f t)) := rfl
            generalize sm F k f t = S at *
            generalize ct F k (f t) = q at *
            generalize f t = x at *
            go_wp2_with fail
            refine (C1.out _).mono ?_
            rintro e w4 ⟨rfl, h1⟩
            obtain rfl := h1.symm
            clear C1
            go_wp2
            go_round
            case rel => exact ⟨t + 1, by omega, by go_num, by rw [HS.out]⟩
            case measure => simp [intOf]; omega
          · obtain rfl : t = l := by omega
            have hct := HCT.out
            generalize sm F k f t = S at *
            subst hct
            go_wp2
            go_loopw [21] (fun i wr => ∃ j : Nat, j ≤ N ∧ i = .int .i64 j ∧ Below w3.heap.size w3 wr) (fun i _ => N - (intOf i).toNat)
            case atStart => exact ⟨0, by omega, rfl, Below.refl _ _⟩
            case round =>
              obtain ⟨j, hj, rfl, hb⟩ := hrel
              have HM : Hid (Below w3.heap.size w3 wr) := hb
              clear hb
              by_cases hlt3 : j < N
              · obtain ⟨p0, p1, p2⟩ := HMem.out j hlt3
                obtain ⟨b, off, rfl, hc⟩ := A3.out.at' HM.out hlt3
                have C1 : Hid (∀ w, Calls Try.prog 9 #[.int .i64 (nth L j), .int .i64 k] w (Two (nth L j % k) 0 w)) := fun w => Of_ok _ _ p0 (by omega) (by omega) (by omega) w
                have HP2 : Hid (has t f (nth L j % k) = true) := p2
                have HJ : Hid (∀ i, j = i + 1 → nth L i < nth L j) := fun i e => HSrt.out i j (by omega) hlt3
                generalize nth L j % k = r at *
                generalize nth L j = x at *
                clear p2
                go_wp2_with fail
                refine (C1.out _).mono ?_
                rintro e w4 ⟨rfl, h1⟩
                obtain rfl := h1.symm
                clear C1
                go_wp2
                generalize hR : wr = R at *
                clear hR
                go_loop [24, 25] (fun s i => ∃ q : Nat, q ≤ t ∧ i = .int .i64 q ∧ s = .bool (has q f r)) (fun _ i => t - (intOf i).toNat)
                case atStart => exact ⟨0, by omega, rfl, by rw [has_zero]⟩
                case round =>
                  obtain ⟨q, hq, rfl, rfl⟩ := hrel
                  by_cases hlt4 : q < t
                  · obtain ⟨b', off', rfl, hc'⟩ := HA3.out.at' HM.out hlt4
                    cases hh : has q f r
                    · obtain ⟨bq, hbq⟩ : ∃ bq, (f q == r) = bq := ⟨_, rfl⟩
                      have HN : Hid (has (q + 1) f r = bq) := by unfold Hid; rw [has_succ, hh, hbq]; rfl
                      generalize f q = y at *
                      go_wp2
                      go_round
                      case rel => exact ⟨q + 1, by omega, by go_num, by rw [HN.out]⟩
                      case measure => simp [intOf]; omega
                    · have HN : Hid (has (q + 1) f r = true) := by unfold Hid; rw [has_succ, hh]; rfl
                      go_wp2
                      go_round
                      case rel => exact ⟨q + 1, by omega, by go_num, by rw [HN.out]⟩
                      case measure => simp [intOf]; omega
                  · obtain rfl : q = t := by omega
                    rw [HP2.out]
                    by_cases hj0 : j = 0
                    · subst hj0
                      replace hc : R.cell? ⟨b, off, none⟩ = some (.int .i64 x) := hc
                      have g0 : decide ((0 : Int) < ((0 : Nat) : Int)) = false := by decide
                      have g1 : decide ((F : Int) ≤ x) = false := by simp; omega
                      go_wp2_with fail
                      go_quiet (fail)
                      go_wp2
                      go_roundw
                      case rel => exact ⟨1, by omega, by go_num, below_drewN HM.out _⟩
                      case measure => simp [intOf]; omega
                    · obtain ⟨i, hi'⟩ : ∃ i, j = i + 1 := ⟨j - 1, by omega⟩
                      obtain ⟨b', off', e', hd⟩ := A3.out.at' HM.out (show i < N by omega)
                      cases e'
                      have hxy := HJ.out i hi'
                      generalize nth L i = y at *
                      have g0 : (0 : Int) < (j : Int) := by omega
                      have g4 : 0 < j := by omega
                      have g1 : (j : Int) - 1 = (i : Int) := by omega
                      have g2 : (i : Int) < (N : Int) := by omega
                      have g3 : (j : Int) < (N : Int) := by omega
                      have g5 : decide ((F : Int) ≤ x) = false := by simp; omega
                      have g6 : decide (x ≤ y) = false := by simp; omega
                      clear hi'
                      go_wp2_with fail
                      go_quiet (fail)
                      go_wp2
                      go_roundw
                      case rel => exact ⟨j + 1, by omega, by go_num, below_drewN HM.out _⟩
                      case measure => simp [intOf]; omega
              · obtain rfl : j = N := by omega
                have HF : Hid (Below w.heap.size w wr) := B3.out.trans (HM.out.mono B3.out.size)
                have hNN : ((j : Int) == (j : Int)) = true := by simp
                go_wp2
                go_ret
                exact ⟨rfl, HF.out⟩
      · have F2' : Hid (Calls _ _ _ _ _) := Frames_no (c := c) (F := F) (n := k) HL0.out HA2.out ⟨by omega, by omega⟩ hok
        clear hok
        go_wp2_with fail
        refine F2'.out.mono ?_
        rintro e w3 ⟨rfl, k3⟩
        have B3 : Hid (Below w.heap.size w w3) := B2.out.trans (k3.mono B2.out.size)
        clear k3 F2'
        go_wp2
        go_ret
        exact ⟨rfl, B3.out⟩
theorem sums_any (w : World) (F n : Int) (a : Option Addr) (l c : Nat) (f : Nat → Int) (hl : l ≤ maxLen) (hA : Arg w a l f) :
    Calls Try.prog 7 #[.int .i64 F, .int .i64 n, .slice a l c] w fun e w' => e = .returned (.bool true) ∧ Below w.heap.size w w' := by
  by_cases h : (1 ≤ F ∧ F ≤ 4096) ∧ (1 ≤ n ∧ n ≤ 16)
  · obtain ⟨F', rfl⟩ := Int.eq_ofNat_of_zero_le (show 0 ≤ F by omega)
    obtain ⟨n', rfl⟩ := Int.eq_ofNat_of_zero_le (show 0 ≤ n by omega)
    exact sums_in w F' n' a l c f hl hA (by omega) (by omega) (by omega) (by omega)
  · exact sums_out w F n a l c h
end Go.Proofs.Ytoondpgdodmngaa
