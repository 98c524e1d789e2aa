/- The sort by insertion that may give up, over unsigned words: the walk leaves what the plain function makes of the row; no condition but those that each theorem names. -/
import Derived.Test.YtkbpnkjjmipjfaaGreatVUw
import Derived.Deep.CutRange
import Derived.Deep.DeepCutAuto
namespace Go.Proofs.YtkbpnkjjmipjfaaGreat.U
open Go.ChangeShapes Go.WideShapes Go.ChangeAt Go.RowKit
open Go.Sort (swp ltInt PermIn SortedIn)
set_option linter.unusedVariables false
set_option maxRecDepth 8192

theorem ss_stop {x : Array Int} {b i : Nat} (h : b ≤ i ∨ ltInt x[i]! x[i - 1]! = true) : Go.Sort.scanSorted ltInt x b i = i := by
  rw [Go.Sort.scanSorted, if_neg]
  rcases h with h | h
  · simp; omega
  · simp [h]
theorem ss_go {x : Array Int} {b i : Nat} (h : i < b) (hl : ltInt x[i]! x[i - 1]! = false) : Go.Sort.scanSorted ltInt x b i = Go.Sort.scanSorted ltInt x b (i + 1) := by
  rw [Go.Sort.scanSorted, if_pos]
  simp [h, hl]
theorem sd_stop {x : Array Int} {j : Nat} (h : j = 0 ∨ ltInt x[j]! x[j - 1]! = false) : Go.Sort.shiftDown ltInt j x = x := by
  cases j with
  | zero => rfl
  | succ k =>
    rcases h with h | h
    · omega
    · simp only [Nat.add_sub_cancel] at h
      rw [Go.Sort.shiftDown, h]
      rfl
theorem sd_go {x : Array Int} {j : Nat} (h : 0 < j) (hl : ltInt x[j]! x[j - 1]! = true) : Go.Sort.shiftDown ltInt j x = Go.Sort.shiftDown ltInt (j - 1) (swp x j (j - 1)) := by
  cases j with
  | zero => omega
  | succ k =>
    simp only [Nat.add_sub_cancel] at hl ⊢
    rw [Go.Sort.shiftDown, hl]
    rfl
theorem su_stop {x : Array Int} {b j : Nat} (h : b ≤ j ∨ ltInt x[j]! x[j - 1]! = false) : Go.Sort.shiftUp ltInt b j x = x := by
  rw [Go.Sort.shiftUp]
  by_cases hb : j < b
  · rcases h with h | h
    · omega
    · rw [if_pos hb, h]
      rfl
  · rw [if_neg hb]
theorem su_go {x : Array Int} {b j : Nat} (h : j < b) (hl : ltInt x[j]! x[j - 1]! = true) : Go.Sort.shiftUp ltInt b j x = Go.Sort.shiftUp ltInt b (j + 1) (swp x j (j - 1)) := by
  rw [Go.Sort.shiftUp, if_pos h, hl]
  rfl
theorem sd_size : ∀ (j : Nat) (x : Array Int), (Go.Sort.shiftDown ltInt j x).size = x.size
  | 0, x => rfl
  | j + 1, x => by
    rw [Go.Sort.shiftDown]
    split
    · rfl
    · rw [sd_size j, Go.Sort.size_swp]
theorem su_size (b : Nat) : ∀ (n j : Nat) (x : Array Int), b - j ≤ n → (Go.Sort.shiftUp ltInt b j x).size = x.size
  | 0, j, x, h => by rw [Go.Sort.shiftUp, if_neg (by omega)]
  | n + 1, j, x, h => by
    rw [Go.Sort.shiftUp]
    split
    · split
      · rfl
      · rw [su_size b n (j + 1) _ (by omega), Go.Sort.size_swp]
    · rfl
theorem pi_eq {a b s i i2 : Nat} {x : Array Int} (h : Go.Sort.scanSorted ltInt x b i = i2) : Go.Sort.partialIns ltInt a b (s + 1) i x =
    if i2 = b then (x, true) else if b - a < 50 then (x, false) else
      Go.Sort.partialIns ltInt a b s i2 (if i2 + 2 ≤ b then Go.Sort.shiftUp ltInt b (i2 + 1) (if a + 2 ≤ i2 then Go.Sort.shiftDown ltInt (i2 - 1) (swp x i2 (i2 - 1)) else swp x i2 (i2 - 1)) else (if a + 2 ≤ i2 then Go.Sort.shiftDown ltInt (i2 - 1) (swp x i2 (i2 - 1)) else swp x i2 (i2 - 1))) := by
  rw [Go.Sort.partialIns]
  simp only [h]
  have e1 : (i2 - a ≥ 2) = (a + 2 ≤ i2) := by rw [eq_iff_iff]; omega
  have e2 : (b - i2 ≥ 2) = (i2 + 2 ≤ b) := by rw [eq_iff_iff]; omega
  simp only [e1, e2]
set_option maxHeartbeats 4000000 in
theorem partial_any {w0 w : World} {g off m cap a b : Nat} {d : Array Int} (hO : Ou w0 w g off m d) (hab : a < b) (hb : b ≤ d.size) (hsz : d.size < 1000000) :
    Calls Tryz.prog 203 #[.slice (some ⟨g, off, none⟩) d.size cap, .int .i64 a, .int .i64 b] w fun e w' => e = .returned (.bool (Go.Sort.partialInsertionSort ltInt d a b).2) ∧ Ou w0 w' g off m (Go.Sort.partialInsertionSort ltInt d a b).1 := by
  unfold Go.Sort.partialInsertionSort
  obtain ⟨n, hn⟩ : ∃ n, d.size = n := ⟨_, rfl⟩
  rw [hn] at hb hsz ⊢
  obtain ⟨R, hR⟩ : ∃ R, Go.Sort.partialIns ltInt a b 5 (a + 1) d = R := ⟨_, rfl⟩
  rw [hR]
  have HR : Hid (Go.Sort.partialIns ltInt a b 5 (a + 1) d = R) := hR
  have HO : Hid (Ou w0 w g off m d) := hO
  have HN : Hid (d.size = n) := hn
  clear hO hn hR
  go_enter Tryz.func203, Tryz.ntmps203
  go_wp2
  go_loopw [8, 7] (fun z y wr => ∃ (j i : Nat) (x : Array Int), z = .int .i64 j ∧ y = .int .i64 i ∧ j ≤ 5 ∧ a < i ∧ i ≤ b ∧ x.size = n ∧ Ou w0 wr g off m x ∧ Go.Sort.partialIns ltInt a b (5 - j) i x = R) (fun z _ _ => 5 - (iv z).toNat)
  case atStart => exact ⟨0, a + 1, d, rfl, by go_num, by omega, by omega, by omega, HN.out, HO.out, HR.out⟩
  case round =>
    clear HO HR
    obtain ⟨j, i, x, rfl, rfl, h0, h1, h2, h3, h4, h5⟩ := hrel
    have H3 : Hid (x.size = n) := h3
    have H4 : Hid (Ou w0 wr g off m x) := h4
    clear h3 h4
    by_cases hj5 : j < 5
    · obtain ⟨s, hs⟩ : ∃ s, 5 - j = s + 1 := ⟨4 - j, by omega⟩
      rw [hs] at h5
      have H5 : Hid (Go.Sort.partialIns ltInt a b (s + 1) i x = R) := h5
      have HS : Hid (5 - (j + 1) = s) := (by omega : 5 - (j + 1) = s)
      clear h5 hs
      obtain ⟨G, hG⟩ : ∃ G : Nat → Int, ∀ t, G t = x[t]! := ⟨fun t => x[t]!, fun _ => rfl⟩
      have HG : Hid (∀ t, G t = x[t]!) := hG
      clear hG
      refine wp_seq_k ?_
      intro K hk
      go_cut [8] from 13 to 132 (fun z wc => z = .int .i64 j ∧ Ou w0 wc g off m x)
      case first =>
        clear hk
        go_wp2
        go_meet
        case rel => exact ⟨rfl, H4.out⟩
      case rest =>
      clear H4
      obtain ⟨rfl, h4⟩ := hcut
      have H4 : Hid (Ou w0 wc g off m x) := h4
      clear h4
      refine hk _ _ (wp_seq_k ?_)
      clear hk K
      intro K4 hk4
      refine wp_block (wp_seq_k ?_)
      intro K hk
      go_cut [7] from 13 to 132 (fun z wc => ∃ i2 : Nat, z = .int .i64 i2 ∧ i ≤ i2 ∧ i2 ≤ b ∧ Go.Sort.scanSorted ltInt x b i = i2 ∧ Ou w0 wc g off m x)
      case first =>
        clear hk hk4
        go_wp2
        go_loopw [7] (fun z wr => ∃ i2 : Nat, z = .int .i64 i2 ∧ i ≤ i2 ∧ i2 ≤ b ∧ Ou w0 wr g off m x ∧ Go.Sort.scanSorted ltInt x b i2 = Go.Sort.scanSorted ltInt x b i) (fun z _ => b + 1 - (iv z).toNat)
        case atStart => exact ⟨i, rfl, by omega, by omega, H4.out, rfl⟩
        case round =>
          clear H4
          obtain ⟨i2, rfl, k1, k2, k4, k5⟩ := hrel
          have H4 : Hid (Ou w0 wr g off m x) := k4
          have K5 : Hid (Go.Sort.scanSorted ltInt x b i2 = Go.Sort.scanSorted ltInt x b i) := k5
          have hc : ∀ t, t < n → wr.cell? ⟨g, off + t, none⟩ = some (.int .u64 (G t)) := fun t ht => by rw [HG.out]; exact k4.cell (by rw [H3.out]; exact ht)
          clear k4 k5
          go_wp2
          by_cases hib : i2 < b
          · have hn2 : i2 < n := by omega
            go_quiet ((go_at_call 204; refine Calls.quiet_of_same (less_any _ _ _)))
            cases hl : ltInt (G i2) (G (i2 - 1))
            · go_wp2
              go_roundw
              case rel => exact ⟨i2 + 1, by go_num, by omega, by omega, H4.out.drewN _, by rw [← K5.out]; exact (ss_go hib (by rw [← HG.out, ← HG.out]; exact hl)).symm⟩
              case measure => simp [iv]; omega
            · go_wp2
              go_meet
              case rel => exact ⟨i2, rfl, by omega, by omega, (by rw [← K5.out]; exact ss_stop (Or.inr (by rw [← HG.out, ← HG.out]; exact hl))), H4.out.drewN _⟩
          · obtain rfl : i2 = b := by omega
            go_quiet (fail)
            go_wp2
            go_meet
            case rel => exact ⟨i2, rfl, by omega, by omega, (by rw [← K5.out]; exact ss_stop (Or.inl (Nat.le_refl _))), H4.out.drewN _⟩
      case rest =>
      clear H4
      obtain ⟨i2, rfl, hu1, hu2, hu3, hu5⟩ := hcut
      have U : Hid (Go.Sort.scanSorted ltInt x b i = i2) := hu3
      have H4 : Hid (Ou w0 wc g off m x) := hu5
      clear hu3 hu5
      refine hk _ _ (wp_seq_k ?_)
      clear hk K
      intro K hk
      go_cut [7] from 13 to 132 (fun z wc => z = .int .i64 i2 ∧ i2 < b ∧ Ou w0 wc g off m x)
      case first =>
        clear hk hk4
        by_cases hib : i2 = b
        · have E5 : Hid (R = (x, true)) := (by rw [← H5.out, pi_eq U.out, if_pos hib] : R = (x, true))
          subst hib
          go_wp2
          go_ret
          refine ⟨?_, ?_⟩
          · rw [E5.out]; rfl
          · rw [E5.out]; exact H4.out
        · have hibI : ((i2 : Int) == (b : Int)) = false := by simp; omega
          have hib2 : ¬ (i2 : Int) = (b : Int) := by omega
          go_wp2
          go_meet
          case rel => exact ⟨rfl, by omega, H4.out⟩
      case rest =>
      clear H4
      obtain ⟨rfl, hib, hu5⟩ := hcut
      have H4 : Hid (Ou w0 wc g off m x) := hu5
      clear hu5
      refine hk _ _ (wp_seq_k ?_)
      clear hk K
      intro K hk
      go_cut [7] from 13 to 132 (fun z wc => z = .int .i64 i2 ∧ ¬ b - a < 50 ∧ Ou w0 wc g off m x)
      case first =>
        clear hk hk4
        by_cases h50 : b - a < 50
        · have E5 : Hid (R = (x, false)) := (by rw [← H5.out, pi_eq U.out, if_neg (by omega), if_pos h50] : R = (x, false))
          have h50I : (b : Int) - (a : Int) < 50 := by omega
          go_wp2
          go_ret
          refine ⟨?_, ?_⟩
          · rw [E5.out]; rfl
          · rw [E5.out]; exact H4.out
        · have h50I : ¬ (b : Int) - (a : Int) < 50 := by omega
          go_wp2
          go_meet
          case rel => exact ⟨rfl, h50, H4.out⟩
      case rest =>
      clear H4
      obtain ⟨rfl, h50, hu5⟩ := hcut
      have H4 : Hid (Ou w0 wc g off m x) := hu5
      obtain ⟨X1, hX1⟩ : ∃ X1, swp x i2 (i2 - 1) = X1 := ⟨_, rfl⟩
      obtain ⟨X2, hX2⟩ : ∃ X2, (if a + 2 ≤ i2 then Go.Sort.shiftDown ltInt (i2 - 1) X1 else X1) = X2 := ⟨_, rfl⟩
      obtain ⟨X3, hX3⟩ : ∃ X3, (if i2 + 2 ≤ b then Go.Sort.shiftUp ltInt b (i2 + 1) X2 else X2) = X3 := ⟨_, rfl⟩
      have HX1 : Hid (swp x i2 (i2 - 1) = X1) := hX1
      have HX2 : Hid ((if a + 2 ≤ i2 then Go.Sort.shiftDown ltInt (i2 - 1) X1 else X1) = X2) := hX2
      have HX3 : Hid ((if i2 + 2 ≤ b then Go.Sort.shiftUp ltInt b (i2 + 1) X2 else X2) = X3) := hX3
      have H7 : Hid (Go.Sort.partialIns ltInt a b (5 - (j + 1)) i2 X3 = R) := (by rw [HS.out, ← H5.out, pi_eq U.out, if_neg (by omega), if_neg h50, hX1, hX2, hX3] : Go.Sort.partialIns ltInt a b (5 - (j + 1)) i2 X3 = R)
      have S1 : Hid (X1.size = n) := (by rw [← hX1, Go.Sort.size_swp]; exact H3.out : X1.size = n)
      have S2 : Hid (X2.size = n) := (by rw [← hX2]; split; rw [sd_size]; exact S1.out; exact S1.out : X2.size = n)
      have S3 : Hid (X3.size = n) := (by rw [← hX3]; split; rw [su_size b _ _ _ (Nat.le_refl _)]; exact S2.out; exact S2.out : X3.size = n)
      have hn2 : i2 < n := by omega
      have hi21 : 1 ≤ i2 := by omega
      have hi22 : 0 < i2 := by omega
      have hc : ∀ t, t < n → wc.cell? ⟨g, off + t, none⟩ = some (.int .u64 (G t)) := fun t ht => by rw [HG.out]; exact hu5.cell (by rw [H3.out]; exact ht)
      have hf : ∀ t, t < n → wc.frozen? ⟨g, off + t, none⟩ = false := fun t ht => hu5.fz _
      clear hu5 hX1 hX2 hX3 H5 U HS
      have XS : Hid (∀ q : Nat, Ou w0 (((wc.drewN q).setCell ⟨g, off + i2, none⟩ (.int .u64 (G (i2 - 1)))).setCell ⟨g, off + (i2 - 1), none⟩ (.int .u64 (G i2))) g off m X1) := fun q => by
        rw [← HX1.out]
        exact H4.out.swap (by rw [H3.out]; exact hn2) (by rw [H3.out]; omega) q (HG.out _) (HG.out _)
      refine hk _ _ ?_
      clear hk K H4 HG H3 HX1
      by_cases hbi : i2 + 2 ≤ b
      · have hbiI : (2 : Int) ≤ (b : Int) - (i2 : Int) := by omega
        by_cases hia : a + 2 ≤ i2
        · have hiaI : (2 : Int) ≤ (i2 : Int) - (a : Int) := by omega
          go_wp2
          go_big_region
          all_goals go_wp2
          go_loopw [9] (fun z wr => ∃ (j3 : Nat) (y : Array Int), z = .int .i64 j3 ∧ j3 < i2 ∧ y.size = n ∧ Ou w0 wr g off m y ∧ Go.Sort.shiftDown ltInt j3 y = X2) (fun z _ => (iv z).toNat)
          case atStart => exact ⟨i2 - 1, X1, by go_num, by omega, S1.out, XS.out _, by rw [← HX2.out, if_pos hia]⟩
          case round =>
            clear XS
            obtain ⟨j3, y, rfl, k1, k3, k4, k5⟩ := hrel
            have K3 : Hid (y.size = n) := k3
            have K4 : Hid (Ou w0 wr g off m y) := k4
            have K5 : Hid (Go.Sort.shiftDown ltInt j3 y = X2) := k5
            obtain ⟨Gy, hG⟩ : ∃ G : Nat → Int, ∀ t, G t = y[t]! := ⟨fun t => y[t]!, fun _ => rfl⟩
            have hc : ∀ t, t < n → wr.cell? ⟨g, off + t, none⟩ = some (.int .u64 (Gy t)) := fun t ht => by rw [hG]; exact k4.cell (by omega)
            have hf : ∀ t, t < n → wr.frozen? ⟨g, off + t, none⟩ = false := fun t ht => k4.fz _
            have HG : Hid (∀ t, Gy t = y[t]!) := hG
            clear k3 k4 k5 hG
            by_cases hj0 : 1 ≤ j3
            · have hj3n : j3 < n := by omega
              have hj0I : (1 : Int) ≤ (j3 : Int) := by omega
              go_wp2
              go_quiet ((go_at_call 204; refine Calls.quiet_of_same (less_any _ _ _)))
              cases hl : ltInt (Gy j3) (Gy (j3 - 1))
              · have E : Hid (y = X2) := (by rw [← K5.out]; exact (sd_stop (Or.inr (by rw [← HG.out, ← HG.out]; exact hl))).symm : y = X2)
                have HU : Hid (Ou w0 (wr.drewN nq) g off m X2) := (by rw [← E.out]; exact K4.out.drewN _ : Ou w0 (wr.drewN nq) g off m X2)
                clear hc hf HG K5 E K4 K3 hl k1
                go_wp2
                go_loopw [10] (fun z wr => ∃ (j3 : Nat) (y : Array Int), z = .int .i64 j3 ∧ i2 < j3 ∧ j3 ≤ b ∧ y.size = n ∧ Ou w0 wr g off m y ∧ Go.Sort.shiftUp ltInt b j3 y = X3) (fun z _ => b + 1 - (iv z).toNat)
                case atStart => exact ⟨i2 + 1, X2, by go_num, by omega, by omega, S2.out, HU.out, by rw [← HX3.out, if_pos hbi]⟩
                case round =>
                  obtain ⟨j3, y, rfl, k1, k2, k3, k4, k5⟩ := hrel
                  have K3 : Hid (y.size = n) := k3
                  have K4 : Hid (Ou w0 wr g off m y) := k4
                  have K5 : Hid (Go.Sort.shiftUp ltInt b j3 y = X3) := k5
                  obtain ⟨Gy, hG⟩ : ∃ G : Nat → Int, ∀ t, G t = y[t]! := ⟨fun t => y[t]!, fun _ => rfl⟩
                  have hc : ∀ t, t < n → wr.cell? ⟨g, off + t, none⟩ = some (.int .u64 (Gy t)) := fun t ht => by rw [hG]; exact k4.cell (by omega)
                  have hf : ∀ t, t < n → wr.frozen? ⟨g, off + t, none⟩ = false := fun t ht => k4.fz _
                  have HG : Hid (∀ t, Gy t = y[t]!) := hG
                  clear k3 k4 k5 hG
                  by_cases hjb : j3 < b
                  · have hj3n : j3 < n := by omega
                    have hj31 : 1 ≤ j3 := by omega
                    go_wp2
                    go_quiet ((go_at_call 204; refine Calls.quiet_of_same (less_any _ _ _)))
                    cases hl : ltInt (Gy j3) (Gy (j3 - 1))
                    · have E : Hid (y = X3) := (by rw [← K5.out]; exact (su_stop (Or.inr (by rw [← HG.out, ← HG.out]; exact hl))).symm : y = X3)
                      go_wp2
                      go_roundw
                      case rel => exact ⟨j + 1, i2, X3, by go_num, rfl, by omega, by omega, by omega, S3.out, by rw [← E.out]; exact K4.out.drewN _, H7.out⟩
                      case measure => simp [iv]; omega
                    · go_wp2
                      go_big_region
                      all_goals go_wp2
                      go_roundw
                      case rel => exact ⟨j3 + 1, _, by go_num, by omega, by omega, by rw [Go.Sort.size_swp]; exact K3.out, K4.out.swap (by rw [K3.out]; omega) (by rw [K3.out]; omega) _ (HG.out _) (HG.out _), by rw [← K5.out]; exact (su_go hjb (by rw [← HG.out, ← HG.out]; exact hl)).symm⟩
                      case measure => simp [iv]; omega
                  · have E : Hid (y = X3) := (by rw [← K5.out]; exact (su_stop (Or.inl (by omega))).symm : y = X3)
                    go_wp2
                    go_roundw
                    case rel => exact ⟨j + 1, i2, X3, by go_num, rfl, by omega, by omega, by omega, S3.out, by rw [← E.out]; exact K4.out, H7.out⟩
                    case measure => simp [iv]; omega
              · go_wp2
                go_big_region
                all_goals go_wp2
                go_roundw
                case rel => exact ⟨j3 - 1, _, by go_num, by omega, by rw [Go.Sort.size_swp]; exact K3.out, K4.out.swap (by rw [K3.out]; omega) (by rw [K3.out]; omega) _ (HG.out _) (HG.out _), by rw [← K5.out]; exact (sd_go hj0 (by rw [← HG.out, ← HG.out]; exact hl)).symm⟩
                case measure => simp [iv]; omega
            · obtain rfl : j3 = 0 := by omega
              have E : Hid (y = X2) := (by rw [← K5.out]; rfl : y = X2)
              have HU : Hid (Ou w0 wr g off m X2) := (by rw [← E.out]; exact K4.out : Ou w0 wr g off m X2)
              clear hc hf HG K5 E K4 K3 k1
              go_wp2
              go_loopw [10] (fun z wr => ∃ (j3 : Nat) (y : Array Int), z = .int .i64 j3 ∧ i2 < j3 ∧ j3 ≤ b ∧ y.size = n ∧ Ou w0 wr g off m y ∧ Go.Sort.shiftUp ltInt b j3 y = X3) (fun z _ => b + 1 - (iv z).toNat)
              case atStart => exact ⟨i2 + 1, X2, by go_num, by omega, by omega, S2.out, HU.out, by rw [← HX3.out, if_pos hbi]⟩
              case round =>
                obtain ⟨j3, y, rfl, k1, k2, k3, k4, k5⟩ := hrel
                have K3 : Hid (y.size = n) := k3
                have K4 : Hid (Ou w0 wr g off m y) := k4
                have K5 : Hid (Go.Sort.shiftUp ltInt b j3 y = X3) := k5
                obtain ⟨Gy, hG⟩ : ∃ G : Nat → Int, ∀ t, G t = y[t]! := ⟨fun t => y[t]!, fun _ => rfl⟩
                have hc : ∀ t, t < n → wr.cell? ⟨g, off + t, none⟩ = some (.int .u64 (Gy t)) := fun t ht => by rw [hG]; exact k4.cell (by omega)
                have hf : ∀ t, t < n → wr.frozen? ⟨g, off + t, none⟩ = false := fun t ht => k4.fz _
                have HG : Hid (∀ t, Gy t = y[t]!) := hG
                clear k3 k4 k5 hG
                by_cases hjb : j3 < b
                · have hj3n : j3 < n := by omega
                  have hj31 : 1 ≤ j3 := by omega
                  go_wp2
                  go_quiet ((go_at_call 204; refine Calls.quiet_of_same (less_any _ _ _)))
                  cases hl : ltInt (Gy j3) (Gy (j3 - 1))
                  · have E : Hid (y = X3) := (by rw [← K5.out]; exact (su_stop (Or.inr (by rw [← HG.out, ← HG.out]; exact hl))).symm : y = X3)
                    go_wp2
                    go_roundw
                    case rel => exact ⟨j + 1, i2, X3, by go_num, rfl, by omega, by omega, by omega, S3.out, by rw [← E.out]; exact K4.out.drewN _, H7.out⟩
                    case measure => simp [iv]; omega
                  · go_wp2
                    go_big_region
                    all_goals go_wp2
                    go_roundw
                    case rel => exact ⟨j3 + 1, _, by go_num, by omega, by omega, by rw [Go.Sort.size_swp]; exact K3.out, K4.out.swap (by rw [K3.out]; omega) (by rw [K3.out]; omega) _ (HG.out _) (HG.out _), by rw [← K5.out]; exact (su_go hjb (by rw [← HG.out, ← HG.out]; exact hl)).symm⟩
                    case measure => simp [iv]; omega
                · have E : Hid (y = X3) := (by rw [← K5.out]; exact (su_stop (Or.inl (by omega))).symm : y = X3)
                  go_wp2
                  go_roundw
                  case rel => exact ⟨j + 1, i2, X3, by go_num, rfl, by omega, by omega, by omega, S3.out, by rw [← E.out]; exact K4.out, H7.out⟩
                  case measure => simp [iv]; omega
        · have hiaI : ¬ (2 : Int) ≤ (i2 : Int) - (a : Int) := by omega
          have E : Hid (X1 = X2) := (by rw [← HX2.out, if_neg hia] : X1 = X2)
          rw [E.out] at XS
          have HXX := XS
          clear XS
          go_wp2
          go_big_region
          all_goals go_wp2
          go_loopw [10] (fun z wr => ∃ (j3 : Nat) (y : Array Int), z = .int .i64 j3 ∧ i2 < j3 ∧ j3 ≤ b ∧ y.size = n ∧ Ou w0 wr g off m y ∧ Go.Sort.shiftUp ltInt b j3 y = X3) (fun z _ => b + 1 - (iv z).toNat)
          case atStart => exact ⟨i2 + 1, X2, by go_num, by omega, by omega, S2.out, (HXX.out _), by rw [← HX3.out, if_pos hbi]⟩
          case round =>
            obtain ⟨j3, y, rfl, k1, k2, k3, k4, k5⟩ := hrel
            have K3 : Hid (y.size = n) := k3
            have K4 : Hid (Ou w0 wr g off m y) := k4
            have K5 : Hid (Go.Sort.shiftUp ltInt b j3 y = X3) := k5
            obtain ⟨Gy, hG⟩ : ∃ G : Nat → Int, ∀ t, G t = y[t]! := ⟨fun t => y[t]!, fun _ => rfl⟩
            have hc : ∀ t, t < n → wr.cell? ⟨g, off + t, none⟩ = some (.int .u64 (Gy t)) := fun t ht => by rw [hG]; exact k4.cell (by omega)
            have hf : ∀ t, t < n → wr.frozen? ⟨g, off + t, none⟩ = false := fun t ht => k4.fz _
            have HG : Hid (∀ t, Gy t = y[t]!) := hG
            clear k3 k4 k5 hG
            by_cases hjb : j3 < b
            · have hj3n : j3 < n := by omega
              have hj31 : 1 ≤ j3 := by omega
              go_wp2
              go_quiet ((go_at_call 204; refine Calls.quiet_of_same (less_any _ _ _)))
              cases hl : ltInt (Gy j3) (Gy (j3 - 1))
              · have E : Hid (y = X3) := (by rw [← K5.out]; exact (su_stop (Or.inr (by rw [← HG.out, ← HG.out]; exact hl))).symm : y = X3)
                go_wp2
                go_roundw
                case rel => exact ⟨j + 1, i2, X3, by go_num, rfl, by omega, by omega, by omega, S3.out, by rw [← E.out]; exact K4.out.drewN _, H7.out⟩
                case measure => simp [iv]; omega
              · go_wp2
                go_big_region
                all_goals go_wp2
                go_roundw
                case rel => exact ⟨j3 + 1, _, by go_num, by omega, by omega, by rw [Go.Sort.size_swp]; exact K3.out, K4.out.swap (by rw [K3.out]; omega) (by rw [K3.out]; omega) _ (HG.out _) (HG.out _), by rw [← K5.out]; exact (su_go hjb (by rw [← HG.out, ← HG.out]; exact hl)).symm⟩
                case measure => simp [iv]; omega
            · have E : Hid (y = X3) := (by rw [← K5.out]; exact (su_stop (Or.inl (by omega))).symm : y = X3)
              go_wp2
              go_roundw
              case rel => exact ⟨j + 1, i2, X3, by go_num, rfl, by omega, by omega, by omega, S3.out, by rw [← E.out]; exact K4.out, H7.out⟩
              case measure => simp [iv]; omega
      · have hbiI : ¬ (2 : Int) ≤ (b : Int) - (i2 : Int) := by omega
        have E3 : Hid (X2 = X3) := (by rw [← HX3.out, if_neg hbi] : X2 = X3)
        by_cases hia : a + 2 ≤ i2
        · have hiaI : (2 : Int) ≤ (i2 : Int) - (a : Int) := by omega
          go_wp2
          go_big_region
          all_goals go_wp2
          go_loopw [9] (fun z wr => ∃ (j3 : Nat) (y : Array Int), z = .int .i64 j3 ∧ j3 < i2 ∧ y.size = n ∧ Ou w0 wr g off m y ∧ Go.Sort.shiftDown ltInt j3 y = X2) (fun z _ => (iv z).toNat)
          case atStart => exact ⟨i2 - 1, X1, by go_num, by omega, S1.out, XS.out _, by rw [← HX2.out, if_pos hia]⟩
          case round =>
            clear XS
            obtain ⟨j3, y, rfl, k1, k3, k4, k5⟩ := hrel
            have K3 : Hid (y.size = n) := k3
            have K4 : Hid (Ou w0 wr g off m y) := k4
            have K5 : Hid (Go.Sort.shiftDown ltInt j3 y = X2) := k5
            obtain ⟨Gy, hG⟩ : ∃ G : Nat → Int, ∀ t, G t = y[t]! := ⟨fun t => y[t]!, fun _ => rfl⟩
            have hc : ∀ t, t < n → wr.cell? ⟨g, off + t, none⟩ = some (.int .u64 (Gy t)) := fun t ht => by rw [hG]; exact k4.cell (by omega)
            have hf : ∀ t, t < n → wr.frozen? ⟨g, off + t, none⟩ = false := fun t ht => k4.fz _
            have HG : Hid (∀ t, Gy t = y[t]!) := hG
            clear k3 k4 k5 hG
            by_cases hj0 : 1 ≤ j3
            · have hj3n : j3 < n := by omega
              have hj0I : (1 : Int) ≤ (j3 : Int) := by omega
              go_wp2
              go_quiet ((go_at_call 204; refine Calls.quiet_of_same (less_any _ _ _)))
              cases hl : ltInt (Gy j3) (Gy (j3 - 1))
              · have E : Hid (y = X2) := (by rw [← K5.out]; exact (sd_stop (Or.inr (by rw [← HG.out, ← HG.out]; exact hl))).symm : y = X2)
                have HU : Hid (Ou w0 (wr.drewN nq) g off m X2) := (by rw [← E.out]; exact K4.out.drewN _ : Ou w0 (wr.drewN nq) g off m X2)
                clear hc hf HG K5 E K4 K3 hl k1
                go_wp2
                go_roundw
                case rel => exact ⟨j + 1, i2, X3, by go_num, rfl, by omega, by omega, by omega, S3.out, by rw [← E3.out]; exact HU.out, H7.out⟩
                case measure => simp [iv]; omega
              · go_wp2
                go_big_region
                all_goals go_wp2
                go_roundw
                case rel => exact ⟨j3 - 1, _, by go_num, by omega, by rw [Go.Sort.size_swp]; exact K3.out, K4.out.swap (by rw [K3.out]; omega) (by rw [K3.out]; omega) _ (HG.out _) (HG.out _), by rw [← K5.out]; exact (sd_go hj0 (by rw [← HG.out, ← HG.out]; exact hl)).symm⟩
                case measure => simp [iv]; omega
            · obtain rfl : j3 = 0 := by omega
              have E : Hid (y = X2) := (by rw [← K5.out]; rfl : y = X2)
              have HU : Hid (Ou w0 wr g off m X2) := (by rw [← E.out]; exact K4.out : Ou w0 wr g off m X2)
              clear hc hf HG K5 E K4 K3 k1
              go_wp2
              go_roundw
              case rel => exact ⟨j + 1, i2, X3, by go_num, rfl, by omega, by omega, by omega, S3.out, by rw [← E3.out]; exact HU.out, H7.out⟩
              case measure => simp [iv]; omega
        · omega
    · obtain rfl : j = 5 := by omega
      have E5 : Hid (R = (x, false)) := (by rw [← h5]; rfl : R = (x, false))
      clear h5
      go_wp2
      go_ret
      refine ⟨?_, ?_⟩
      · rw [E5.out]; rfl
      · rw [E5.out]; exact H4.out
end Go.Proofs.YtkbpnkjjmipjfaaGreat.U
