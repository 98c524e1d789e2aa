/- The heap's two functions over unsigned words: each leaves what the plain function makes of the row; no condition but those that each theorem names. -/
import Derived.Test.YtdempgjhjcjklaaGreatVUw
namespace Go.Proofs.YtdempgjhjcjklaaGreat.U
open Go.ChangeShapes Go.WideShapes Go.ChangeAt Go.RowKit
open Go.Sort (swp ltInt PermIn SortedIn)
set_option linter.unusedVariables false
set_option maxRecDepth 8192

theorem sift_eq (hi f r c : Nat) (d : Array Int) (h : 2 * r + 1 < hi) (hc : c = if (decide (2 * r + 1 + 1 < hi) && ltInt d[f + (2 * r + 1)]! d[f + (2 * r + 1) + 1]!) = true then 2 * r + 2 else 2 * r + 1) :
    Go.Sort.siftDown ltInt hi f r d = if ltInt d[f + r]! d[f + c]! = true then Go.Sort.siftDown ltInt hi f c (swp d (f + r) (f + c)) else d := by
  rw [Go.Sort.siftDown, dif_neg (by omega)]
  by_cases q : (decide (2 * r + 1 + 1 < hi) && ltInt d[f + (2 * r + 1)]! d[f + (2 * r + 1) + 1]!) = true
  · rw [if_pos q] at hc ⊢
    subst hc
    have q' : 2 * r + 2 < hi := by simp at q; omega
    cases z : ltInt d[f + r]! d[f + (2 * r + 2)]!
    · simp
    · simp [q']
  · rw [if_neg q] at hc ⊢
    subst hc
    cases z : ltInt d[f + r]! d[f + (2 * r + 1)]!
    · simp
    · simp
set_option maxHeartbeats 2000000 in
theorem sift_any {w0 w : World} {g off m cap lo hi f : Nat} {d : Array Int} (hO : Ou w0 w g off m d) (hlo : lo ≤ d.size) (hb : f + hi ≤ d.size) (hsz : d.size < 1000000) :
    Calls Tryz.prog 125 #[.slice (some ⟨g, off, none⟩) d.size cap, .int .i64 lo, .int .i64 hi, .int .i64 f] w fun e w' => e = .returned (.tuple #[]) ∧ Ou w0 w' g off m (Go.Sort.siftDown ltInt hi f lo d) ∧ (Go.Sort.siftDown ltInt hi f lo d).size = d.size := by
  obtain ⟨n, hn⟩ : ∃ n, d.size = n := ⟨_, rfl⟩
  rw [hn] at hb hsz hlo ⊢
  have HO : Hid (Ou w0 w g off m d) := hO
  have HN : Hid (d.size = n) := hn
  clear hO hn
  go_enter Tryz.func125, Tryz.ntmps125
  go_wp2
  go_loopw [8] (fun z wr => ∃ (r : Nat) (x : Array Int), z = .int .i64 r ∧ r ≤ n ∧ x.size = n ∧ Ou w0 wr g off m x ∧ Go.Sort.siftDown ltInt hi f r x = Go.Sort.siftDown ltInt hi f lo d) (fun z _ => n + 1 - (iv z).toNat)
  case atStart => exact ⟨lo, d, rfl, by omega, HN.out, HO.out, rfl⟩
  case round =>
    obtain ⟨r, x, rfl, h1, h3, h4, h5⟩ := hrel
    have H3 : Hid (x.size = n) := h3
    have H4 : Hid (Ou w0 wr g off m x) := h4
    have H5 : Hid (Go.Sort.siftDown ltInt hi f r x = Go.Sort.siftDown ltInt hi f lo d) := h5
    obtain ⟨G, hG⟩ : ∃ G : Nat → Int, ∀ t, G t = x[t]! := ⟨fun t => x[t]!, fun _ => rfl⟩
    have hc : ∀ t, t < n → wr.cell? ⟨g, off + t, none⟩ = some (.int .u64 (G t)) := fun t ht => by rw [hG]; exact h4.cell (by omega)
    have hf : ∀ t, t < n → wr.frozen? ⟨g, off + t, none⟩ = false := fun t ht => h4.fz _
    have HG : Hid (∀ t, G t = x[t]!) := hG
    clear h3 h4 h5 hG HO
    by_cases hr : 2 * r + 1 < hi
    · obtain ⟨c, hcc⟩ : ∃ c : Nat, 2 * r + 1 = c := ⟨_, rfl⟩
      obtain ⟨c1, hcc1⟩ : ∃ c1 : Nat, c + 1 = c1 := ⟨_, rfl⟩
      obtain ⟨p, hp⟩ : ∃ p : Nat, f + r = p := ⟨_, rfl⟩
      obtain ⟨q, hq⟩ : ∃ q : Nat, f + c = q := ⟨_, rfl⟩
      obtain ⟨q1, hq1⟩ : ∃ q1 : Nat, f + c1 = q1 := ⟨_, rfl⟩
      have HP : Hid (f + r = p) := hp
      have HQc : Hid (f + c = q) := hq
      have HQc1 : Hid (f + c1 = q1) := hq1
      have i1 : 2 * (r : Int) + 1 = (c : Int) := by omega
      have i2 : (c : Int) + 1 = (c1 : Int) := by omega
      have i3 : (f : Int) + (r : Int) = (p : Int) := by omega
      have i4 : (f : Int) + (c : Int) = (q : Int) := by omega
      have i5 : (f : Int) + (c1 : Int) = (q1 : Int) := by omega
      have i6 : (q : Int) + 1 = (q1 : Int) := by omega
      have hpn : p < n := by omega
      have hqn : q < n := by omega
      have hch : (c : Int) < (hi : Int) := by omega
      have EC : Hid (2 * r + 1 = c ∧ c + 1 = c1) := ⟨hcc, hcc1⟩
      have EQ : Hid (∀ b : Bool, (2 * r + 1 + 1 < hi ∧ ltInt (G q) (G q1) = true ↔ b = true) → (if b = true then c1 else c) = if (decide (2 * r + 1 + 1 < hi) && ltInt x[f + (2 * r + 1)]! x[f + (2 * r + 1) + 1]!) = true then 2 * r + 2 else 2 * r + 1) := fun b hb => by
        rw [hcc, show f + c + 1 = q1 by omega, hq, ← HG.out, ← HG.out]
        cases b
        · rw [if_neg (by simp), if_neg (fun z => by simp at z; simpa using hb.1 ⟨by omega, z.2⟩)]
        · rw [if_pos rfl, if_pos (by have := hb.2 rfl; simp [this.2]; omega)]
          omega
      clear hp hq hq1
      go_wp2
      by_cases h2 : c1 < hi
      · have h2I : (c1 : Int) < (hi : Int) := by omega
        have hq1n : q1 < n := by omega
        go_quiet ((go_at_call 112; refine Calls.quiet_of_same (less_any _ _ _)))
        cases hl : ltInt (G q) (G q1)
        · have HC : Hid (c = _) := EQ.out false (by simp [hl])
          go_wp2
          obtain ⟨W, hWe⟩ : ∃ W, wr.drewN nq = W := ⟨_, rfl⟩
          rw [hWe]
          have hc' : ∀ t, t < n → W.cell? ⟨g, off + t, none⟩ = some (.int .u64 (G t)) := fun t ht => by rw [← hWe]; exact hc t ht
          have hf' : ∀ t, t < n → W.frozen? ⟨g, off + t, none⟩ = false := fun t ht => by rw [← hWe]; exact hf t ht
          have H4W : Hid (Ou w0 W g off m x) := by rw [← hWe]; exact H4.out.drewN _
          clear hWe hc hf
          go_quiet ((go_at_call 112; refine Calls.quiet_of_same (less_any _ _ _)))
          cases hm : ltInt (G p) (G q)
          · go_wp2
            first | go_end0 | refine bodyPost_ret (results_none rfl _ _ _) rfl ?_
            refine ⟨rfl, ?_⟩
            rw [← H5.out, sift_eq hi f r c x hr HC.out, HP.out, HQc.out, if_neg (by rw [← HG.out, ← HG.out, hm]; simp)]
            exact ⟨H4W.out.drewN _, H3.out⟩
          · go_wp2
            go_region
            all_goals go_wp2
            go_roundw
            case rel => exact ⟨c, swp x p q, by go_num, by omega, by rw [Go.Sort.size_swp]; exact H3.out, H4W.out.swap (by rw [H3.out]; omega) (by rw [H3.out]; omega) _ (HG.out _) (HG.out _), by rw [← H5.out, sift_eq hi f r c x hr HC.out, HP.out, HQc.out, if_pos (by rw [← HG.out, ← HG.out, hm])]⟩
            case measure => simp [iv]; omega
        · have HC : Hid (c1 = _) := EQ.out true (by simp [hl]; omega)
          go_wp2
          obtain ⟨W, hWe⟩ : ∃ W, wr.drewN nq = W := ⟨_, rfl⟩
          rw [hWe]
          have hc' : ∀ t, t < n → W.cell? ⟨g, off + t, none⟩ = some (.int .u64 (G t)) := fun t ht => by rw [← hWe]; exact hc t ht
          have hf' : ∀ t, t < n → W.frozen? ⟨g, off + t, none⟩ = false := fun t ht => by rw [← hWe]; exact hf t ht
          have H4W : Hid (Ou w0 W g off m x) := by rw [← hWe]; exact H4.out.drewN _
          clear hWe hc hf
          go_quiet ((go_at_call 112; refine Calls.quiet_of_same (less_any _ _ _)))
          cases hm : ltInt (G p) (G q1)
          · go_wp2
            first | go_end0 | refine bodyPost_ret (results_none rfl _ _ _) rfl ?_
            refine ⟨rfl, ?_⟩
            rw [← H5.out, sift_eq hi f r c1 x hr HC.out, HP.out, HQc1.out, if_neg (by rw [← HG.out, ← HG.out, hm]; simp)]
            exact ⟨H4W.out.drewN _, H3.out⟩
          · go_wp2
            go_region
            all_goals go_wp2
            go_roundw
            case rel => exact ⟨c1, swp x p q1, by go_num, by omega, by rw [Go.Sort.size_swp]; exact H3.out, H4W.out.swap (by rw [H3.out]; omega) (by rw [H3.out]; omega) _ (HG.out _) (HG.out _), by rw [← H5.out, sift_eq hi f r c1 x hr HC.out, HP.out, HQc1.out, if_pos (by rw [← HG.out, ← HG.out, hm])]⟩
            case measure => simp [iv]; omega
      · have h2I : ¬ (c1 : Int) < (hi : Int) := by omega
        have HC : Hid (c = _) := EQ.out false (by simp; omega)
        go_quiet (fail)
        go_wp2
        obtain ⟨W, hWe⟩ : ∃ W, wr.drewN nq = W := ⟨_, rfl⟩
        rw [hWe]
        have hc' : ∀ t, t < n → W.cell? ⟨g, off + t, none⟩ = some (.int .u64 (G t)) := fun t ht => by rw [← hWe]; exact hc t ht
        have hf' : ∀ t, t < n → W.frozen? ⟨g, off + t, none⟩ = false := fun t ht => by rw [← hWe]; exact hf t ht
        have H4W : Hid (Ou w0 W g off m x) := by rw [← hWe]; exact H4.out.drewN _
        clear hWe hc hf
        go_quiet ((go_at_call 112; refine Calls.quiet_of_same (less_any _ _ _)))
        cases hm : ltInt (G p) (G q)
        · go_wp2
          first | go_end0 | refine bodyPost_ret (results_none rfl _ _ _) rfl ?_
          refine ⟨rfl, ?_⟩
          rw [← H5.out, sift_eq hi f r c x hr HC.out, HP.out, HQc.out, if_neg (by rw [← HG.out, ← HG.out, hm]; simp)]
          exact ⟨H4W.out.drewN _, H3.out⟩
        · go_wp2
          go_region
          all_goals go_wp2
          go_roundw
          case rel => exact ⟨c, swp x p q, by go_num, by omega, by rw [Go.Sort.size_swp]; exact H3.out, H4W.out.swap (by rw [H3.out]; omega) (by rw [H3.out]; omega) _ (HG.out _) (HG.out _), by rw [← H5.out, sift_eq hi f r c x hr HC.out, HP.out, HQc.out, if_pos (by rw [← HG.out, ← HG.out, hm])]⟩
          case measure => simp [iv]; omega
    · go_wp2
      first | go_end0 | refine bodyPost_ret (results_none rfl _ _ _) rfl ?_
      refine ⟨rfl, ?_⟩
      rw [← H5.out, Go.Sort.siftDown, dif_pos (by omega)]
      exact ⟨H4.out, H3.out⟩
/-! ### heapSort -/
set_option maxHeartbeats 2000000 in
theorem heap_any {w0 w : World} {g off m cap a b : Nat} {d : Array Int} (hO : Ou w0 w g off m d) (hab : a < b) (hb : b ≤ d.size) (hsz : d.size < 1000000) :
    Calls Tryz.prog 107 #[.slice (some ⟨g, off, none⟩) d.size cap, .int .i64 a, .int .i64 b] w fun e w' => e = .returned (.tuple #[]) ∧ Ou w0 w' g off m (Go.Sort.heapSort ltInt d a b) := by
  obtain ⟨n, hn⟩ : ∃ n, d.size = n := ⟨_, rfl⟩
  obtain ⟨hi, hhi⟩ : ∃ hi, b - a = hi := ⟨_, rfl⟩
  unfold Go.Sort.heapSort
  rw [hn] at hb hsz ⊢
  rw [hhi]
  obtain ⟨k0, hk0⟩ : ∃ k0, (hi - 1) / 2 = k0 := ⟨_, rfl⟩
  rw [hk0]
  have CS : Hid (∀ (W : World) (x : Array Int) (lo h : Nat), Ou w0 W g off m x → x.size = n → lo ≤ n → a + h ≤ n → Calls Tryz.prog 125 #[.slice (some ⟨g, off, none⟩) n cap, .int .i64 lo, .int .i64 h, .int .i64 a] W fun e w' => e = .returned (.tuple #[]) ∧ Ou w0 w' g off m (Go.Sort.siftDown ltInt h a lo x) ∧ (Go.Sort.siftDown ltInt h a lo x).size = n) := fun W x lo h h1 h2 h3 h4 => by
    have := sift_any (cap := cap) (lo := lo) (hi := h) (f := a) h1 (by omega) (by omega) (by omega)
    rw [h2] at this
    exact this
  have HO : Hid (Ou w0 w g off m d) := hO
  have HN : Hid (d.size = n) := hn
  clear hO hn
  have hi1 : (b : Int) - (a : Int) = (hi : Int) := by omega
  have hi2 : ((hi : Int) - 1).tdiv 2 = (k0 : Int) := by rw [Int.tdiv_eq_ediv_of_nonneg (by omega)]; omega
  have hk0n : k0 < n := by omega
  have hhn : hi ≤ n := by omega
  have han : a + hi ≤ n := by omega
  obtain ⟨R, hR⟩ : ∃ R, Go.Sort.heapBuild ltInt hi a (k0 + 1) d = R := ⟨_, rfl⟩
  rw [hR]
  have HR : Hid (Go.Sort.heapBuild ltInt hi a (k0 + 1) d = R) := hR
  clear hR
  go_enter Tryz.func107, Tryz.ntmps107
  go_wp2
  go_loopw [9] (fun z wr => ∃ (v : Int) (k : Nat) (x : Array Int), z = .int .i64 v ∧ v = (k : Int) - 1 ∧ k ≤ k0 + 1 ∧ x.size = n ∧ Ou w0 wr g off m x ∧ Go.Sort.heapBuild ltInt hi a k x = R) (fun z _ => (iv z + 1).toNat)
  case atStart => exact ⟨k0, k0 + 1, d, rfl, by omega, by omega, HN.out, HO.out, HR.out⟩
  case round =>
    clear HO HR
    obtain ⟨v, k, x, rfl, h1, h2, h3, h4, h5⟩ := hrel
    have H3 : Hid (x.size = n) := h3
    have H4 : Hid (Ou w0 wr g off m x) := h4
    have H5 : Hid (Go.Sort.heapBuild ltInt hi a k x = R) := h5
    clear h3 h4 h5
    cases k with
    | succ j =>
      obtain rfl : v = (j : Int) := by omega
      clear h1
      have CS1 : Hid (Calls _ _ _ _ _) := CS.out wr x j hi H4.out H3.out (by omega) han
      go_wp2_with fail
      refine CS1.out.mono ?_
      rintro e w2 ⟨rfl, q1, q2⟩
      have Q1 : Hid (Ou w0 w2 g off m (Go.Sort.siftDown ltInt hi a j x)) := q1
      have Q2 : Hid ((Go.Sort.siftDown ltInt hi a j x).size = n) := q2
      clear q1 q2 CS1
      go_wp2
      go_roundw
      case rel => exact ⟨(j : Int) - 1, j, _, by go_num, rfl, by omega, Q2.out, Q1.out, by rw [← H5.out]; rfl⟩
      case measure => simp [iv]
    | zero =>
      obtain rfl : v = -1 := by omega
      clear h1
      have E5 : Hid (x = R) := H5.out
      go_wp2
      go_loopw [10] (fun z wr => ∃ (v : Int) (k : Nat) (x : Array Int), z = .int .i64 v ∧ v = (k : Int) - 1 ∧ k ≤ hi ∧ x.size = n ∧ Ou w0 wr g off m x ∧ Go.Sort.heapPop ltInt a k x = Go.Sort.heapPop ltInt a hi R) (fun z _ => (iv z + 1).toNat)
      case atStart => exact ⟨(hi : Int) - 1, hi, x, by go_num, rfl, by omega, H3.out, H4.out, by rw [E5.out]⟩
      case round =>
        clear H4 E5 H5 H3
        obtain ⟨v, k, x, rfl, h1, h2, h3, h4, h5⟩ := hrel
        have H3 : Hid (x.size = n) := h3
        have H4 : Hid (Ou w0 wr g off m x) := h4
        have H5 : Hid (Go.Sort.heapPop ltInt a k x = Go.Sort.heapPop ltInt a hi R) := h5
        obtain ⟨G, hG⟩ : ∃ G : Nat → Int, ∀ t, G t = x[t]! := ⟨fun t => x[t]!, fun _ => rfl⟩
        have hc : ∀ t, t < n → wr.cell? ⟨g, off + t, none⟩ = some (.int .u64 (G t)) := fun t ht => by rw [hG]; exact h4.cell (by omega)
        have hf : ∀ t, t < n → wr.frozen? ⟨g, off + t, none⟩ = false := fun t ht => h4.fz _
        have HG : Hid (∀ t, G t = x[t]!) := hG
        clear h3 h4 h5 hG
        cases k with
        | succ j =>
          obtain rfl : v = (j : Int) := by omega
          clear h1
          obtain ⟨p, hp⟩ : ∃ p : Nat, a + j = p := ⟨_, rfl⟩
          have HP : Hid (a + j = p) := hp
          have i3 : (a : Int) + (j : Int) = (p : Int) := by omega
          have hpn : p < n := by omega
          have haI : a < n := by omega
          clear hp
          by_cases hpa : a = p
          · subst hpa
            go_wp2
            go_region
            all_goals go_wp2_with fail
            refine (CS.out _ (swp x a a) 0 j (H4.out.swap (by rw [H3.out]; omega) (by rw [H3.out]; omega) _ (HG.out _) (HG.out _)) (by rw [Go.Sort.size_swp]; exact H3.out) (by omega) (by omega)).mono ?_
            rintro e w2 ⟨rfl, q1, q2⟩
            have Q1 : Hid (Ou w0 w2 g off m (Go.Sort.siftDown ltInt j a 0 (swp x a a))) := q1
            have Q2 : Hid ((Go.Sort.siftDown ltInt j a 0 (swp x a a)).size = n) := q2
            clear q1 q2 hc hf
            go_wp2
            go_roundw
            case rel => exact ⟨(j : Int) - 1, j, _, by go_num, rfl, by omega, Q2.out, Q1.out, by
              have hz := HP.out
              rw [← H5.out, Go.Sort.heapPop, hz]⟩
            case measure => simp [iv]
          · have hpa2 : a < p := by omega
            go_wp2
            go_region
            all_goals go_wp2_with fail
            refine (CS.out _ (swp x a p) 0 j (H4.out.swap (by rw [H3.out]; omega) (by rw [H3.out]; omega) _ (HG.out _) (HG.out _)) (by rw [Go.Sort.size_swp]; exact H3.out) (by omega) (by omega)).mono ?_
            rintro e w2 ⟨rfl, q1, q2⟩
            have Q1 : Hid (Ou w0 w2 g off m (Go.Sort.siftDown ltInt j a 0 (swp x a p))) := q1
            have Q2 : Hid ((Go.Sort.siftDown ltInt j a 0 (swp x a p)).size = n) := q2
            clear q1 q2 hc hf
            go_wp2
            go_roundw
            case rel => exact ⟨(j : Int) - 1, j, _, by go_num, rfl, by omega, Q2.out, Q1.out, by
              have hz := HP.out
              rw [← H5.out, Go.Sort.heapPop, hz]⟩
            case measure => simp [iv]
        | zero =>
          obtain rfl : v = -1 := by omega
          clear h1
          go_wp2
          go_end0
          refine ⟨rfl, ?_⟩
          rw [← H5.out]
          exact H4.out
end Go.Proofs.YtdempgjhjcjklaaGreat.U
