/- Rows of unsigned words that a sort turns: what a store and a draw leave of them; cmp.Less; the sort by insertion; no condition but those that each theorem names. -/
import Derived.Test.YtkbpnkjjmipjfaaGreatRows
import Derived.WalkKit
import Derived.ProofKit
import Derived.OpenShut
import Derived.WalkSpells
import Derived.WalkLawsBesides
import Derived.Deep.QuietTactic
import Derived.Deep.Draws
import Derived.BigQuiet
import Derived.BigGuard
import Derived.BigCall
import Derived.CellFam
import Derived.Sort.AssemblyPlain
import Derived.Sort.Row
namespace Go.Proofs.YtkbpnkjjmipjfaaGreat.U
open Go.ChangeShapes Go.WideShapes Go.ChangeAt Go.RowKit
set_option linter.unusedVariables false
set_option maxRecDepth 8192

def iv : Value → Int
  | .int _ a => a
  | _ => 0
structure Ou (w w' : World) (g off m : Nat) (d : Array Int) : Prop where
  lt : g < w.heap.size
  gr : w.grownBy w' (some g)
  ce : ∃ c : Array Value, w'.heap[g]? = some (.cells c 22 (0, 0)) ∧ c.size = m ∧ off + d.size ≤ m ∧ ∀ t, t < d.size → c[off + t]? = some (.int .u64 d[t]!)
theorem Ou.cell {w w' : World} {g off m : Nat} {d : Array Int} (h : Ou w w' g off m d) {t : Nat} (ht : t < d.size) : w'.cell? ⟨g, off + t, none⟩ = some (.int .u64 d[t]!) := by
  obtain ⟨c, h1, h2, h3, h4⟩ := h.ce
  rw [cell_of_row w' g (off + t) _ _ (0, 0) h1]
  exact h4 t ht
theorem Ou.fz {w w' : World} {g off m : Nat} {d : Array Int} (h : Ou w w' g off m d) (t : Nat) : w'.frozen? ⟨g, t, none⟩ = false := by
  obtain ⟨c, h1, h2, h3, h4⟩ := h.ce
  simp [World.frozen?, h1]
theorem Ou.grow {w w' w2 : World} {g off m : Nat} {d : Array Int} (h : Ou w w' g off m d) (k : w'.grownBy w2 none) : Ou w w2 g off m d := by
  obtain ⟨c, h1, h2, h3, h4⟩ := h.ce
  have hg : g < w'.heap.size := Nat.lt_of_lt_of_le h.lt h.gr.size
  exact ⟨h.lt, ⟨k.os.trans h.gr.os, k.tape.trans h.gr.tape, k.output.trans h.gr.output, Nat.le_trans h.gr.size k.size, fun i hi hn => (k.block i (Nat.lt_of_lt_of_le hi h.gr.size) (by simp)).trans (h.gr.block i hi hn)⟩, c, (k.block g hg (by simp)).trans h1, h2, h3, h4⟩
theorem Ou.drewN {w w' : World} {g off m : Nat} {d : Array Int} (h : Ou w w' g off m d) (q : Nat) : Ou w (w'.drewN q) g off m d := ⟨h.lt, ⟨h.gr.os, h.gr.tape, h.gr.output, h.gr.size, h.gr.block⟩, h.ce⟩
theorem Ou.set {w w' : World} {g off m : Nat} {d : Array Int} (h : Ou w w' g off m d) {i : Nat} (hi : i < d.size) (x : Int) : Ou w (w'.setCell ⟨g, off + i, none⟩ (.int .u64 x)) g off m (d.setIfInBounds i x) := by
  obtain ⟨c, h1, h2, h3, h4⟩ := h.ce
  have hg : g < w'.heap.size := Nat.lt_of_lt_of_le h.lt h.gr.size
  refine ⟨h.lt, ⟨h.gr.os, h.gr.tape, h.gr.output, by simp [World.setCell]; exact h.gr.size, fun k hk hn => ?_⟩, c.setIfInBounds (off + i) (.int .u64 x), ?_, by simp [h2], by simpa using h3, fun t ht => ?_⟩
  · have : g ≠ k := fun e => hn (by rw [e])
    simp [World.setCell, Array.getElem?_modify, this]
    have := h.gr.block k hk hn
    simpa using this
  · simp [World.setCell, Array.getElem?_modify, h1]
  · have ht' : t < d.size := by simpa using ht
    rw [Array.getElem?_setIfInBounds]
    by_cases e : i = t
    · subst e
      rw [if_pos rfl, if_pos (by omega), Go.Sort.getElem!_set_same d i x hi]
    · rw [if_neg (by omega), Go.Sort.getElem!_set_other d i t x (by omega)]
      exact h4 t ht'
theorem Ou.swap {w w' : World} {g off m : Nat} {d : Array Int} (h : Ou w w' g off m d) {i j : Nat} (hi : i < d.size) (hj : j < d.size) (q : Nat) {x y : Int} (hx : x = d[j]!) (hy : y = d[i]!) :
    Ou w (((w'.drewN q).setCell ⟨g, off + i, none⟩ (.int .u64 x)).setCell ⟨g, off + j, none⟩ (.int .u64 y)) g off m (Go.Sort.swp d i j) := by
  subst hx hy
  exact ((h.drewN q).set hi _).set (by simpa using hj) _
theorem Ou.refl {w : World} {g off m : Nat} {d : Array Int} {c : Array Value} (h1 : w.heap[g]? = some (.cells c 22 (0, 0))) (h2 : c.size = m) (h3 : off + d.size ≤ m) (h4 : ∀ t, t < d.size → c[off + t]? = some (.int .u64 d[t]!)) : Ou w w g off m d :=
  ⟨(Array.getElem?_eq_some_iff.1 h1).1, ⟨rfl, rfl, rfl, Nat.le_refl _, fun _ _ _ => rfl⟩, c, h1, h2, h3, h4⟩
theorem nan_any (x : Int) (w : World) : Calls Tryz.prog 231 #[.int .u64 x] w fun e w' => e = .returned (.bool false) ∧ w' = w := by
  go_enter Tryz.func231, Tryz.ntmps231
  go_wp2
  go_ret
  exact ⟨rfl, rfl⟩
theorem less_any (x y : Int) (w : World) : Calls Tryz.prog 204 #[.int .u64 x, .int .u64 y] w fun e w' => e = .returned (.bool (Go.Sort.ltInt x y)) ∧ w' = w := by
  go_enter Tryz.func204, Tryz.ntmps204
  go_wp2_with (go_at_call 231; refine (nan_any _ _).mono ?_; rintro e w' ⟨rfl, rfl⟩)
  go_ret
  exact ⟨rfl, rfl⟩
end Go.Proofs.YtkbpnkjjmipjfaaGreat.U
namespace Go.Proofs.YtkbpnkjjmipjfaaGreat.U
open Go.ChangeShapes Go.WideShapes Go.ChangeAt Go.RowKit
open Go.Sort (swp ltInt PermIn SortedIn)
set_option linter.unusedVariables false
set_option maxRecDepth 8192

theorem ins_go (a j : Nat) (d : Array Int) (hj : a < j) (hl : ltInt d[j]! d[j - 1]! = true) : Go.Sort.insInner ltInt a j d = Go.Sort.insInner ltInt a (j - 1) (swp d j (j - 1)) := by
  cases j with
  | zero => omega
  | succ k =>
    rw [Go.Sort.insInner]
    simp only [Nat.add_sub_cancel] at hl ⊢
    rw [if_pos]
    simp [hl]
    omega
theorem ins_stop (a j : Nat) (d : Array Int) (h : j ≤ a ∨ ltInt d[j]! d[j - 1]! = false) : Go.Sort.insInner ltInt a j d = d := by
  cases j with
  | zero => rfl
  | succ k =>
    rw [Go.Sort.insInner, if_neg]
    simp only [Nat.add_sub_cancel] at h
    rcases h with h | h
    · simp; omega
    · simp [h]
theorem out_go (a b i : Nat) (d : Array Int) (h : i < b) : Go.Sort.insOuter ltInt a b i d = Go.Sort.insOuter ltInt a b (i + 1) (Go.Sort.insInner ltInt a i d) := by rw [Go.Sort.insOuter, if_pos h]
set_option maxHeartbeats 1000000 in
theorem insertion_any {w0 w : World} {g off m cap a b : Nat} {d : Array Int} (hO : Ou w0 w g off m d) (hab : a ≤ b) (hb : b ≤ d.size) (hsz : d.size < 1000000) :
    Calls Tryz.prog 198 #[.slice (some ⟨g, off, none⟩) d.size cap, .int .i64 a, .int .i64 b] w fun e w' => e = .returned (.tuple #[]) ∧ Ou w0 w' g off m (Go.Sort.insertionSort ltInt d a b) := by
  obtain ⟨n, hn⟩ : ∃ n, d.size = n := ⟨_, rfl⟩
  rw [hn] at hb hsz ⊢
  have HO : Hid (Ou w0 w g off m d) := hO
  have HN : Hid (d.size = n) := hn
  clear hO hn
  go_enter Tryz.func198, Tryz.ntmps198
  go_wp2
  go_loopw [6] (fun z wr => ∃ (i : Nat) (x : Array Int), z = .int .i64 i ∧ a < i ∧ i ≤ b + 1 ∧ x.size = n ∧ Ou w0 wr g off m x ∧ Go.Sort.insOuter ltInt a b i x = Go.Sort.insOuter ltInt a b (a + 1) d) (fun z _ => b + 1 - (iv z).toNat)
  case atStart => exact ⟨a + 1, d, by go_num, by omega, by omega, HN.out, HO.out, rfl⟩
  case round =>
    obtain ⟨i, x, rfl, h1, h2, h3, h4, h5⟩ := hrel
    have H3 : Hid (x.size = n) := h3
    have H4 : Hid (Ou w0 wr g off m x) := h4
    have H5 : Hid (Go.Sort.insOuter ltInt a b i x = Go.Sort.insOuter ltInt a b (a + 1) d) := h5
    clear h3 h4 h5 HO
    by_cases hi : i < b
    · go_wp2
      go_loopw [7] (fun z wr => ∃ (j : Nat) (y : Array Int), z = .int .i64 j ∧ a ≤ j ∧ j ≤ i ∧ y.size = n ∧ Ou w0 wr g off m y ∧ Go.Sort.insInner ltInt a j y = Go.Sort.insInner ltInt a i x) (fun z _ => (iv z).toNat)
      case atStart => exact ⟨i, x, rfl, by omega, by omega, H3.out, H4.out, rfl⟩
      case round =>
        clear H4
        obtain ⟨j, y, rfl, k1, k2, k3, k4, k5⟩ := hrel
        have K3 : Hid (y.size = n) := k3
        have K4 : Hid (Ou w0 wr g off m y) := k4
        have K5 : Hid (Go.Sort.insInner ltInt a j y = Go.Sort.insInner ltInt a i x) := k5
        obtain ⟨G, hG⟩ : ∃ G : Nat → Int, ∀ t, G t = y[t]! := ⟨fun t => y[t]!, fun _ => rfl⟩
        have hc : ∀ t, t < n → wr.cell? ⟨g, off + t, none⟩ = some (.int .u64 (G t)) := fun t ht => by rw [hG]; exact k4.cell (by omega)
        have hf : ∀ t, t < n → wr.frozen? ⟨g, off + t, none⟩ = false := fun t ht => k4.fz _
        have HG : Hid (∀ t, G t = y[t]!) := hG
        clear k3 k4 k5 hG
        go_wp2
        by_cases hja : a < j
        · go_quiet ((go_at_call 204; refine Calls.quiet_of_same (less_any _ _ _)))
          cases hl : ltInt (G j) (G (j - 1))
          · go_wp2
            go_roundw
            case rel => exact ⟨i + 1, y, by go_num, by omega, by omega, K3.out, K4.out.drewN _, by rw [← H5.out, out_go a b i x hi, ← K5.out, ins_stop a j y (Or.inr (by rw [← HG.out, ← HG.out]; exact hl))]⟩
            case measure => simp [iv]; omega
          · go_wp2
            go_region
            all_goals go_wp2
            go_roundw
            case rel => exact ⟨j - 1, swp y j (j - 1), by go_num, by omega, by omega, by rw [Go.Sort.size_swp]; exact K3.out, K4.out.swap (by rw [K3.out]; omega) (by rw [K3.out]; omega) _ (HG.out _) (HG.out _), by rw [← K5.out, ins_go a j y hja (by rw [← HG.out, ← HG.out]; exact hl)]⟩
            case measure => simp [iv]; omega
        · go_quiet (fail)
          go_wp2
          go_roundw
          case rel => exact ⟨i + 1, y, by go_num, by omega, by omega, K3.out, K4.out.drewN _, by rw [← H5.out, out_go a b i x hi, ← K5.out, ins_stop a j y (Or.inl (by omega))]⟩
          case measure => simp [iv]; omega
    · go_wp2
      go_end0
      exact ⟨rfl, by have := H5.out; rw [Go.Sort.insOuter, if_neg hi] at this; unfold Go.Sort.insertionSort; rw [← this]; exact H4.out⟩
set_option maxHeartbeats 1000000 in
theorem reverse_any {w0 w : World} {g off m cap a b : Nat} {d : Array Int} (hO : Ou w0 w g off m d) (hab : a < b) (hb : b ≤ d.size) (hsz : d.size < 1000000) :
    Calls Tryz.prog 202 #[.slice (some ⟨g, off, none⟩) d.size cap, .int .i64 a, .int .i64 b] w fun e w' => ∃ d', e = .returned (.tuple #[]) ∧ PermIn a b d d' ∧ Ou w0 w' g off m d' := by
  obtain ⟨n, hn⟩ : ∃ n, d.size = n := ⟨_, rfl⟩
  rw [hn] at hb hsz ⊢
  have HO : Hid (Ou w0 w g off m d) := hO
  have HN : Hid (d.size = n) := hn
  clear hO hn
  go_enter Tryz.func202, Tryz.ntmps202
  go_wp2
  go_loopw [6, 7] (fun z y wr => ∃ (i j : Nat) (x : Array Int), z = .int .i64 i ∧ y = .int .i64 j ∧ a ≤ i ∧ j < b ∧ i ≤ b ∧ x.size = n ∧ Ou w0 wr g off m x ∧ PermIn a b d x) (fun z _ _ => b + 1 - (iv z).toNat)
  case atStart => exact ⟨a, b - 1, d, rfl, by go_num, by omega, by omega, by omega, HN.out, HO.out, Go.Sort.permIn_refl _ _ _⟩
  case round =>
    obtain ⟨i, j, x, rfl, rfl, h1, h2, h2', h3, h4, h5⟩ := hrel
    have H3 : Hid (x.size = n) := h3
    have H4 : Hid (Ou w0 wr g off m x) := h4
    have H5 : Hid (PermIn a b d x) := h5
    obtain ⟨G, hG⟩ : ∃ G : Nat → Int, ∀ t, G t = x[t]! := ⟨fun t => x[t]!, fun _ => rfl⟩
    have hc : ∀ t, t < n → wr.cell? ⟨g, off + t, none⟩ = some (.int .u64 (G t)) := fun t ht => by rw [hG]; exact h4.cell (by omega)
    have hf : ∀ t, t < n → wr.frozen? ⟨g, off + t, none⟩ = false := fun t ht => h4.fz _
    have HG : Hid (∀ t, G t = x[t]!) := hG
    clear h3 h4 h5 hG HO
    by_cases hij : i < j
    · go_wp2
      go_region
      all_goals go_wp2
      go_roundw
      case rel => exact ⟨i + 1, j - 1, swp x i j, by go_num, by go_num, by omega, by omega, by omega, by rw [Go.Sort.size_swp]; exact H3.out, H4.out.swap (by rw [H3.out]; omega) (by rw [H3.out]; omega) _ (HG.out _) (HG.out _), Go.Sort.permIn_trans _ _ _ _ _ H5.out (Go.Sort.swp_permIn _ a b i j (by omega) (by omega) (by omega) (by omega) (by rw [H3.out]; omega))⟩
      case measure => simp [iv]; omega
    · go_wp2
      go_end0
      exact ⟨_, rfl, H5.out, H4.out⟩
end Go.Proofs.YtkbpnkjjmipjfaaGreat.U
namespace Go.Proofs.YtkbpnkjjmipjfaaGreat.U
open Go.ChangeShapes Go.WideShapes Go.ChangeAt Go.RowKit
open Go.Sort (swp ltInt PermIn SortedIn)
set_option linter.unusedVariables false
set_option maxRecDepth 8192

theorem sift_eq (hi f r c : Nat) (d : Array Int) (h : 2 * r + 1 < hi) (hc : c = if (decide (2 * r + 1 + 1 < hi) && ltInt d[f + (2 * r + 1)]! d[f + (2 * r + 1) + 1]!) = true then 2 * r + 2 else 2 * r + 1) :
    Go.Sort.siftDown ltInt hi f r d = if ltInt d[f + r]! d[f + c]! = true then Go.Sort.siftDown ltInt hi f c (swp d (f + r) (f + c)) else d := by
  rw [Go.Sort.siftDown, dif_neg (by omega)]
  by_cases q : (decide (2 * r + 1 + 1 < hi) && ltInt d[f + (2 * r + 1)]! d[f + (2 * r + 1) + 1]!) = true
  · rw [if_pos q] at hc ⊢
    subst hc
    have q' : 2 * r + 2 < hi := by simp at q; omega
    cases z : ltInt d[f + r]! d[f + (2 * r + 2)]!
    · simp
    · simp [q']
  · rw [if_neg q] at hc ⊢
    subst hc
    cases z : ltInt d[f + r]! d[f + (2 * r + 1)]!
    · simp
    · simp
set_option maxHeartbeats 2000000 in
theorem sift_any {w0 w : World} {g off m cap lo hi f : Nat} {d : Array Int} (hO : Ou w0 w g off m d) (hlo : lo ≤ d.size) (hb : f + hi ≤ d.size) (hsz : d.size < 1000000) :
    Calls Tryz.prog 228 #[.slice (some ⟨g, off, none⟩) d.size cap, .int .i64 lo, .int .i64 hi, .int .i64 f] w fun e w' => e = .returned (.tuple #[]) ∧ Ou w0 w' g off m (Go.Sort.siftDown ltInt hi f lo d) ∧ (Go.Sort.siftDown ltInt hi f lo d).size = d.size := by
  obtain ⟨n, hn⟩ : ∃ n, d.size = n := ⟨_, rfl⟩
  rw [hn] at hb hsz hlo ⊢
  have HO : Hid (Ou w0 w g off m d) := hO
  have HN : Hid (d.size = n) := hn
  clear hO hn
  go_enter Tryz.func228, Tryz.ntmps228
  go_wp2
  go_loopw [8] (fun z wr => ∃ (r : Nat) (x : Array Int), z = .int .i64 r ∧ r ≤ n ∧ x.size = n ∧ Ou w0 wr g off m x ∧ Go.Sort.siftDown ltInt hi f r x = Go.Sort.siftDown ltInt hi f lo d) (fun z _ => n + 1 - (iv z).toNat)
  case atStart => exact ⟨lo, d, rfl, by omega, HN.out, HO.out, rfl⟩
  case round =>
    obtain ⟨r, x, rfl, h1, h3, h4, h5⟩ := hrel
    have H3 : Hid (x.size = n) := h3
    have H4 : Hid (Ou w0 wr g off m x) := h4
    have H5 : Hid (Go.Sort.siftDown ltInt hi f r x = Go.Sort.siftDown ltInt hi f lo d) := h5
    obtain ⟨G, hG⟩ : ∃ G : Nat → Int, ∀ t, G t = x[t]! := ⟨fun t => x[t]!, fun _ => rfl⟩
    have hc : ∀ t, t < n → wr.cell? ⟨g, off + t, none⟩ = some (.int .u64 (G t)) := fun t ht => by rw [hG]; exact h4.cell (by omega)
    have hf : ∀ t, t < n → wr.frozen? ⟨g, off + t, none⟩ = false := fun t ht => h4.fz _
    have HG : Hid (∀ t, G t = x[t]!) := hG
    clear h3 h4 h5 hG HO
    by_cases hr : 2 * r + 1 < hi
    · obtain ⟨c, hcc⟩ : ∃ c : Nat, 2 * r + 1 = c := ⟨_, rfl⟩
      obtain ⟨c1, hcc1⟩ : ∃ c1 : Nat, c + 1 = c1 := ⟨_, rfl⟩
      obtain ⟨p, hp⟩ : ∃ p : Nat, f + r = p := ⟨_, rfl⟩
      obtain ⟨q, hq⟩ : ∃ q : Nat, f + c = q := ⟨_, rfl⟩
      obtain ⟨q1, hq1⟩ : ∃ q1 : Nat, f + c1 = q1 := ⟨_, rfl⟩
      have HP : Hid (f + r = p) := hp
      have HQc : Hid (f + c = q) := hq
      have HQc1 : Hid (f + c1 = q1) := hq1
      have i1 : 2 * (r : Int) + 1 = (c : Int) := by omega
      have i2 : (c : Int) + 1 = (c1 : Int) := by omega
      have i3 : (f : Int) + (r : Int) = (p : Int) := by omega
      have i4 : (f : Int) + (c : Int) = (q : Int) := by omega
      have i5 : (f : Int) + (c1 : Int) = (q1 : Int) := by omega
      have i6 : (q : Int) + 1 = (q1 : Int) := by omega
      have hpn : p < n := by omega
      have hqn : q < n := by omega
      have hch : (c : Int) < (hi : Int) := by omega
      have EC : Hid (2 * r + 1 = c ∧ c + 1 = c1) := ⟨hcc, hcc1⟩
      have EQ : Hid (∀ b : Bool, (2 * r + 1 + 1 < hi ∧ ltInt (G q) (G q1) = true ↔ b = true) → (if b = true then c1 else c) = if (decide (2 * r + 1 + 1 < hi) && ltInt x[f + (2 * r + 1)]! x[f + (2 * r + 1) + 1]!) = true then 2 * r + 2 else 2 * r + 1) := fun b hb => by
        rw [hcc, show f + c + 1 = q1 by omega, hq, ← HG.out, ← HG.out]
        cases b
        · rw [if_neg (by simp), if_neg (fun z => by simp at z; simpa using hb.1 ⟨by omega, z.2⟩)]
        · rw [if_pos rfl, if_pos (by have := hb.2 rfl; simp [this.2]; omega)]
          omega
      clear hp hq hq1
      go_wp2
      by_cases h2 : c1 < hi
      · have h2I : (c1 : Int) < (hi : Int) := by omega
        have hq1n : q1 < n := by omega
        go_quiet ((go_at_call 204; refine Calls.quiet_of_same (less_any _ _ _)))
        cases hl : ltInt (G q) (G q1)
        · have HC : Hid (c = _) := EQ.out false (by simp [hl])
          go_wp2
          obtain ⟨W, hWe⟩ : ∃ W, wr.drewN nq = W := ⟨_, rfl⟩
          rw [hWe]
          have hc' : ∀ t, t < n → W.cell? ⟨g, off + t, none⟩ = some (.int .u64 (G t)) := fun t ht => by rw [← hWe]; exact hc t ht
          have hf' : ∀ t, t < n → W.frozen? ⟨g, off + t, none⟩ = false := fun t ht => by rw [← hWe]; exact hf t ht
          have H4W : Hid (Ou w0 W g off m x) := by rw [← hWe]; exact H4.out.drewN _
          clear hWe hc hf
          go_quiet ((go_at_call 204; refine Calls.quiet_of_same (less_any _ _ _)))
          cases hm : ltInt (G p) (G q)
          · go_wp2
            first | go_end0 | refine bodyPost_ret (results_none rfl _ _ _) rfl ?_
            refine ⟨rfl, ?_⟩
            rw [← H5.out, sift_eq hi f r c x hr HC.out, HP.out, HQc.out, if_neg (by rw [← HG.out, ← HG.out, hm]; simp)]
            exact ⟨H4W.out.drewN _, H3.out⟩
          · go_wp2
            go_region
            all_goals go_wp2
            go_roundw
            case rel => exact ⟨c, swp x p q, by go_num, by omega, by rw [Go.Sort.size_swp]; exact H3.out, H4W.out.swap (by rw [H3.out]; omega) (by rw [H3.out]; omega) _ (HG.out _) (HG.out _), by rw [← H5.out, sift_eq hi f r c x hr HC.out, HP.out, HQc.out, if_pos (by rw [← HG.out, ← HG.out, hm])]⟩
            case measure => simp [iv]; omega
        · have HC : Hid (c1 = _) := EQ.out true (by simp [hl]; omega)
          go_wp2
          obtain ⟨W, hWe⟩ : ∃ W, wr.drewN nq = W := ⟨_, rfl⟩
          rw [hWe]
          have hc' : ∀ t, t < n → W.cell? ⟨g, off + t, none⟩ = some (.int .u64 (G t)) := fun t ht => by rw [← hWe]; exact hc t ht
          have hf' : ∀ t, t < n → W.frozen? ⟨g, off + t, none⟩ = false := fun t ht => by rw [← hWe]; exact hf t ht
          have H4W : Hid (Ou w0 W g off m x) := by rw [← hWe]; exact H4.out.drewN _
          clear hWe hc hf
          go_quiet ((go_at_call 204; refine Calls.quiet_of_same (less_any _ _ _)))
          cases hm : ltInt (G p) (G q1)
          · go_wp2
            first | go_end0 | refine bodyPost_ret (results_none rfl _ _ _) rfl ?_
            refine ⟨rfl, ?_⟩
            rw [← H5.out, sift_eq hi f r c1 x hr HC.out, HP.out, HQc1.out, if_neg (by rw [← HG.out, ← HG.out, hm]; simp)]
            exact ⟨H4W.out.drewN _, H3.out⟩
          · go_wp2
            go_region
            all_goals go_wp2
            go_roundw
            case rel => exact ⟨c1, swp x p q1, by go_num, by omega, by rw [Go.Sort.size_swp]; exact H3.out, H4W.out.swap (by rw [H3.out]; omega) (by rw [H3.out]; omega) _ (HG.out _) (HG.out _), by rw [← H5.out, sift_eq hi f r c1 x hr HC.out, HP.out, HQc1.out, if_pos (by rw [← HG.out, ← HG.out, hm])]⟩
            case measure => simp [iv]; omega
      · have h2I : ¬ (c1 : Int) < (hi : Int) := by omega
        have HC : Hid (c = _) := EQ.out false (by simp; omega)
        go_quiet (fail)
        go_wp2
        obtain ⟨W, hWe⟩ : ∃ W, wr.drewN nq = W := ⟨_, rfl⟩
        rw [hWe]
        have hc' : ∀ t, t < n → W.cell? ⟨g, off + t, none⟩ = some (.int .u64 (G t)) := fun t ht => by rw [← hWe]; exact hc t ht
        have hf' : ∀ t, t < n → W.frozen? ⟨g, off + t, none⟩ = false := fun t ht => by rw [← hWe]; exact hf t ht
        have H4W : Hid (Ou w0 W g off m x) := by rw [← hWe]; exact H4.out.drewN _
        clear hWe hc hf
        go_quiet ((go_at_call 204; refine Calls.quiet_of_same (less_any _ _ _)))
        cases hm : ltInt (G p) (G q)
        · go_wp2
          first | go_end0 | refine bodyPost_ret (results_none rfl _ _ _) rfl ?_
          refine ⟨rfl, ?_⟩
          rw [← H5.out, sift_eq hi f r c x hr HC.out, HP.out, HQc.out, if_neg (by rw [← HG.out, ← HG.out, hm]; simp)]
          exact ⟨H4W.out.drewN _, H3.out⟩
        · go_wp2
          go_region
          all_goals go_wp2
          go_roundw
          case rel => exact ⟨c, swp x p q, by go_num, by omega, by rw [Go.Sort.size_swp]; exact H3.out, H4W.out.swap (by rw [H3.out]; omega) (by rw [H3.out]; omega) _ (HG.out _) (HG.out _), by rw [← H5.out, sift_eq hi f r c x hr HC.out, HP.out, HQc.out, if_pos (by rw [← HG.out, ← HG.out, hm])]⟩
          case measure => simp [iv]; omega
    · go_wp2
      first | go_end0 | refine bodyPost_ret (results_none rfl _ _ _) rfl ?_
      refine ⟨rfl, ?_⟩
      rw [← H5.out, Go.Sort.siftDown, dif_pos (by omega)]
      exact ⟨H4.out, H3.out⟩
set_option maxHeartbeats 2000000 in
theorem heap_any {w0 w : World} {g off m cap a b : Nat} {d : Array Int} (hO : Ou w0 w g off m d) (hab : a < b) (hb : b ≤ d.size) (hsz : d.size < 1000000) :
    Calls Tryz.prog 199 #[.slice (some ⟨g, off, none⟩) d.size cap, .int .i64 a, .int .i64 b] w fun e w' => e = .returned (.tuple #[]) ∧ Ou w0 w' g off m (Go.Sort.heapSort ltInt d a b) := by
  obtain ⟨n, hn⟩ : ∃ n, d.size = n := ⟨_, rfl⟩
  obtain ⟨hi, hhi⟩ : ∃ hi, b - a = hi := ⟨_, rfl⟩
  unfold Go.Sort.heapSort
  rw [hn] at hb hsz ⊢
  rw [hhi]
  obtain ⟨k0, hk0⟩ : ∃ k0, (hi - 1) / 2 = k0 := ⟨_, rfl⟩
  rw [hk0]
  have CS : Hid (∀ (W : World) (x : Array Int) (lo h : Nat), Ou w0 W g off m x → x.size = n → lo ≤ n → a + h ≤ n → Calls Tryz.prog 228 #[.slice (some ⟨g, off, none⟩) n cap, .int .i64 lo, .int .i64 h, .int .i64 a] W fun e w' => e = .returned (.tuple #[]) ∧ Ou w0 w' g off m (Go.Sort.siftDown ltInt h a lo x) ∧ (Go.Sort.siftDown ltInt h a lo x).size = n) := fun W x lo h h1 h2 h3 h4 => by
    have := sift_any (cap := cap) (lo := lo) (hi := h) (f := a) h1 (by omega) (by omega) (by omega)
    rw [h2] at this
    exact this
  have HO : Hid (Ou w0 w g off m d) := hO
  have HN : Hid (d.size = n) := hn
  clear hO hn
  have hi1 : (b : Int) - (a : Int) = (hi : Int) := by omega
  have hi2 : ((hi : Int) - 1).tdiv 2 = (k0 : Int) := by rw [Int.tdiv_eq_ediv_of_nonneg (by omega)]; omega
  have hk0n : k0 < n := by omega
  have hhn : hi ≤ n := by omega
  have han : a + hi ≤ n := by omega
  obtain ⟨R, hR⟩ : ∃ R, Go.Sort.heapBuild ltInt hi a (k0 + 1) d = R := ⟨_, rfl⟩
  rw [hR]
  have HR : Hid (Go.Sort.heapBuild ltInt hi a (k0 + 1) d = R) := hR
  clear hR
  go_enter Tryz.func199, Tryz.ntmps199
  go_wp2
  go_loopw [9] (fun z wr => ∃ (v : Int) (k : Nat) (x : Array Int), z = .int .i64 v ∧ v = (k : Int) - 1 ∧ k ≤ k0 + 1 ∧ x.size = n ∧ Ou w0 wr g off m x ∧ Go.Sort.heapBuild ltInt hi a k x = R) (fun z _ => (iv z + 1).toNat)
  case atStart => exact ⟨k0, k0 + 1, d, rfl, by omega, by omega, HN.out, HO.out, HR.out⟩
  case round =>
    clear HO HR
    obtain ⟨v, k, x, rfl, h1, h2, h3, h4, h5⟩ := hrel
    have H3 : Hid (x.size = n) := h3
    have H4 : Hid (Ou w0 wr g off m x) := h4
    have H5 : Hid (Go.Sort.heapBuild ltInt hi a k x = R) := h5
    clear h3 h4 h5
    cases k with
    | succ j =>
      obtain rfl : v = (j : Int) := by omega
      clear h1
      have CS1 : Hid (Calls _ _ _ _ _) := CS.out wr x j hi H4.out H3.out (by omega) han
      go_wp2_with fail
      refine CS1.out.mono ?_
      rintro e w2 ⟨rfl, q1, q2⟩
      have Q1 : Hid (Ou w0 w2 g off m (Go.Sort.siftDown ltInt hi a j x)) := q1
      have Q2 : Hid ((Go.Sort.siftDown ltInt hi a j x).size = n) := q2
      clear q1 q2 CS1
      go_wp2
      go_roundw
      case rel => exact ⟨(j : Int) - 1, j, _, by go_num, rfl, by omega, Q2.out, Q1.out, by rw [← H5.out]; rfl⟩
      case measure => simp [iv]
    | zero =>
      obtain rfl : v = -1 := by omega
      clear h1
      have E5 : Hid (x = R) := H5.out
      go_wp2
      go_loopw [10] (fun z wr => ∃ (v : Int) (k : Nat) (x : Array Int), z = .int .i64 v ∧ v = (k : Int) - 1 ∧ k ≤ hi ∧ x.size = n ∧ Ou w0 wr g off m x ∧ Go.Sort.heapPop ltInt a k x = Go.Sort.heapPop ltInt a hi R) (fun z _ => (iv z + 1).toNat)
      case atStart => exact ⟨(hi : Int) - 1, hi, x, by go_num, rfl, by omega, H3.out, H4.out, by rw [E5.out]⟩
      case round =>
        clear H4 E5 H5 H3
        obtain ⟨v, k, x, rfl, h1, h2, h3, h4, h5⟩ := hrel
        have H3 : Hid (x.size = n) := h3
        have H4 : Hid (Ou w0 wr g off m x) := h4
        have H5 : Hid (Go.Sort.heapPop ltInt a k x = Go.Sort.heapPop ltInt a hi R) := h5
        obtain ⟨G, hG⟩ : ∃ G : Nat → Int, ∀ t, G t = x[t]! := ⟨fun t => x[t]!, fun _ => rfl⟩
        have hc : ∀ t, t < n → wr.cell? ⟨g, off + t, none⟩ = some (.int .u64 (G t)) := fun t ht => by rw [hG]; exact h4.cell (by omega)
        have hf : ∀ t, t < n → wr.frozen? ⟨g, off + t, none⟩ = false := fun t ht => h4.fz _
        have HG : Hid (∀ t, G t = x[t]!) := hG
        clear h3 h4 h5 hG
        cases k with
        | succ j =>
          obtain rfl : v = (j : Int) := by omega
          clear h1
          obtain ⟨p, hp⟩ : ∃ p : Nat, a + j = p := ⟨_, rfl⟩
          have HP : Hid (a + j = p) := hp
          have i3 : (a : Int) + (j : Int) = (p : Int) := by omega
          have hpn : p < n := by omega
          have haI : a < n := by omega
          clear hp
          by_cases hpa : a = p
          · subst hpa
            go_wp2
            go_region
            all_goals go_wp2_with fail
            refine (CS.out _ (swp x a a) 0 j (H4.out.swap (by rw [H3.out]; omega) (by rw [H3.out]; omega) _ (HG.out _) (HG.out _)) (by rw [Go.Sort.size_swp]; exact H3.out) (by omega) (by omega)).mono ?_
            rintro e w2 ⟨rfl, q1, q2⟩
            have Q1 : Hid (Ou w0 w2 g off m (Go.Sort.siftDown ltInt j a 0 (swp x a a))) := q1
            have Q2 : Hid ((Go.Sort.siftDown ltInt j a 0 (swp x a a)).size = n) := q2
            clear q1 q2 hc hf
            go_wp2
            go_roundw
            case rel => exact ⟨(j : Int) - 1, j, _, by go_num, rfl, by omega, Q2.out, Q1.out, by
              have hz := HP.out
              rw [← H5.out, Go.Sort.heapPop, hz]⟩
            case measure => simp [iv]
          · have hpa2 : a < p := by omega
            go_wp2
            go_region
            all_goals go_wp2_with fail
            refine (CS.out _ (swp x a p) 0 j (H4.out.swap (by rw [H3.out]; omega) (by rw [H3.out]; omega) _ (HG.out _) (HG.out _)) (by rw [Go.Sort.size_swp]; exact H3.out) (by omega) (by omega)).mono ?_
            rintro e w2 ⟨rfl, q1, q2⟩
            have Q1 : Hid (Ou w0 w2 g off m (Go.Sort.siftDown ltInt j a 0 (swp x a p))) := q1
            have Q2 : Hid ((Go.Sort.siftDown ltInt j a 0 (swp x a p)).size = n) := q2
            clear q1 q2 hc hf
            go_wp2
            go_roundw
            case rel => exact ⟨(j : Int) - 1, j, _, by go_num, rfl, by omega, Q2.out, Q1.out, by
              have hz := HP.out
              rw [← H5.out, Go.Sort.heapPop, hz]⟩
            case measure => simp [iv]
        | zero =>
          obtain rfl : v = -1 := by omega
          clear h1
          go_wp2
          go_end0
          refine ⟨rfl, ?_⟩
          rw [← H5.out]
          exact H4.out
end Go.Proofs.YtkbpnkjjmipjfaaGreat.U
