/- The blocks that a statement notes as taken: pairs of a place and an order; Within; no condition but the ranges that each theorem names. -/
import Derived.Test.YtdlkmeopiilmdaaEq
namespace Go.Proofs.Ytdlkmeopiilmdaa
open Go.ChangeShapes Go.WideShapes Go.ChangeAt Go.RowKit
set_option linter.unusedVariables false

theorem within_eq (k n : Int) (hn : 0 < n) : (if k.tmod n < 0 then k.tmod n + n else k.tmod n) = k % n := by
  rw [Int.tmod_eq_emod]
  have h1 := Int.emod_nonneg k (show n ≠ 0 by omega)
  have h2 := Int.emod_lt_of_pos k hn
  have e : (n.natAbs : Int) = n := Int.natAbs_of_nonneg (by omega)
  by_cases hq : 0 ≤ k ∨ n ∣ k
  · simp only [hq, if_true]
    rw [if_neg (by omega)]
    omega
  · simp only [hq, if_false, e]
    rw [if_pos (by omega)]
    omega
theorem within_any (k n : Int) (h0 : 0 < n) (h1 : n < 4611686018427387904) (hk0 : -9223372036854775808 ≤ k) (hk1 : k < 9223372036854775808) (w : World) :
    Calls Try.prog 10 #[.int .i64 k, .int .i64 n] w fun e w' => e = .returned (.int .i64 (k % n)) ∧ w' = w := by
  have HE : Hid _ := within_eq k n h0
  have h2 : -n < k.tmod n := Int.lt_tmod_of_pos k h0
  have h3 : k.tmod n < n := Int.tmod_lt_of_pos k h0
  by_cases hz : k.tmod n < 0
  · rw [if_pos hz] at HE
    go_enter Try.func10, Try.ntmps10
    go_wp2
    go_ret
    exact ⟨ret_int HE.out, rfl⟩
  · rw [if_neg hz] at HE
    go_enter Try.func10, Try.ntmps10
    go_wp2
    go_ret
    exact ⟨ret_int HE.out, rfl⟩
/-! ### Pairs -/
def pc (x : Int × Int) : List Value := [.int .i64 x.1, .int .i64 x.2]
def hv (h : List (Int × Int)) : List Value := h.flatMap pc
theorem hv_len : ∀ (h : List (Int × Int)), (hv h).length = h.length * 2
  | [] => rfl
  | x :: h => by
    have := hv_len h
    simp [hv, pc] at *
    omega
theorem hv_get : ∀ (h : List (Int × Int)) (k : Nat) (x : Int × Int), h[k]? = some x → (hv h)[k * 2]? = some (.int .i64 x.1) ∧ (hv h)[k * 2 + 1]? = some (.int .i64 x.2)
  | [], k, x, e => by simp at e
  | y :: h, 0, x, e => by
    simp at e
    subst e
    exact ⟨rfl, rfl⟩
  | y :: h, k + 1, x, e => by
    simp at e
    have := hv_get h k x e
    rw [show (k + 1) * 2 = (k * 2) + 1 + 1 by omega]
    exact this
theorem hv_app (h : List (Int × Int)) (x : Int × Int) : hv (h ++ [x]) = hv h ++ pc x := by simp [hv]
theorem pc_one (x : Int × Int) : ∀ v ∈ pc x, v.oneCell' = true := by
  intro v hv
  simp [pc] at hv
  rcases hv with rfl | rfl <;> rfl
def Hd (w : World) (v : Value) (h : List (Int × Int)) : Prop := w.ownsRow 0 38 2 v h.length (hv h)
theorem Hd.nil (w : World) : Hd w (.slice none 0 0) [] := World.ownsRow_nil w 0 38 2
theorem Hd.len {w : World} {v : Value} {h : List (Int × Int)} (H : Hd w v h) : ∃ a cap, v = .slice a h.length cap := by
  rcases H.2 with ⟨e, e2⟩ | ⟨g, cap, cur, e, _⟩
  · rw [e2]; exact ⟨none, 0, e⟩
  · exact ⟨_, _, e⟩
theorem Hd.lt {w : World} {v : Value} {h : List (Int × Int)} (H : Hd w v h) : ∀ g, v.ownBlock = some g → g < w.heap.size := by
  intro g hg
  rcases H.2 with ⟨e, _⟩ | ⟨g', cap, cur, e, _, hb, _⟩
  · rw [e] at hg; cases hg
  · rw [e] at hg
    cases hg
    exact (Array.getElem?_eq_some_iff.1 hb).1
theorem Hd.of_eq {w w' : World} {v : Value} {h : List (Int × Int)} (H : Hd w v h) (e : ∀ g, v.ownBlock = some g → w'.heap[g]? = w.heap[g]?) : Hd w' v h := by
  refine ⟨H.1, ?_⟩
  rcases H.2 with h1 | ⟨g, cap, cur, h1, h2, h3, h4⟩
  · exact Or.inl h1
  · subst h1
    exact Or.inr ⟨g, cap, cur, rfl, h2, (e g rfl).trans h3, h4⟩
theorem Hd.cell {w : World} {v : Value} {h : List (Int × Int)} (H : Hd w v h) {k : Nat} {x : Int × Int} (hk : h[k]? = some x) : ∃ g cap, v = .slice (some ⟨g, 0, none⟩) h.length cap ∧ g < w.heap.size ∧ w.cell? ⟨g, k * 2, none⟩ = some (.int .i64 x.1) ∧ w.cell? ⟨g, k * 2 + 1, none⟩ = some (.int .i64 x.2) := by
  have hlt := (List.getElem?_eq_some_iff.1 hk).1
  rcases H.2 with ⟨_, e⟩ | ⟨g, cap, cur, e, _, hb, h1, h2, h3, h4⟩
  · omega
  · have hB : Blk w g 38 cur.toList := by unfold Blk; simpa using hb
    have hg := hv_get h k x hk
    refine ⟨g, cap, e, hB.lt, ?_, ?_⟩
    · rw [hB.cell, ← List.getElem?_take_of_lt (show k * 2 < h.length * 2 by omega), h4]
      exact hg.1
    · rw [hB.cell, ← List.getElem?_take_of_lt (show k * 2 + 1 < h.length * 2 by omega), h4]
      exact hg.2
theorem Try.infoH : (Try.prog.info? 38).map (fun i => (i.zero, i.size, i.bytes)) = some (some (.agg #[.int .i64 0, .int .i64 0]), 2, 16) := by kernel_rfl
theorem news_pair (w : World) (x y : Int) : ∀ k u, (pc (x, y))[k]? = some u → (w.alloc (.cells #[.int .i64 x, .int .i64 y] 38)).cell? ((⟨w.heap.size, 0, none⟩ : Addr).add k) = some u := fun k u hk => by
  rw [Go.WideShapes.add_plain, Nat.zero_add]
  exact ((blk_new w [.int .i64 x, .int .i64 y] 38).cell k).trans hk
/-- What is left without one. -/
def wo (h : List (Int × Int)) (k m : Nat) : List (Int × Int) := (h.take m).eraseIdx k
theorem wo_same {h : List (Int × Int)} {k m : Nat} (hm : m < h.length) (e : m = k) : wo h k (m + 1) = wo h k m := by
  subst e
  unfold wo
  rw [List.take_add_one, List.getElem?_eq_getElem hm, List.eraseIdx_append_of_length_le (by simp; omega)]
  simp
  rw [Nat.min_eq_left (by omega), Nat.sub_self]
  simp
  exact (List.eraseIdx_of_length_le (by simp; omega)).symm
theorem wo_more {h : List (Int × Int)} {k m : Nat} {x : Int × Int} (hx : h[m]? = some x) (e : m ≠ k) : wo h k (m + 1) = wo h k m ++ [x] := by
  have hm := (List.getElem?_eq_some_iff.1 hx).1
  unfold wo
  rw [List.take_add_one, hx]
  by_cases h1 : k < m
  · rw [List.eraseIdx_append_of_lt_length (by simp; omega)]
    rfl
  · rw [List.eraseIdx_append_of_length_le (by simp; omega), List.eraseIdx_of_length_le (l := h.take m) (by simp; omega), List.eraseIdx_of_length_le (by simp; omega)]
    rfl
set_option maxHeartbeats 1000000 in
theorem without_ok {w : World} {v : Value} {h : List (Int × Int)} (H : Hd w v h) (hl : h.length ≤ 1000) (k : Nat) :
    Calls Try.prog 24 #[v, .int .i64 k] w fun e w' => ∃ v', e = .returned v' ∧ Hd w' v' (h.eraseIdx k) ∧ w.grownBy w' none ∧ ∀ c, v'.ownBlock = some c → w.heap.size ≤ c := by
  obtain ⟨a, cap, rfl⟩ := H.len
  have HH : Hid (Hd w (.slice a h.length cap) h) := H
  clear H
  obtain ⟨n, hn⟩ : ∃ n, h.length = n := ⟨_, rfl⟩
  have HN : Hid (h.length = n) := hn
  rw [hn] at HH hl ⊢
  clear hn
  obtain ⟨i0, hi0, hz0, hz1, hz2⟩ := info_parts Try.infoH
  go_enter Try.func24, Try.ntmps24
  go_wp2
  go_loopw [5, 6] (fun y z wr => ∃ m : Nat, m ≤ n ∧ z = .int .i64 m ∧ (∃ u, u = y ∧ Hd wr u (wo h k m) ∧ ∀ c, u.ownBlock = some c → w.heap.size ≤ c) ∧ w.grownBy wr none) (fun _ z _ => n - (iv z).toNat)
  case atStart => exact ⟨0, by omega, rfl, ⟨_, rfl, by simpa [wo] using Hd.nil _, fun c hc => by cases hc⟩, World.grownBy.refl _ _⟩
  case round =>
    obtain ⟨m, hm, rfl, ⟨u, rfl, hu, hnew⟩, hg⟩ := hrel
    have HU : Hid (Hd wr u (wo h k m)) := hu
    have HW : Hid (∀ c, u.ownBlock = some c → w.heap.size ≤ c) := hnew
    have HG : Hid (w.grownBy wr none) := hg
    clear hu hnew hg
    by_cases hlt : m < n
    · have hltI : (m : Int) < (n : Int) := by omega
      by_cases e : m = k
      · have HS : Hid (wo h k (m + 1) = wo h k m) := wo_same (by rw [HN.out]; exact hlt) e
        subst e
        go_wp2
        exact ⟨⟨m + 1, by omega, by go_num, ⟨_, rfl, by rw [HS.out]; exact HU.out, HW.out⟩, HG.out⟩, by simp [iv]; omega⟩
      · have eb : ((m : Int) != (k : Int)) = true := by rw [bne_iff_ne]; omega
        obtain ⟨x, hx⟩ : ∃ x, h[m]? = some x := ⟨_, List.getElem?_eq_getElem (by rw [HN.out]; exact hlt)⟩
        have HS : Hid (wo h k (m + 1) = wo h k m ++ [x]) := wo_more hx e
        obtain ⟨g1, k1, e1, q1, d1, d2⟩ := HH.out.cell hx
        rw [HN.out] at e1
        cases e1
        have p1 := (HG.out.cell_far ⟨g1, m * 2, none⟩ q1 (by simp)).trans d1
        have p2 := (HG.out.cell_far ⟨g1, m * 2 + 1, none⟩ q1 (by simp)).trans d2
        have hlw : (wo h k m).length ≤ 1000 := by
          unfold wo
          have := List.length_eraseIdx_le (h.take m) k
          simp at this
          omega
        obtain ⟨x1, x2⟩ := x
        have HUW : Hid (∀ W, Below wr.heap.size wr W → W.ownsRow 0 38 2 u (wo h k m).length (hv (wo h k m))) := fun W hW => HU.out.of_eq (fun g hg => hW.block g (HU.out.lt g hg))
        clear d1 d2 hx
        go_wp2_with (at_builtin; refine wpList_append_lies _ rfl (.tmp 16) (.tmp 21) 32 rfl 0 38 i0 _ 2 16 Try.underlying32 hi0 hz0 hz1 hz2 rfl (by decide) u (wo h k m).length (hv (wo h k m)) rfl (HUW.out _ ((Below.refl _ wr).alloc (Nat.le_refl _) _)) ⟨wr.heap.size, 0, none⟩ 1 1 (pc (x1, x2)) rfl rfl (news_pair wr x1 x2) (pc_one _) (by omega) (by unfold maxLen; omega) (by omega) (Nat.zero_le _) (wr.heap.size + 1) (by simp) ?_; intro g3 k3 w3 o3 gr3 at3 lt3)
        have hn3 : Hd w3 (.slice (some ⟨g3, 0, none⟩) ((wo h k m).length + 1) k3) (wo h k (m + 1)) := by
          unfold Hd
          rw [HS.out, hv_app, List.length_append]
          exact o3
        have hw3 : ∀ c, (Value.slice (some ⟨g3, 0, none⟩) ((wo h k m).length + 1) k3).ownBlock = some c → w.heap.size ≤ c := fun c hc => by
          obtain rfl : g3 = c := by simpa [Value.ownBlock] using hc
          rcases at3 with z | z
          · exact HW.out _ z
          · have := HG.out.size; omega
        have hg3 : w.grownBy w3 none := by
          have q := below_of ((World.grownBy_alloc wr _ _).trans gr3) w.heap.size HG.out.size (fun c hc => HW.out c hc)
          exact ⟨q.os.trans HG.out.os, q.tape.trans HG.out.tape, q.output.trans HG.out.output, Nat.le_trans HG.out.size q.size, fun i hi hn => (q.block i hi).trans (HG.out.block i hi hn)⟩
        exact ⟨⟨m + 1, by omega, by go_num, ⟨_, rfl, hn3, hw3⟩, hg3⟩, by simp [iv]; omega⟩
    · obtain rfl : m = n := by omega
      have HF : Hid (Hd wr u (h.eraseIdx k)) := by
        have := HU.out
        unfold wo at this
        rwa [List.take_of_length_le (by rw [HN.out]; exact Nat.le_refl _)] at this
      go_wp2
      go_ret
      exact ⟨u, rfl, HF.out, HG.out, HW.out⟩
end Go.Proofs.Ytdlkmeopiilmdaa
