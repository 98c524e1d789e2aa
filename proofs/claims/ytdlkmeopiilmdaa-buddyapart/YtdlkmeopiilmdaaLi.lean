/- What Lists of package buddy gives back: each list, in new memory; no condition but the ranges that each theorem names. -/
import Derived.Test.YtdlkmeopiilmdaaFl
namespace Go.Proofs.Ytdlkmeopiilmdaa
open Go.ChangeShapes Go.WideShapes Go.ChangeAt Go.RowKit
set_option linter.unusedVariables false

/-- Seven lists in memory from B on: the row's slice v, the lists' numbers M. -/
def Ls (B : Nat) (w : World) (v : Value) (M : Nat → List Int) : Prop := ∃ g cap F V, v = .slice (some ⟨g, 0, none⟩) 7 cap ∧ Rws w F g 7 M V ∧ ∀ b, F b → B ≤ b
/-- The first j of them. -/
structure Lst (B : Nat) (w : World) (v : Value) (j : Nat) (V : Nat → Value) (L : Nat → List Nat) : Prop where
  row : w.ownsRow 0 44 1 v j ((List.range j).map V)
  new : ∀ g, v.ownBlock = some g → B ≤ g
  own : ∀ i, i < j → Own w (V i) (ints (L i))
  far : ∀ i g, i < j → (V i).ownBlock = some g → B ≤ g ∧ v.ownBlock ≠ some g
  inj : ∀ i k g, i < j → k < j → i ≠ k → (V i).ownBlock = some g → (V k).ownBlock ≠ some g
theorem row_lt {w : World} {v : Value} {j : Nat} {xs : List Value} (h : w.ownsRow 0 44 1 v j xs) : ∀ g, v.ownBlock = some g → g < w.heap.size := by
  intro g hg
  rcases h.2 with ⟨e, _⟩ | ⟨g', cap, cur, e, _, hb, _⟩
  · rw [e] at hg; cases hg
  · rw [e] at hg
    cases hg
    exact (Array.getElem?_eq_some_iff.1 hb).1
theorem Lst.step {B : Nat} {w w2 w3 : World} {v : Value} {j : Nat} {V : Nat → Value} {L : Nat → List Nat} (h : Lst B w v j V L) (hB : B ≤ w.heap.size) (x : Value) (G2 : w.grownBy w2 none) (ho : Own w2 x (ints (L j))) (hx : ∀ c, x.ownBlock = some c → w.heap.size ≤ c)
    (g1 k1 : Nat) (G3 : w2.grownBy w3 v.ownBlock) (o3 : w3.ownsRow 0 44 1 (.slice (some ⟨g1, 0, none⟩) (j + 1) k1) (j + 1) ((List.range j).map V ++ [x])) (at3 : v.ownBlock = some g1 ∨ w2.heap.size ≤ g1) :
    Lst B w3 (.slice (some ⟨g1, 0, none⟩) (j + 1) k1) (j + 1) (put V j x) L := by
  have s2 := G2.size
  have hvlt := row_lt h.row
  have hV : ∀ i g, i < j → (V i).ownBlock = some g → g < w.heap.size := fun i g hi hg => (h.own i hi).lt g hg
  have hxv : ∀ c, x.ownBlock = some c → v.ownBlock ≠ some c := fun c hc e => by have := hvlt c e; have := hx c hc; omega
  refine ⟨?_, ?_, ?_, ?_, ?_⟩
  · have e : (List.range (j + 1)).map (put V j x) = (List.range j).map V ++ [x] := by
      rw [List.range_succ, List.map_append, List.map_singleton, put_same]
      congr 1
      apply List.map_congr_left
      intro i hi
      rw [put_other _ _ _ _ (by have := List.mem_range.1 hi; omega)]
    rw [e]
    exact o3
  · intro g hg
    obtain rfl : g1 = g := by simpa [Value.ownBlock] using hg
    rcases at3 with q | q
    · exact h.new _ q
    · omega
  · intro i hi
    by_cases e : i = j
    · subst e
      rw [put_same]
      exact ho.of_eq (fun c hc => G3.block c (ho.lt c hc) (fun e => hxv c hc e.symm))
    · rw [put_other _ _ _ _ e]
      have hi' : i < j := by omega
      refine ((h.own i hi').of_eq (fun c hc => G2.block c (hV i c hi' hc) (by simp))).of_eq (fun c hc => G3.block c (by have := hV i c hi' hc; omega) (fun e => (h.far i c hi' hc).2 e.symm))
  · intro i g hi hg
    by_cases e : i = j
    · subst e
      rw [put_same] at hg
      refine ⟨Nat.le_trans hB (hx g hg), ?_⟩
      intro q
      obtain rfl : g1 = g := by simpa [Value.ownBlock] using q
      rcases at3 with q | q
      · exact hxv _ hg q
      · have := ho.lt _ hg; omega
    · rw [put_other _ _ _ _ e] at hg
      have hi' : i < j := by omega
      refine ⟨(h.far i g hi' hg).1, ?_⟩
      intro q
      obtain rfl : g1 = g := by simpa [Value.ownBlock] using q
      rcases at3 with q | q
      · exact (h.far i _ hi' hg).2 q
      · have := hV i _ hi' hg; omega
  · intro i k g hi hk hne hg hg'
    by_cases e : i = j
    · subst e
      rw [put_same] at hg
      rw [put_other _ _ _ _ (by omega)] at hg'
      have := hV k g (by omega) hg'
      have := hx g hg
      omega
    · rw [put_other _ _ _ _ e] at hg
      by_cases e2 : k = j
      · subst e2
        rw [put_same] at hg'
        have := hV i g (by omega) hg
        have := hx g hg'
        omega
      · rw [put_other _ _ _ _ e2] at hg'
        exact h.inj i k g (by omega) (by omega) hne hg hg'
theorem Lst.whole {B : Nat} {w : World} {v : Value} {V : Nat → Value} {L : Nat → List Nat} (h : Lst B w v 7 V L) : Ls B w v (fun i => ints (L i)) := by
  rcases h.row.2 with ⟨_, e⟩ | ⟨g, cap, cur, rfl, _, hb, c1, c2, c3, c4⟩
  · omega
  · have hblk : Blk w g 44 cur.toList := by unfold Blk; simpa using hb
    refine ⟨g, cap, fun b => b = g ∨ ∃ i, i < 7 ∧ (V i).ownBlock = some b, V, rfl, ⟨?_, Or.inl rfl, fun i b hi hb => Or.inr ⟨i, hi, hb⟩, ?_, fun i _ => hblk.frozen i, h.own, ?_, h.inj⟩, ?_⟩
    · rintro b (rfl | ⟨i, hi, hb⟩)
      · exact hblk.lt
      · exact (h.own i hi).lt b hb
    · intro i hi
      rw [hblk.cell i, ← List.getElem?_take_of_lt (show i < 7 * 1 by omega), c4]
      simp [hi]
    · intro i hi q
      exact (h.far i g hi q).2 rfl
    · rintro b (rfl | ⟨i, hi, hb⟩)
      · exact h.new _ rfl
      · exact (h.far i b hi hb).1
theorem one_slice (a : Option Addr) (n c : Nat) : ∀ u ∈ [Value.slice a n c], u.oneCell' = true := by
  intro u hu
  simp at hu
  subst hu
  rfl
theorem news_one (w : World) (x : Value) (ty : TypeId) : ∀ k u, [x][k]? = some u → (w.alloc (.cells #[x] ty)).cell? ((⟨w.heap.size, 0, none⟩ : Addr).add k) = some u := fun k u hk => by
  rw [Go.WideShapes.add_plain, Nat.zero_add]
  exact ((blk_new w [x] ty).cell k).trans hk
theorem row_kept {w w' : World} {v : Value} {j : Nat} {xs : List Value} (h : w.ownsRow 0 44 1 v j xs) (hs : w.heap.size ≤ w'.heap.size) (e : ∀ k, k < w.heap.size → w'.heap[k]? = w.heap[k]?) : w'.ownsRow 0 44 1 v j xs := by
  refine ⟨h.1, ?_⟩
  rcases h.2 with q | ⟨g, cap, cur, q1, q2, q3, q4⟩
  · exact Or.inl q
  · exact Or.inr ⟨g, cap, cur, q1, q2, (e g ((Array.getElem?_eq_some_iff.1 q3).1)).trans q3, q4⟩
set_option maxHeartbeats 1000000 in
theorem Lists_any {w : World} {G : Nat → Prop} {p : Nat} {L : Nat → List Nat} {tk : Nat → Option Nat} (h : Bu w G p L tk) (hl : ∀ i, i < 7 → (L i).length ≤ 4096) : Calls Try.prog 25 #[.pointer (some ⟨p, 0, none⟩)] w fun e w' => ∃ v, e = .returned v ∧ Ls w.heap.size w' v (fun i => ints (L i)) ∧ w.grownBy w' none := by
  have C1 : Hid (Calls _ _ _ _ _) := made_any h
  obtain ⟨a, c, hc, ho⟩ := h.cells
  have d0 := hc 0 (by omega)
  have d1 := hc 1 (by omega)
  have d2 := hc 2 (by omega)
  have d3 := hc 3 (by omega)
  have d4 := hc 4 (by omega)
  have d5 := hc 5 (by omega)
  have d6 := hc 6 (by omega)
  have HL : Hid (∀ i, i < 7 → (L i).length ≤ 4096) := hl
  obtain ⟨n, hn⟩ : ∃ n : Nat → Nat, n = fun i => (L i).length := ⟨_, rfl⟩
  have e : ∀ i, (L i).length = n i := fun i => by rw [hn]
  have HN : Hid (∀ i, (L i).length = n i) := e
  rw [e] at d0 d1 d2 d3 d4 d5 d6
  have HO : Hid (∀ i, i < 7 → Own w (.slice (a i) (n i) (c i)) (ints (L i))) := fun i hi => by have := ho i hi; rwa [e i] at this
  clear e hn hc hl h ho
  go_enter Try.func25, Try.ntmps25
  go_wp2_with (go_at_call 27; refine C1.out.mono ?_; rintro e w' ⟨rfl, h⟩; obtain rfl := h.symm)
  go_loopw [3, 13] (fun y z wr => ∃ j : Nat, j ≤ 7 ∧ z = .int .i64 j ∧ (∃ v, v = y ∧ ∃ V, Lst w.heap.size wr v j V L) ∧ w.grownBy wr none) (fun _ z _ => (7 - iv z).toNat)
  case atStart => exact ⟨0, by omega, rfl, ⟨_, rfl, fun _ => .slice none 0 0, World.ownsRow_nil _ _ _ _, (fun g hg => by cases hg), (fun i hi => by omega), (fun i g hi => by omega), (fun i k g hi => by omega)⟩, World.grownBy.refl _ _⟩
  case round =>
    obtain ⟨j, hj, rfl, ⟨y, rfl, V, hV⟩, hG⟩ := hrel
    by_cases hj7 : j < 7
    · skip
      have HV : Hid (Lst w.heap.size wr y j V L) := hV
      have HG : Hid (w.grownBy wr none) := hG
      clear hV hG
      have hix : (Instr.index 54 (.agg #[.slice (a 0) (n 0) (c 0), .slice (a 1) (n 1) (c 1), .slice (a 2) (n 2) (c 2), .slice (a 3) (n 3) (c 3), .slice (a 4) (n 4) (c 4), .slice (a 5) (n 5) (c 5), .slice (a 6) (n 6) (c 6)]) (.int .i64 j)).run Try.prog wr = .ok (.slice (a j) (n j) (c j)) wr :=
        run_idx wr _ j hj7 _ (by rcases six (show j ≤ 6 by omega) with rfl | rfl | rfl | rfl | rfl | rfl | rfl <;> rfl)
      have HIX : Hid (_ = _) := hix
      have hoj := (HO.out j hj7).of_eq (w' := wr) (fun q hq => HG.out.block q ((HO.out j hj7).lt q hq) (by simp))
      have CC : Hid (Calls Try.prog 34 #[.slice (a j) (n j) (c j)] wr fun e w' => ∃ a' c', e = .returned (.slice a' (n j) c') ∧ Own w' (.slice a' (n j) c') (ints (L j)) ∧ wr.grownBy w' none ∧ ∀ q, (Value.slice a' (n j) c').ownBlock = some q → wr.heap.size ≤ q) := by
        refine (Clone_ok hoj (by rw [ints_len]; have := HL.out j hj7; omega)).mono ?_
        rintro e w' ⟨v', rfl, q1, q2, q3⟩
        obtain ⟨a', c', e1⟩ := q1.len
        rw [ints_len, HN.out] at e1
        subst e1
        exact ⟨a', c', rfl, q1, q2, q3⟩
      have hnj : n j ≤ 4096 := by rw [← HN.out j]; exact HL.out j hj7
      clear hix hoj d0 d1 d2 d3 d4 d5 d6
      have hj7I : (j : Int) < 7 := by omega
      obtain ⟨i0, hi0, hz0, hz1, hz2⟩ := info_parts Try.infoS
      have HRW : Hid (∀ W o, wr.grownBy W none → (W.alloc o).ownsRow 0 44 1 y j ((List.range j).map V)) := fun W o hW => row_kept HV.out.row (Nat.le_trans hW.size (by simp)) (fun k hk => (Below.heap_alloc _ _ _ (Nat.lt_of_lt_of_le hk hW.size)).trans (hW.block k hk (by simp)))
      go_wp2_with (first | (refine wpList_index_at rfl 54 (.tmp 12) (.tmp 13) rfl _ _ _ rfl rfl HIX.out ?_) | (go_at_call 34; refine CC.out.mono ?_; rintro e w2 ⟨a', c', rfl, o2, g2, x2⟩) | (at_builtin; refine wpList_append_lies _ rfl (.tmp 16) (.tmp 19) 50 rfl 0 44 i0 _ 1 24 Try.underlying50 hi0 hz0 hz1 hz2 rfl (by decide) y j ((List.range j).map V) rfl (HRW.out _ _ g2) ⟨w2.heap.size, 0, none⟩ 1 1 [.slice a' (n j) c'] rfl rfl (news_one w2 _ 44) (one_slice _ _ _) (by omega) (by unfold maxLen; omega) (by omega) (Nat.zero_le _) (w2.heap.size + 1) (by simp) ?_; intro g1 k1 w3 o3 gr3 at3 lt3))
      have hat : y.ownBlock = some g1 ∨ w2.heap.size ≤ g1 := by
        rcases at3 with q | q
        · exact Or.inl q
        · exact Or.inr (by omega)
      have G3 : w2.grownBy w3 y.ownBlock := (World.grownBy_alloc w2 _ _).trans gr3
      have HS := HV.out.step HG.out.size (.slice a' (n j) c') g2 o2 x2 g1 k1 G3 o3 hat
      have hG : w.grownBy w3 none := by
        have q := below_of G3 w.heap.size (Nat.le_trans HG.out.size g2.size) (fun k hk => HV.out.new k hk)
        have q2 := HG.out.trans g2
        exact ⟨q.os.trans q2.os, q.tape.trans q2.tape, q.output.trans q2.output, Nat.le_trans q2.size q.size, fun i hi hn => (q.block i hi).trans (q2.block i hi hn)⟩
      exact ⟨⟨j + 1, by omega, by go_num, ⟨_, rfl, _, HS⟩, hG⟩, by simp [iv]; omega⟩
    · obtain rfl : j = 7 := by omega
      have HV : Hid (Lst w.heap.size wr y 7 V L) := hV
      have HG : Hid (w.grownBy wr none) := hG
      clear hV hG
      go_wp2
      go_ret
      exact ⟨y, rfl, HV.out.whole, HG.out⟩
end Go.Proofs.Ytdlkmeopiilmdaa
