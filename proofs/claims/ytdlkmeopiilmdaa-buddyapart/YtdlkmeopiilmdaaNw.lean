/- What New of package buddy gives back; what made says; no condition but the ranges that each theorem names. -/
import Derived.Test.YtdlkmeopiilmdaaBd
namespace Go.Proofs.Ytdlkmeopiilmdaa
open Go.ChangeShapes Go.WideShapes Go.ChangeAt Go.RowKit
set_option linter.unusedVariables false

/-- A buddy that is none: no pointer, or one to a struct without a map. -/
def NoB (w : World) (q : Option Addr) : Prop := q = none ∨ ∃ p, q = some ⟨p, 0, none⟩ ∧ w.cell? ⟨p, 7, none⟩ = some (.map none)
theorem map_nil (r : Option Nat) : ∀ w : World, (binOp .neq 55 (.map r) (.map none)).run Try.prog w = .ok (.bool r.isSome) w := fun w => by rw [run_neq_map_nil w _ _ _ r Try.underlying55]; cases r <;> rfl
theorem made_any {w : World} {G : Nat → Prop} {p : Nat} {L : Nat → List Nat} {tk : Nat → Option Nat} (h : Bu w G p L tk) : Calls Try.prog 27 #[.pointer (some ⟨p, 0, none⟩)] w fun e w' => e = .returned (.bool true) ∧ w' = w := by
  obtain ⟨b, V, h⟩ := h
  have hc := h.cm
  have hq := map_nil (some b)
  clear h
  go_enter Try.func27, Try.ntmps27
  go_wp2
  go_ret
  exact ⟨rfl, rfl⟩
theorem made_nil {w : World} {q : Option Addr} (hN : NoB w q) : Calls Try.prog 27 #[.pointer q] w fun e w' => e = .returned (.bool false) ∧ w' = w := by
  rcases hN with rfl | ⟨p, rfl, hc⟩
  · go_enter Try.func27, Try.ntmps27
    go_wp2
    go_ret
    exact ⟨rfl, rfl⟩
  · have hq := map_nil none
    go_enter Try.func27, Try.ntmps27
    go_wp2
    go_ret
    exact ⟨rfl, rfl⟩
theorem New_no (n : Int) (h : n < 0 ∨ 4096 < n) (w : World) : Calls Try.prog 7 #[.int .i64 n] w fun e w' => e = .returned (.tuple #[.pointer none, .int .i64 2]) ∧ w' = w := by
  go_enter Try.func7, Try.ntmps7
  go_wp2
  all_goals (go_ret2; exact ⟨rfl, rfl⟩)
theorem new_bu (w : World) : Bu ((w.alloc (.map #[] 0)).alloc (.cells #[.slice none 0 0, .slice none 0 0, .slice none 0 0, .slice none 0 0, .slice none 0 0, .slice none 0 0, .slice none 0 0, .map (some w.heap.size)] 57)) (fun k => k = w.heap.size ∨ k = w.heap.size + 1) (w.heap.size + 1) (fun _ => []) (fun _ => none) := by
  have hp := blk_new (w.alloc (.map #[] 0)) [.slice none 0 0, .slice none 0 0, .slice none 0 0, .slice none 0 0, .slice none 0 0, .slice none 0 0, .slice none 0 0, .map (some w.heap.size)] 57
  have hs : (w.alloc (.map #[] 0)).heap.size = w.heap.size + 1 := by simp
  rw [hs] at hp
  refine ⟨w.heap.size, fun _ => .slice none 0 0, ⟨?_, ?_, ?_, ?_, ?_, ?_, ?_, ?_⟩, Or.inl rfl, ?_, hp.cell 7, ?_⟩
  · rintro k ⟨rfl | rfl, h2⟩
    · exact absurd rfl h2
    · exact hp.lt
  · exact ⟨Or.inr rfl, by omega⟩
  · intro i b hi hb
    cases hb
  · intro i hi
    rw [hp.cell i]
    rcases six (show i ≤ 6 by omega) with rfl | rfl | rfl | rfl | rfl | rfl | rfl <;> rfl
  · intro i hi
    exact hp.frozen i
  · intro i hi
    exact Own.nil _
  · intro i hi h
    cases h
  · intro i j b hi hj hne h
    cases h
  · rintro k (rfl | rfl)
    · have := hp.lt; omega
    · exact hp.lt
  · exact (mp_new w 4096).of_eq (by rw [Below.heap_alloc _ _ _ (by simp)]) (by simp)
theorem Try.infoS : (Try.prog.info? 44).map (fun i => (i.zero, i.size, i.bytes)) = some (some (.slice none 0 0), 1, 24) := by kernel_rfl
theorem ints_app (l : List Nat) (x : Nat) : ints l ++ [(x : Int)] = ints (l ++ [x]) := by simp [ints]
/-- A list grows by one. -/
theorem Bp.grow {w w1 : World} {G : Nat → Prop} {p b : Nat} {V : Nat → Value} {L : Nat → List Nat} {tk : Nat → Option Nat} (h : Bp w G p b V L tk) (i : Nat) (hi : i < 7) (x : Nat) (g cap : Nat)
    (G1 : w.grownBy w1 (V i).ownBlock) (ho : w1.ownsRow 0 3 1 (.slice (some ⟨g, 0, none⟩) ((L i).length + 1) cap) ((L i).length + 1) (tv (ints (L i)) ++ [.int .i64 x])) (hv : (V i).ownBlock = some g ∨ w.heap.size ≤ g) :
    ∃ G', Bu (w1.setCell ⟨p, i, none⟩ (.slice (some ⟨g, 0, none⟩) ((L i).length + 1) cap)) G' p (put L i (L i ++ [x])) tk ∧ Kp G G' w (w1.setCell ⟨p, i, none⟩ (.slice (some ⟨g, 0, none⟩) ((L i).length + 1) cap)) := by
  refine h.turn i hi _ _ G1 ?_ (fun c hc => by cases hc; exact hv)
  unfold Own
  have e1 : (ints (L i ++ [x])).length = (L i).length + 1 := by simp [ints]
  have e2 : tv (ints (L i ++ [x])) = tv (ints (L i)) ++ [.int .i64 x] := by simp [ints, tv]
  rw [e1, e2]
  exact ho
/-- What a loop of New has. -/
def Nst (w wr : World) (n j a : Nat) (m : Nat) : Prop := ∃ G, Bu wr G (w.heap.size + 1) (fun i => if i = j then row (base n j) j m else if j < i then nwL n i else []) (fun _ => none) ∧ Kp (fun _ => False) G w wr ∧ a = base n j + m * 2 ^ j ∧ a ≤ n
theorem base_m {n j m : Nat} (hj : j ≤ 6) (h1 : base n j + m * 2 ^ j ≤ n) (h2 : n < base n j + m * 2 ^ j + 2 ^ j) : m = (n - base n j) / 2 ^ j := by
  rcases six hj with rfl | rfl | rfl | rfl | rfl | rfl | rfl <;> simp only [base, Nat.reducePow, Nat.reduceAdd, Nat.reduceEqDiff, if_true, if_false] at * <;> omega
theorem base_end {n m : Nat} (h1 : base n 0 + m * 2 ^ 0 ≤ n) (h2 : n < base n 0 + m * 2 ^ 0 + 2 ^ 0) : base n 0 + m * 2 ^ 0 = n := by
  simp only [base, Nat.reducePow, Nat.reduceAdd, Nat.reduceEqDiff, if_false] at *
  omega
theorem base_dn {n j m : Nat} (hj : j + 1 ≤ 6) (h1 : base n (j + 1) + m * 2 ^ (j + 1) ≤ n) (h2 : n < base n (j + 1) + m * 2 ^ (j + 1) + 2 ^ (j + 1)) : base n j = base n (j + 1) + m * 2 ^ (j + 1) := by
  rcases six (show j ≤ 6 by omega) with rfl | rfl | rfl | rfl | rfl | rfl | rfl <;> simp only [base, Nat.reducePow, Nat.reduceAdd, Nat.reduceEqDiff, if_true, if_false] at * <;> omega
theorem shl_wrap (j : Nat) (hj : j ≤ 6) : IntKind.i64.wrap ((2 : Int) ^ j) = ((2 ^ j : Nat) : Int) := by
  rcases six hj with rfl | rfl | rfl | rfl | rfl | rfl | rfl <;> rfl
theorem pow_le (j : Nat) (hj : j ≤ 6) : 1 ≤ 2 ^ j ∧ 2 ^ j ≤ 64 := by
  rcases six hj with rfl | rfl | rfl | rfl | rfl | rfl | rfl <;> decide
set_option maxHeartbeats 1000000 in
theorem New_ok (n : Nat) (hn : n ≤ 4096) (w : World) : Calls Try.prog 7 #[.int .i64 n] w fun e w' => ∃ G p, e = .returned (.tuple #[.pointer (some ⟨p, 0, none⟩), .int .i64 0]) ∧ Bu w' G p (nwL n) (fun _ => none) ∧ Kp (fun _ => False) G w w' := by
  have hmm := @run_makeMap Try.prog
  have HB : Hid (Bu ((w.alloc (.map #[] 0)).alloc (.cells #[.slice none 0 0, .slice none 0 0, .slice none 0 0, .slice none 0 0, .slice none 0 0, .slice none 0 0, .slice none 0 0, .map (some w.heap.size)] 57)) (fun k => k = w.heap.size ∨ k = w.heap.size + 1) (w.heap.size + 1) (fun _ => []) (fun _ => none)) := new_bu w
  have HG : Hid (w.grownBy ((w.alloc (.map #[] 0)).alloc (.cells #[.slice none 0 0, .slice none 0 0, .slice none 0 0, .slice none 0 0, .slice none 0 0, .slice none 0 0, .slice none 0 0, .map (some w.heap.size)] 57)) none) := (World.grownBy_alloc _ _ none).trans (World.grownBy_alloc _ _ none)
  go_enter Try.func7, Try.ntmps7
  go_wp2
  go_loopw [5, 6] (fun a o wr => (∃ j : Nat, j ≤ 6 ∧ o = .int .i64 j ∧ a = .int .i64 (base n j : Nat) ∧ Nst w wr n j (base n j) 0) ∨ (o = .int .i64 (-1) ∧ ∃ G, Bu wr G (w.heap.size + 1) (nwL n) (fun _ => none) ∧ Kp (fun _ => False) G w wr)) (fun _ o _ => (iv o + 1).toNat)
  case atStart =>
    left
    refine ⟨6, by omega, rfl, rfl, fun k => k = w.heap.size ∨ k = w.heap.size + 1, ?_, Kp.of_grown HG.out (by simp) (fun k hk => Or.inr (by omega)), by simp, by simp [base]⟩
    refine HB.out.congr (fun i hi => ?_)
    by_cases e : i = 6
    · rw [if_pos e]
      rfl
    · rw [if_neg e, if_neg (by omega)]
  case round =>
    rcases hrel with ⟨j, hj, rfl, rfl, hN⟩ | ⟨rfl, hN⟩
    · have HN : Hid (Nst w wr n j (base n j) 0) := hN
      have hbn : base n j ≤ n := by obtain ⟨_, _, _, _, h⟩ := hN; exact h
      clear hN HB HG
      have hsh := shl_wrap j hj
      have hpl := pow_le j hj
      obtain ⟨S, hS⟩ : ∃ S, 2 ^ j = S := ⟨_, rfl⟩
      have HS : Hid (2 ^ j = S) := hS
      clear hS
      rw [HS.out] at hsh hpl
      generalize hb0 : base n j = b0 at *
      go_wp2
      go_loopw [5] (fun a wq => ∃ m : Nat, a = .int .i64 (b0 + m * S : Nat) ∧ Nst w wq n j (b0 + m * S) m) (fun a _ => n - (iv a).toNat)
      case atStart =>
        refine ⟨0, by simp, ?_⟩
        have := HN.out
        simpa using this
      case round =>
        obtain ⟨m, rfl, hN⟩ := hrel
        obtain ⟨G, hB, hK, he, hle⟩ := hN
        have HK : Hid (Kp (fun _ => False) G w wr) := hK
        have HE : Hid (b0 + m * S = base n j + m * 2 ^ j) := he
        clear he hK
        by_cases hc : b0 + m * S + S ≤ n
        · generalize hga : b0 + m * S = a at *
          have HA : Hid (b0 + m * S = a) := hga
          clear hga
          have hcI : (a : Int) + (S : Int) ≤ (n : Int) := by omega
          obtain ⟨b, V, hP⟩ := hB
          have HP : Hid (Bp wr G (w.heap.size + 1) b V (fun i => if i = j then row (base n j) j m else if j < i then nwL n i else []) (fun _ => none)) := hP
          have hr := hP.rws.row j (by omega)
          have hf := hP.rws.fz j (by omega)
          have ho := hP.rws.own j (by omega)
          obtain ⟨g0, c0, hv⟩ := ho.len
          rw [hv] at hr ho
          have HV : Hid (V j = _) := hv
          have HO : Hid (Own wr _ _) := ho
          clear hP hv ho
          rw [if_pos rfl] at hr HV HO
          have hk : (ints (row (base n j) j m)).length = m := by simp [ints, row]
          rw [hk] at hr HV HO
          clear hk
          have hpw : w.heap.size + 1 < wr.heap.size := HP.out.lt _ HP.out.gp
          obtain ⟨i0, hi0, hz0, hz1, hz2⟩ := info_parts Try.infoI
          have HOW : Hid (∀ W, Below wr.heap.size wr W → W.ownsRow 0 3 1 (.slice g0 m c0) m (tv (ints (row (base n j) j m)))) := fun W hW => by
            have := HO.out.of_eq (w' := W) (fun g hg => hW.block g (HO.out.lt g hg))
            unfold Own at this
            rwa [show (ints (row (base n j) j m)).length = m by simp [ints, row]] at this
          have HB1 : Hid (Below wr.heap.size wr (wr.alloc (.cells #[.int .i64 a] 3)).drew) := ((Below.refl _ wr).alloc (Nat.le_refl _) _).drew
          have HN1 : Hid (∀ k u, [Value.int .i64 (a : Int)][k]? = some u → (wr.alloc (.cells #[.int .i64 a] 3)).drew.cell? ((⟨wr.heap.size, 0, none⟩ : Addr).add k) = some u) := fun k u hk => by
            rw [Go.WideShapes.add_plain, Nat.zero_add]
            exact ((blk_new wr [.int .i64 a] 3).cell k).trans hk
          have HT : Hid (∀ v ∈ [Value.int .i64 (a : Int)], v.oneCell' = true) := by
            intro v hv
            simp at hv
            subst hv
            rfl
          have HC : Hid (∀ w1, wr.grownBy w1 (Value.slice g0 m c0).ownBlock → w1.cell? ⟨w.heap.size + 1, j, none⟩ = some (.slice g0 m c0)) := fun w1 G => by
            have := HP.out.rws.vg j (by omega)
            rw [HV.out] at this
            exact (G.cell_far ⟨w.heap.size + 1, j, none⟩ hpw (fun e => this e.symm)).trans hr
          have HZ : Hid (∀ w1, wr.grownBy w1 (Value.slice g0 m c0).ownBlock → w1.frozen? ⟨w.heap.size + 1, j, none⟩ = false) := fun w1 G => by
            have := HP.out.rws.vg j (by omega)
            rw [HV.out] at this
            exact (G.frozen_far ⟨w.heap.size + 1, j, none⟩ hpw (fun e => this e.symm)).trans hf
          have hr2 : (wr.alloc (.cells #[.int .i64 a] 3)).cell? ⟨w.heap.size + 1, j, none⟩ = some (.slice g0 m c0) := (((Below.refl _ wr).alloc (Nat.le_refl _) _).cell (p := ⟨w.heap.size + 1, j, none⟩) hpw).trans hr
          have hm : m ≤ 4096 := by
            have := Nat.le_mul_of_pos_right m hpl.1
            have := HA.out
            omega
          have hj0 : (0 : Int) ≤ (j : Int) := by omega
          have hj7 : (j : Int) < 7 := by omega
          have hj7n : j < 7 := by omega
          go_wp2
          go_region_law (first | (refine step_append_lies _ rfl (.tmp 33) (.tmp 35) 44 rfl 0 3 i0 _ 1 8 Try.underlying44 hi0 hz0 hz1 hz2 rfl (by decide) (.slice g0 m c0) m (tv (ints (row (base n j) j m))) rfl (HOW.out _ HB1.out) ⟨wr.heap.size, 0, none⟩ 1 1 [.int .i64 a] rfl rfl HN1.out HT.out (by omega) (by unfold maxLen; omega) (by omega) (Nat.zero_le _) (wr.heap.size + 1) (by simp) ?_; intro g1 k1 w1 o1 gr1 at1 lt1; have G1 : Hid (wr.grownBy w1 (Value.slice g0 m c0).ownBlock) := ((World.grownBy_alloc wr _ _).trans (grown_drew _ _)).trans gr1; have r1 := HC.out w1 G1.out; have r2 := HZ.out w1 G1.out))
          all_goals (
            have HS1 : Hid (Nst w (w1.setCell ⟨w.heap.size + 1, j, none⟩ (.slice (some ⟨g1, 0, none⟩) (m + 1) k1)) n j (b0 + (m + 1) * S) (m + 1)) := by
              have hlr : (row (base n j) j m).length = m := by simp [row]
              have hx : a = base n j + m * 2 ^ j := by have := HE.out; have := HA.out; omega
              have hpos := HS.out
              obtain ⟨G', hB', hK'⟩ := HP.out.grow j (by omega) a g1 k1 (w1 := w1) (by rw [HV.out]; exact G1.out) (by
                rw [if_pos rfl, hlr]
                exact o1) (by
                rw [HV.out]
                rcases at1 with q | q
                · exact Or.inl q
                · exact Or.inr (by omega))
              rw [if_pos rfl, hlr] at hB' hK'
              refine ⟨G', hB'.congr (fun i hi => ?_), HK.out.trans hK', ?_, ?_⟩
              · unfold put
                by_cases e : i = j
                · subst e
                  rw [if_pos rfl, if_pos rfl, row_succ, ← hx]
                · simp only [e, if_false]
              · rw [hpos, hb0]
              · have := HA.out
                rw [Nat.add_mul]
                omega
            have hsum : b0 + (m + 1) * S = a + S := by have := HA.out; rw [Nat.add_mul]; omega
            have HSM : Hid (b0 + (m + 1) * S = a + S) := hsum
            clear hsum o1 gr1 at1 lt1 G1 r1 r2 hr hr2 hf HOW HB1 HN1 HT HC HZ HP HV HO HK HE
            generalize w1.setCell ⟨w.heap.size + 1, j, none⟩ (.slice (some ⟨g1, 0, none⟩) (m + 1) k1) = w2 at *
            go_wp2
            go_roundw
            case rel => exact ⟨m + 1, by rw [HSM.out]; go_num, HS1.out⟩
            case measure => simp [iv]; omega)
        · have hcI : (n : Int) < ((b0 + m * S : Nat) : Int) + (S : Int) := by omega
          have HB : Hid (Bu wr G (w.heap.size + 1) (fun i => if i = j then row (base n j) j m else if j < i then nwL n i else []) (fun _ => none)) := hB
          clear hB
          generalize hga : b0 + m * S = a at *
          have HA : Hid (b0 + m * S = a) := hga
          clear hga
          have HX : Hid (m = (n - base n j) / 2 ^ j ∧ (j = 0 ∨ ∃ i, i + 1 = j ∧ base n i = a)) := by
            have h1 : base n j + m * 2 ^ j ≤ n := by have := HE.out; omega
            have h2 : n < base n j + m * 2 ^ j + 2 ^ j := by have := HE.out; have := HS.out; omega
            refine ⟨base_m hj h1 h2, ?_⟩
            cases j with
            | zero => exact Or.inl rfl
            | succ i => exact Or.inr ⟨i, rfl, (base_dn hj h1 h2).trans HE.out.symm⟩
          have HR : Hid (∀ i, i < 7 → (if i = j then row (base n j) j m else if j < i then nwL n i else []) = if j ≤ i then nwL n i else []) := fun i hi => by
            by_cases e : i = j
            · subst e
              rw [if_pos rfl, if_pos (Nat.le_refl _)]
              unfold nwL
              rw [← HX.out.1]
            · rw [if_neg e]
              by_cases e2 : j < i
              · rw [if_pos e2, if_pos (by omega)]
              · rw [if_neg e2, if_neg (by omega)]
          go_wp2
          go_roundw
          case rel =>
            rcases HX.out.2 with rfl | ⟨i, rfl, hi⟩
            · right
              refine ⟨by simp, G, HB.out.congr (fun k hk => ?_), HK.out⟩
              rw [HR.out k hk, if_pos (Nat.zero_le _)]
            · left
              refine ⟨i, by omega, by go_num, by rw [hi], G, HB.out.congr (fun k hk => ?_), HK.out, by simp, by rw [hi]; exact hle⟩
              rw [HR.out k hk]
              by_cases e : k = i
              · subst e
                rw [if_neg (by omega), if_pos rfl]
                rfl
              · rw [if_neg e]
                by_cases e2 : i < k
                · rw [if_pos (by omega), if_pos e2]
                · rw [if_neg (by omega), if_neg e2]
          case measure => simp [iv]
    · have HN : Hid (∃ G, Bu wr G (w.heap.size + 1) (nwL n) (fun _ => none) ∧ Kp (fun _ => False) G w wr) := hN
      clear hN HB HG
      go_wp2
      go_ret2
      obtain ⟨G, h1, h2⟩ := HN.out
      exact ⟨G, w.heap.size + 1, rfl, h1, h2⟩
end Go.Proofs.Ytdlkmeopiilmdaa
