/- The document's disk: Write, Read, Erase and Used; no condition but the ranges that each theorem names. -/
import Derived.Test.YtimmckdghihcjaaRf
namespace Go.Proofs.Ytimmckdghihcjaa
open Go.ChangeShapes Go.WideShapes Go.ChangeAt Go.RowKit
set_option linter.unusedVariables false

theorem grown_any {w w' : World} (h : w.grownBy w' none) (row : Option Nat) : w.grownBy w' row := ⟨h.os, h.tape, h.output, h.size, fun i hi _ => h.block i hi (by simp)⟩
/-! ### Write -/
theorem rWrite_nil (w : World) (k : Int) (v : Value) : Calls Try.prog 30 #[.pointer none, .int .i64 k, v] w fun e w' => e = .returned (.int .i64 1) ∧ w' = w := by
  have C1 : Hid (Calls _ _ _ _ _) := slot_nil w k
  go_enter Try.func30, Try.ntmps30
  go_wp2_with (go_at_call 34; refine C1.out.mono ?_; rintro e w' ⟨rfl, rfl⟩)
  go_ret
  exact ⟨rfl, rfl⟩
theorem rWrite_no {w : World} {q g N : Nat} {m : Nat → Option (Nat → Int)} {T : Nat} {A : List Nat} (h : Rk w q g N m T A) (k : Int) (hk : ¬ (0 ≤ k ∧ k < N)) (v : Value) : Calls Try.prog 30 #[.pointer (some ⟨q, 0, none⟩), .int .i64 k, v] w fun e w' => e = .returned (.int .i64 2) ∧ w' = w := by
  have C1 : Hid (Calls _ _ _ _ _) := slot_no h k hk
  clear h hk
  go_enter Try.func30, Try.ntmps30
  go_wp2_with (go_at_call 34; refine C1.out.mono ?_; rintro e w' ⟨rfl, rfl⟩)
  go_ret
  exact ⟨rfl, rfl⟩
theorem rWrite_len {w : World} {q g N : Nat} {m : Nat → Option (Nat → Int)} {T : Nat} {A : List Nat} (h : Rk w q g N m T A) (k : Nat) (hk : k < N) (ao : Option Addr) (l c : Nat) (hl : l ≠ 256) (hm : l ≤ maxLen) : Calls Try.prog 30 #[.pointer (some ⟨q, 0, none⟩), .int .i64 k, .slice ao l c] w fun e w' => e = .returned (.int .i64 2) ∧ w' = w := by
  have C1 : Hid (Calls _ _ _ _ _) := slot_ok h k hk
  have hb : ((l : Int) != 256) = true := by rw [bne_iff_ne]; omega
  unfold maxLen at hm
  clear h hk
  go_enter Try.func30, Try.ntmps30
  go_wp2_with (go_at_call 34; refine C1.out.mono ?_; rintro e w' ⟨rfl, rfl⟩)
  go_ret
  exact ⟨rfl, rfl⟩
theorem Rk.put {w w1 : World} {q g N : Nat} {m : Nat → Option (Nat → Int)} {T : Nat} {A : List Nat} (h : Rk w q g N m T A) (gr : w.grownBy w1 none) (k : Nat) (hk : k < N) (x c : Nat) (hc : c ≤ maxLen) (u : Nat → Int) (hu : okB 256 u) (hB : By w1 x 256 u) (hx : w.heap.size ≤ x) :
    Rk (w1.setCell ⟨g, k, none⟩ (.slice (some ⟨x, 0, none⟩) 256 c)) q g N (pt m k (some u)) w1.heap.size A := by
  have h1 := (h.kept gr (by simp)).up (T' := w1.heap.size) (Nat.le_trans h.t gr.size) (Nat.le_refl _)
  obtain ⟨s, hs, hcl⟩ := h1.cl
  have G := grown_setCell' w1 g k (.slice (some ⟨x, 0, none⟩) 256 c)
  have hg := h.g'.1
  have ht := h.t
  refine ⟨h1.st.kept G (some_ne h1.ne), ⟨_, hs.set k _, fun j hj => ?_⟩, h1.ne, h1.n, fun j v e => ?_, h1.q', h1.g', G.size, fun y hy => Nat.lt_of_lt_of_le (h1.a y hy) G.size⟩
  · unfold pt
    by_cases e : j = k
    · rw [if_pos e, if_pos e]
      exact Or.inr ⟨u, x, c, rfl, rfl, hc, hB.kept G (some_ne (by omega)), by omega, hB.1, fun y => by have := h.a x y; omega⟩
    · rw [if_neg e, if_neg e]
      exact (hcl j hj).kept G (fun i hi => by injection hi with hi; exact Or.inr (Or.inr hi.symm))
  · unfold pt at e
    by_cases ej : j = k
    · rw [if_pos ej] at e
      cases e
      exact ⟨by omega, hu⟩
    · rw [if_neg ej] at e
      exact h.lt j v e
theorem Rk.out {w : World} {q g N : Nat} {m : Nat → Option (Nat → Int)} {T : Nat} {A : List Nat} (h : Rk w q g N m T A) (k : Nat) :
    Rk (w.setCell ⟨g, k, none⟩ (.slice none 0 0)) q g N (pt m k none) T A := by
  obtain ⟨s, hs, hcl⟩ := h.cl
  have G := grown_setCell' w g k (.slice none 0 0)
  refine ⟨h.st.kept G (some_ne h.ne), ⟨_, hs.set k _, fun j hj => ?_⟩, h.ne, h.n, fun j v e => ?_, h.q', h.g', Nat.le_trans h.t G.size, fun y hy => Nat.lt_of_lt_of_le (h.a y hy) G.size⟩
  · unfold pt
    by_cases e : j = k
    · rw [if_pos e, if_pos e]
      exact Or.inl ⟨rfl, rfl⟩
    · rw [if_neg e, if_neg e]
      exact (hcl j hj).kept G (fun i hi => by injection hi with hi; exact Or.inr (Or.inr hi.symm))
  · unfold pt at e
    by_cases ej : j = k
    · rw [if_pos ej] at e
      cases e
    · rw [if_neg ej] at e
      exact h.lt j v e
theorem Rk.old {w : World} {q g N : Nat} {m : Nat → Option (Nat → Int)} {T : Nat} {A : List Nat} (h : Rk w q g N m T A) (k : Nat) (hk : k < N) : ∃ a l c, w.cell? ⟨g, k, none⟩ = some (.slice a l c) ∧ w.frozen? ⟨g, k, none⟩ = false := by
  obtain ⟨s, hs, hc⟩ := h.cl
  obtain ⟨h1, h2⟩ := hs.2 k hk
  rcases hc k hk with ⟨_, e⟩ | ⟨u, b, c, _, e, _⟩
  · exact ⟨_, _, _, by rw [h1, e], h2⟩
  · exact ⟨_, _, _, by rw [h1, e], h2⟩
set_option maxRecDepth 100000 in
set_option maxHeartbeats 1000000 in
theorem rWrite_ok {w : World} {q g N : Nat} {m : Nat → Option (Nat → Int)} {T : Nat} {A : List Nat} (h : Rk w q g N m T A) (k : Nat) (hk : k < N) (bb off cap : Nat) (u : Nat → Int) (hr : Rd w bb off 256 u) (hu : okB 256 u) :
    Calls Try.prog 30 #[.pointer (some ⟨q, 0, none⟩), .int .i64 k, .slice (some ⟨bb, off, none⟩) 256 cap] w fun e w' => e = .returned (.int .i64 0) ∧ Rk w' q g N (pt m k (some u)) w'.heap.size A ∧ w.grownBy w' (some g) := by
  have HD : Hid (Rk w q g N m T A) := h
  have HU : Hid (okB 256 u) := hu
  have C1 : Hid (Calls _ _ _ _ _) := slot_ok h k hk
  have C2 : Hid (∀ n, Calls Try.prog 35 #[.slice (some ⟨bb, off, none⟩) 256 cap] (w.drewN n) fun e w' => ∃ x c', e = .returned (.slice (some ⟨x, 0, none⟩) 256 c') ∧ c' ≤ maxLen ∧ By w' x 256 u ∧ w.heap.size ≤ x ∧ (w.drewN n).grownBy w' none) := fun n => Copy_any (w := w.drewN n) hr
  have hc := h.c1
  have hn := h.n
  clear h hr hu
  go_enter Try.func30, Try.ntmps30
  go_wp2_with (go_at_call 34; refine C1.out.mono ?_; rintro e w' ⟨rfl, rfl⟩)
  go_region_held3 (fun W => W.cell? ⟨q, 1, none⟩ = some (.slice (some ⟨g, 0, none⟩) N N)) (first | exact hc | exact HS2.out | exact HS3.out _)
    ((go_at_call 35; refine (C2.out 1).mono ?_; rintro e w2 ⟨x, c', rfl, hcm, hB, hx, gr⟩; have HG : Hid (w'.grownBy w2 none) := (grown_drewN w' 1 none).trans gr; have HB : Hid (By w2 x 256 u) := hB; have HR2 : Hid (Rk w2 q g N m T A) := HD.out.kept HG.out (by simp); have HS2 : Hid (w2.cell? ⟨q, 1, none⟩ = some (.slice (some ⟨g, 0, none⟩) N N)) := HR2.out.c1; have HS3 : Hid (∀ v, (w2.setCell ⟨g, k, none⟩ v).cell? ⟨q, 1, none⟩ = some (.slice (some ⟨g, 0, none⟩) N N)) := fun v => (World.cell?_setCell_other _ _ _ _ (by intro e; injection e with e1; exact HR2.out.ne e1.symm)).trans HS2.out; obtain ⟨a0, l0, c0, hv0, hf0⟩ := HR2.out.old k hk; clear hB gr))
  go_wp2
  go_ret
  exact ⟨rfl, (HD.out.put HG.out k hk x c' hcm u HU.out HB.out hx).up (by simp [World.setCell]) (Nat.le_refl _), (grown_any HG.out (some g)).trans (grown_setCell' _ _ _ _)⟩
/-! ### Read -/
theorem rRead_nil (w : World) (k : Int) : Calls Try.prog 28 #[.pointer none, .int .i64 k] w fun e w' => e = .returned (.tuple #[.slice none 0 0, .int .i64 1]) ∧ w' = w := by
  have C1 : Hid (Calls _ _ _ _ _) := slot_nil w k
  go_enter Try.func28, Try.ntmps28
  go_wp2_with (go_at_call 34; refine C1.out.mono ?_; rintro e w' ⟨rfl, rfl⟩)
  go_ret2
  exact ⟨rfl, rfl⟩
theorem rRead_no {w : World} {q g N : Nat} {m : Nat → Option (Nat → Int)} {T : Nat} {A : List Nat} (h : Rk w q g N m T A) (k : Int) (hk : ¬ (0 ≤ k ∧ k < N)) : Calls Try.prog 28 #[.pointer (some ⟨q, 0, none⟩), .int .i64 k] w fun e w' => e = .returned (.tuple #[.slice none 0 0, .int .i64 2]) ∧ w' = w := by
  have C1 : Hid (Calls _ _ _ _ _) := slot_no h k hk
  clear h hk
  go_enter Try.func28, Try.ntmps28
  go_wp2_with (go_at_call 34; refine C1.out.mono ?_; rintro e w' ⟨rfl, rfl⟩)
  go_ret2
  exact ⟨rfl, rfl⟩
theorem Rk.none' {w : World} {q g N : Nat} {m : Nat → Option (Nat → Int)} {T : Nat} {A : List Nat} (h : Rk w q g N m T A) (k : Nat) (hk : k < N) (e0 : m k = none) : w.cell? ⟨g, k, none⟩ = some (.slice none 0 0) ∧ w.frozen? ⟨g, k, none⟩ = false := by
  obtain ⟨s, hs, hc⟩ := h.cl
  obtain ⟨h1, h2⟩ := hs.2 k hk
  rcases hc k hk with ⟨_, e⟩ | ⟨u, b, c, e1, e, _⟩
  · exact ⟨by rw [h1, e], h2⟩
  · rw [e0] at e1; cases e1
theorem Rk.some' {w : World} {q g N : Nat} {m : Nat → Option (Nat → Int)} {T : Nat} {A : List Nat} (h : Rk w q g N m T A) (k : Nat) (u : Nat → Int) (e0 : m k = some u) : ∃ b c, w.cell? ⟨g, k, none⟩ = some (.slice (some ⟨b, 0, none⟩) 256 c) ∧ w.frozen? ⟨g, k, none⟩ = false ∧ c ≤ maxLen ∧ By w b 256 u := by
  obtain ⟨s, hs, hc⟩ := h.cl
  have hk := (h.lt k u e0).1
  obtain ⟨h1, h2⟩ := hs.2 k hk
  rcases hc k hk with ⟨e1, e⟩ | ⟨v, b, c, e1, e, hc, hB, _⟩
  · rw [e0] at e1; cases e1
  · rw [e0] at e1
    cases e1
    exact ⟨b, c, by rw [h1, e], h2, hc, hB⟩
theorem rRead_none {w : World} {q g N : Nat} {m : Nat → Option (Nat → Int)} {T : Nat} {A : List Nat} (h : Rk w q g N m T A) (k : Nat) (hk : k < N) (e0 : m k = none) : Calls Try.prog 28 #[.pointer (some ⟨q, 0, none⟩), .int .i64 k] w fun e w' => e = .returned (.tuple #[.slice none 0 0, .int .i64 60]) ∧ w' = w := by
  have C1 : Hid (Calls _ _ _ _ _) := slot_ok h k hk
  have hc := h.c1
  have hn := h.n
  obtain ⟨x1, _⟩ := h.none' k hk e0
  clear h
  go_enter Try.func28, Try.ntmps28
  go_wp2_with (go_at_call 34; refine C1.out.mono ?_; rintro e w' ⟨rfl, rfl⟩)
  go_ret2
  exact ⟨rfl, rfl⟩
theorem rRead_ok {w : World} {q g N : Nat} {m : Nat → Option (Nat → Int)} {T : Nat} {A : List Nat} (h : Rk w q g N m T A) (k : Nat) (u : Nat → Int) (e0 : m k = some u) :
    Calls Try.prog 28 #[.pointer (some ⟨q, 0, none⟩), .int .i64 k] w fun e w' => ∃ x c, e = .returned (.tuple #[.slice (some ⟨x, 0, none⟩) 256 c, .int .i64 0]) ∧ c ≤ maxLen ∧ By w' x 256 u ∧ w.heap.size ≤ x ∧ w.grownBy w' none := by
  have hk := (h.lt k u e0).1
  have C1 : Hid (Calls _ _ _ _ _) := slot_ok h k hk
  have hc := h.c1
  have hn := h.n
  obtain ⟨b, c, x1, _, hcm, hB⟩ := h.some' k u e0
  have C2 : Hid (Calls _ _ _ _ _) := Copy_any (c := c) hB.rd
  unfold maxLen at hcm
  clear h hB
  go_enter Try.func28, Try.ntmps28
  go_wp2_with (first | (go_at_call 34; refine C1.out.mono ?_; rintro e w' ⟨rfl, rfl⟩) | (go_at_call 35; refine C2.out.mono ?_; rintro e w2 ⟨x, c', rfl, hcm, hB, hx, gr⟩; have HG : Hid (w'.grownBy w2 none) := gr; have HB : Hid (By w2 x 256 u) := hB; clear hB gr))
  go_ret2
  exact ⟨x, c', rfl, hcm, HB.out, hx, HG.out⟩
/-! ### Erase -/
theorem rErase_nil (w : World) (k : Int) : Calls Try.prog 25 #[.pointer none, .int .i64 k] w fun e w' => e = .returned (.int .i64 1) ∧ w' = w := by
  have C1 : Hid (Calls _ _ _ _ _) := rRead_nil w k
  go_enter Try.func25, Try.ntmps25
  go_wp2_with (go_at_call 28; refine C1.out.mono ?_; rintro e w' ⟨rfl, rfl⟩)
  go_ret
  exact ⟨rfl, rfl⟩
theorem rErase_no {w : World} {q g N : Nat} {m : Nat → Option (Nat → Int)} {T : Nat} {A : List Nat} (h : Rk w q g N m T A) (k : Int) (hk : ¬ (0 ≤ k ∧ k < N)) : Calls Try.prog 25 #[.pointer (some ⟨q, 0, none⟩), .int .i64 k] w fun e w' => e = .returned (.int .i64 2) ∧ w' = w := by
  have C1 : Hid (Calls _ _ _ _ _) := rRead_no h k hk
  clear h hk
  go_enter Try.func25, Try.ntmps25
  go_wp2_with (go_at_call 28; refine C1.out.mono ?_; rintro e w' ⟨rfl, rfl⟩)
  go_ret
  exact ⟨rfl, rfl⟩
theorem rErase_none {w : World} {q g N : Nat} {m : Nat → Option (Nat → Int)} {T : Nat} {A : List Nat} (h : Rk w q g N m T A) (k : Nat) (hk : k < N) (e0 : m k = none) : Calls Try.prog 25 #[.pointer (some ⟨q, 0, none⟩), .int .i64 k] w fun e w' => e = .returned (.int .i64 60) ∧ w' = w := by
  have C1 : Hid (Calls _ _ _ _ _) := rRead_none h k hk e0
  clear h hk
  go_enter Try.func25, Try.ntmps25
  go_wp2_with (go_at_call 28; refine C1.out.mono ?_; rintro e w' ⟨rfl, rfl⟩)
  go_ret
  exact ⟨rfl, rfl⟩
theorem rErase_ok {w : World} {q g N : Nat} {m : Nat → Option (Nat → Int)} {T : Nat} {A : List Nat} (h : Rk w q g N m T A) (k : Nat) (u : Nat → Int) (e0 : m k = some u) :
    Calls Try.prog 25 #[.pointer (some ⟨q, 0, none⟩), .int .i64 k] w fun e w' => e = .returned (.int .i64 0) ∧ Rk w' q g N (pt m k none) T A ∧ w.grownBy w' (some g) := by
  have HR : Hid (Rk w q g N m T A) := h
  have C1 : Hid (Calls _ _ _ _ _) := rRead_ok h k u e0
  have hk := (h.lt k u e0).1
  have hn := h.n
  clear h
  go_enter Try.func25, Try.ntmps25
  go_wp2_with fail
  refine C1.out.mono ?_
  rintro e w2 ⟨x, c', rfl, hcm, hB, hx, gr⟩
  have HR2 : Hid (Rk w2 q g N m T A) := HR.out.kept gr (by simp)
  have HG : Hid (w.grownBy w2 (some g)) := grown_any gr _
  have hc := HR2.out.c1
  obtain ⟨a0, l0, c0, hv0, hf0⟩ := HR2.out.old k hk
  clear hB gr hcm
  go_wp2
  go_ret
  exact ⟨rfl, HR2.out.out k, HG.out.trans (grown_setCell' _ _ _ _)⟩
/-! ### Used -/
theorem us_next (N : Nat) (m : Nat → Option (Nat → Int)) : us (N + 1) m = us N m ++ (if (m N).isSome then [N] else []) := by
  unfold us
  rw [List.range_succ, List.filter_append]
  congr 1
  cases h : (m N).isSome <;> simp [h]
theorem usI_next (N : Nat) (m : Nat → Option (Nat → Int)) : usI (N + 1) m = usI N m ++ (if (m N).isSome then [(N : Int)] else []) := by
  unfold usI
  rw [us_next, List.map_append]
  congr 1
  cases h : (m N).isSome <;> simp
theorem rUsed_nil (w : World) : Calls Try.prog 13 #[.pointer none] w fun e w' => e = .returned (.slice none 0 0) ∧ w' = w := by
  have C1 : Hid (Calls _ _ _ _ _) := rSlots_nil w
  go_enter Try.func13, Try.ntmps13
  go_wp2_with fail
  go_loopw [3, 4] (fun v i wr => v = .slice none 0 0 ∧ i = .int .i64 0 ∧ wr = w) (fun _ _ _ => 0)
  case atStart => exact ⟨rfl, rfl, rfl⟩
  case round =>
    obtain ⟨rfl, rfl, rfl⟩ := hrel
    go_wp2_with (go_at_call 9; refine C1.out.mono ?_; rintro e w' ⟨rfl, rfl⟩)
    go_ret
    exact ⟨rfl, rfl⟩
set_option maxRecDepth 100000 in
set_option maxHeartbeats 1000000 in
theorem rUsed_any {w : World} {q g N : Nat} {m : Nat → Option (Nat → Int)} {T : Nat} {A : List Nat} (h : Rk w q g N m T A) :
    Calls Try.prog 13 #[.pointer (some ⟨q, 0, none⟩)] w fun e w' => ∃ v, e = .returned v ∧ Is w' w.heap.size v (usI N m) ∧ w.grownBy w' none := by
  obtain ⟨i0, hi, hz0, hz1, hz2⟩ := info_parts Try.infoI
  have HR : Hid (Rk w q g N m T A) := h
  have hn := h.n
  clear h
  go_enter Try.func13, Try.ntmps13
  go_wp2_with fail
  go_loopw [3, 4] (fun v i wr => ∃ (k : Nat) (vv : Value), vv = v ∧ k ≤ N ∧ i = .int .i64 k ∧ Is wr w.heap.size v (usI k m) ∧ Below w.heap.size w wr) (fun _ i _ => N - (iv i).toNat)
  case atStart => exact ⟨0, _, rfl, by omega, rfl, World.ownsRow_nil _ _ _ _, Below.refl _ _⟩
  case round =>
    obtain ⟨k, v, hv, hk, rfl, hI, hb⟩ := hrel
    subst hv
    have HI : Hid (Is wr w.heap.size v (usI k m)) := hI
    have HB : Hid (Below w.heap.size w wr) := hb
    have hl := us_len k m
    have HR2 : Hid (Rk wr q g N m T A) := HR.out.kept (below_grow hb) (by simp)
    clear hI hb
    go_wp2_with fail
    refine (rSlots_any HR2.out).mono ?_
    rintro e w2 ⟨rfl, hw⟩
    rw [hw]
    clear hw w2
    by_cases hlt : k < N
    · have hc := HR2.out.c1
      cases hm : m k with
      | none =>
        have HN : Hid (usI (k + 1) m = usI k m) := by
          unfold Hid
          rw [usI_next, hm]
          simp
        obtain ⟨x1, _⟩ := HR2.out.none' k hlt hm
        clear hm
        go_wp2
        go_roundw
        case rel => exact ⟨k + 1, _, rfl, by omega, by go_num, by rw [HN.out]; exact HI.out, HB.out⟩
        case measure => simp [iv]; omega
      | some u =>
        have HN : Hid (usI (k + 1) m = usI k m ++ [(k : Int)]) := by
          unfold Hid
          rw [usI_next, hm]
          simp
        obtain ⟨bb, c, x1, _⟩ := HR2.out.some' k u hm
        clear hm
        have hsz := HB.out.size
        go_wp2_with (at_builtin; refine wpList_append_own _ rfl (.tmp 20) (.tmp 22) 35 rfl w.heap.size 3 i0 _ 1 8 Try.underlying35 hi hz0 hz1 hz2 rfl (by decide) _ (usI k m).length _ rfl (HI.out.alloc _) ⟨wr.heap.size, 0, none⟩ 1 1 [.int .i64 k] rfl rfl (cell_one_new _ _ _) (by intro u hu; simp at hu; subst hu; rfl) (by unfold maxLen; omega) (by omega) (by simp; omega) ?_; intro v2 w2 o2 gr2 nil2)
        go_roundw
        case rel =>
          refine ⟨k + 1, _, rfl, by omega, by go_num, ?_, (HB.out.alloc hsz _).grown gr2 (by simp; omega) (fun y hy => (HI.out.lt y hy).1)⟩
          unfold Is
          rw [HN.out]
          simpa using o2
        case measure => simp [iv]; omega
    · obtain rfl : k = N := by omega
      go_wp2
      go_ret
      exact ⟨v, rfl, HI.out, below_grow HB.out⟩
end Go.Proofs.Ytimmckdghihcjaa
