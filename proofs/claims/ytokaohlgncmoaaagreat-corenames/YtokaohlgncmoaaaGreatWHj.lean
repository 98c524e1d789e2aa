/- The document's disk: what its New, Slots, Write, Read, Erase and Used give back and write; no condition but the ranges that each theorem names. -/
import Derived.Test.YtokaohlgncmoaaaGreatWHi
import Derived.Laws.AppendOwnNone
namespace Go.Proofs.YtokaohlgncmoaaaGreat.D
open Go.ChangeShapes Go.WideShapes Go.ChangeAt Go.RowKit
set_option linter.unusedVariables false
set_option maxRecDepth 8192

def Cl (w : World) (g n : Nat) (s : Nat → Value) : Prop := g < w.heap.size ∧ ∀ i, i < n → w.cell? ⟨g, i, none⟩ = some (s i) ∧ w.frozen? ⟨g, i, none⟩ = false
theorem Cl.kept {w w' : World} {g n : Nat} {s : Nat → Value} {row : Option Nat} (b : Cl w g n s) (h : w.grownBy w' row) (hne : some g ≠ row) : Cl w' g n s :=
  ⟨Nat.lt_of_lt_of_le b.1 h.size, fun i hi => ⟨(h.cell_far _ b.1 hne).trans (b.2 i hi).1, (h.frozen_far _ b.1 hne).trans (b.2 i hi).2⟩⟩
theorem Cl.set {w : World} {g n : Nat} {s : Nat → Value} (b : Cl w g n s) (k : Nat) (v : Value) : Cl (w.setCell ⟨g, k, none⟩ v) g n (fun i => if i = k then v else s i) := by
  refine ⟨by simpa [World.setCell] using b.1, fun i hi => ⟨?_, by rw [World.frozen?_setCell]; exact (b.2 i hi).2⟩⟩
  show _ = some (if i = k then v else s i)
  by_cases e : i = k
  · subst e
    rw [World.cell?_setCell_same _ _ _ (b.2 i hi).1, if_pos rfl]
  · rw [World.cell?_setCell_other _ _ _ _ (by intro h; cases h; exact e rfl), if_neg e]
    exact (b.2 i hi).1
def At (w : World) (g T : Nat) (A : List Nat) (h : Option (Nat → Int)) (v : Value) : Prop := (h = none ∧ v = .slice none 0 0) ∨ ∃ u b c, h = some u ∧ v = .slice (some ⟨b, 0, none⟩) 256 c ∧ c ≤ maxLen ∧ By w b 256 u ∧ b ≠ g ∧ b < T ∧ b ∉ A
structure Rk (w : World) (q g N : Nat) (m : Nat → Option (Nat → Int)) (T : Nat) (A : List Nat) : Prop where
  st : Blk w q 140 [.bool true, .slice (some ⟨g, 0, none⟩) N N]
  cl : ∃ s, Cl w g N s ∧ ∀ j, j < N → At w g T A (m j) (s j)
  ne : q ≠ g
  n : N ≤ 1024
  lt : ∀ j u, m j = some u → j < N ∧ okB 256 u
  q' : q < T ∧ q ∉ A
  g' : g < T ∧ g ∉ A
  t : T ≤ w.heap.size
  a : ∀ x, x ∈ A → x < w.heap.size
theorem At.kept {w w' : World} {g T : Nat} {A : List Nat} {h : Option (Nat → Int)} {v : Value} {row : Option Nat} (x : At w g T A h v) (gr : w.grownBy w' row) (hr : ∀ j, row = some j → T ≤ j ∨ j ∈ A ∨ j = g) : At w' g T A h v := by
  rcases x with x | ⟨u, b, c, h1, h2, hc, h3, h4, h5, h6⟩
  · exact Or.inl x
  · refine Or.inr ⟨u, b, c, h1, h2, hc, h3.kept gr (fun e => ?_), h4, h5, h6⟩
    rcases hr b e.symm with r | r | r
    · omega
    · exact h6 r
    · exact h4 r
theorem Rk.kept {w w' : World} {q g N : Nat} {m : Nat → Option (Nat → Int)} {T : Nat} {A : List Nat} {row : Option Nat} (h : Rk w q g N m T A) (gr : w.grownBy w' row) (hr : ∀ j, row = some j → T ≤ j ∨ j ∈ A) : Rk w' q g N m T A := by
  obtain ⟨s, hs, hc⟩ := h.cl
  have nn : ∀ x, x < T ∧ x ∉ A → some x ≠ row := fun x hx e => by rcases hr x e.symm with r | r; omega; exact hx.2 r
  exact ⟨h.st.kept gr (nn q h.q'), ⟨s, hs.kept gr (nn g h.g'), fun j hj => (hc j hj).kept gr (fun i hi => by rcases hr i hi with r | r; exact Or.inl r; exact Or.inr (Or.inl r))⟩, h.ne, h.n, h.lt, h.q', h.g', Nat.le_trans h.t gr.size, fun x hx => Nat.lt_of_lt_of_le (h.a x hx) gr.size⟩
theorem At.up {w : World} {g T T' : Nat} {A : List Nat} {h : Option (Nat → Int)} {v : Value} (x : At w g T A h v) (hT : T ≤ T') : At w g T' A h v := by
  rcases x with x | ⟨u, b, c, h1, h2, hc, h3, h4, h5, h6⟩
  · exact Or.inl x
  · exact Or.inr ⟨u, b, c, h1, h2, hc, h3, h4, by omega, h6⟩
theorem Rk.up {w : World} {q g N : Nat} {m : Nat → Option (Nat → Int)} {T T' : Nat} {A : List Nat} (h : Rk w q g N m T A) (h1 : T ≤ T') (h2 : T' ≤ w.heap.size) : Rk w q g N m T' A := by
  obtain ⟨s, hs, hc⟩ := h.cl
  exact ⟨h.st, ⟨s, hs, fun j hj => (hc j hj).up h1⟩, h.ne, h.n, h.lt, ⟨by have := h.q'.1; omega, h.q'.2⟩, ⟨by have := h.g'.1; omega, h.g'.2⟩, h2, h.a⟩
theorem Rk.add {w : World} {q g N : Nat} {m : Nat → Option (Nat → Int)} {T x : Nat} {A : List Nat} (h : Rk w q g N m T A) (h1 : T ≤ x) (h2 : x < w.heap.size) : Rk w q g N m T (x :: A) := by
  obtain ⟨s, hs, hc⟩ := h.cl
  have nn : ∀ y, y < T → y ∉ A → y ∉ x :: A := fun y a b c => by rcases List.mem_cons.1 c with r | r; omega; exact b r
  refine ⟨h.st, ⟨s, hs, fun j hj => ?_⟩, h.ne, h.n, h.lt, ⟨h.q'.1, nn q h.q'.1 h.q'.2⟩, ⟨h.g'.1, nn g h.g'.1 h.g'.2⟩, h.t, fun y hy => by rcases List.mem_cons.1 hy with r | r; omega; exact h.a y r⟩
  rcases hc j hj with y | ⟨u, b, c, e1, e2, hc, e3, e4, e5, e6⟩
  · exact Or.inl y
  · exact Or.inr ⟨u, b, c, e1, e2, hc, e3, e4, e5, nn b e5 e6⟩
theorem Rk.c0 {w : World} {q g N : Nat} {m : Nat → Option (Nat → Int)} {T : Nat} {A : List Nat} (h : Rk w q g N m T A) : w.cell? ⟨q, 0, none⟩ = some (.bool true) := h.st.cell 0
theorem Rk.c1 {w : World} {q g N : Nat} {m : Nat → Option (Nat → Int)} {T : Nat} {A : List Nat} (h : Rk w q g N m T A) : w.cell? ⟨q, 1, none⟩ = some (.slice (some ⟨g, 0, none⟩) N N) := h.st.cell 1

theorem Within_any (n a b : Int) (w : World) :
    Calls Tryz.prog 78 #[.int .i64 n, .int .i64 a, .int .i64 b] w fun e w' => e = .returned (.bool (inB n a b)) ∧ w' = w := by
  go_enter Tryz.func78, Tryz.ntmps78
  go_wp2
  all_goals (go_ret; exact ⟨ret_bool (by rw [Bool.eq_iff_iff]; simp [inB]; omega), rfl⟩)
theorem Tryz.infoS : (Tryz.prog.info? 41).map (fun i => (i.zero, i.size, i.bytes)) = some (some (.slice none 0 0), 1, 24) := by kernel_rfl
theorem Tryz.infoU : (Tryz.prog.info? 5).map (fun i => (i.zero, i.size, i.bytes)) = some (some (.int .u8 0), 1, 1) := by kernel_rfl
theorem made_Cl {w : World} {base g M : Nat} (h : w.ownsRow base 41 1 (.slice (some ⟨g, 0, none⟩) M M) M (madeCells #[.slice none 0 0] (M * 1)).toList) : Cl w g M (fun _ => .slice none 0 0) := by
  rcases h.2 with ⟨hnil, _⟩ | ⟨g', cap', cur, hv, hbase, hb, h1, h2, h3, h4⟩
  · cases hnil
  · cases hv
    rw [toList_madeCells_one] at h4
    refine ⟨(Array.getElem?_eq_some_iff.1 hb).1, fun k hk => ?_⟩
    have hcur : cur[k]? = some (.slice none 0 0) := by
      rw [← Array.getElem?_toList, ← List.getElem?_take_of_lt (show k < M * 1 by omega), h4]
      simp [hk]
    simp [World.cell?, World.frozen?, hb, hcur]
theorem rNew_ok (n : Nat) (hn : n ≤ 1024) (A : List Nat) (w : World) (hA : ∀ x, x ∈ A → x < w.heap.size) :
    Calls Tryz.prog 36 #[.int .i64 n] w fun e w' => ∃ q g, e = .returned (.tuple #[.pointer (some ⟨q, 0, none⟩), .int .i64 0]) ∧ Rk w' q g n (fun _ => none) w'.heap.size A ∧ w.grownBy w' none ∧ w.heap.size ≤ q ∧ w.heap.size ≤ g := by
  obtain ⟨i0, hi, hz0, hz1, hz2⟩ := info_parts Tryz.infoS
  have hb := inB_t (show (0 : Int) ≤ n by omega) (show (n : Int) ≤ 1024 by omega)
  go_enter Tryz.func36, Tryz.ntmps36
  go_wp2_with (first
    | (go_at_call 78; refine (Within_any _ _ _ _).mono ?_; rintro e w' ⟨rfl, rfl⟩)
    | (at_make; refine wpList_make_full _ rfl _ _ 138 rfl _ 41 i0 (.slice none 0 0) 1 Tryz.underlying138 hi hz0 hz1 _ _ _ _ n rfl rfl rfl rfl (by rw [hz2]; omega) (by unfold maxLen; omega) (Nat.le_refl _) ?_; intro w1 hown1 hgrow1))
  have hc : Cl w1 w'.heap.size n (fun _ => .slice none 0 0) := made_Cl hown1
  have hg := hgrow1
  have hsz : w'.heap.size < w1.heap.size := hc.1
  clear hown1 hgrow1
  go_ret2
  have gg : w1.grownBy (w1.alloc (.cells #[.bool true, .slice (some ⟨w'.heap.size, 0, none⟩) n n] 140)) none := World.grownBy_alloc _ _ none
  refine ⟨w1.heap.size, w'.heap.size, rfl, ⟨blk_new w1 _ 140, ⟨_, hc.kept gg (by simp), fun j hj => Or.inl ⟨rfl, rfl⟩⟩, by omega, hn, fun j u e => by simp at e, ⟨by simp, fun y => ?_⟩, ⟨by simp; omega, fun y => ?_⟩, Nat.le_refl _, fun x hx => ?_⟩, hg.trans gg, by omega, by omega⟩
  · have := hA _ y; omega
  · have := hA _ y; omega
  · have := hA x hx; simp; omega
theorem slot_any {w : World} {q g N : Nat} {m : Nat → Option (Nat → Int)} {T : Nat} {A : List Nat} (h : Rk w q g N m T A) (k : Int) (er : Int) (he : er = if inB k 0 (N - 1) = true then 0 else 2) :
    Calls Tryz.prog 95 #[.pointer (some ⟨q, 0, none⟩), .int .i64 k] w fun e w' => e = .returned (.int .i64 er) ∧ w' = w := by
  have hc0 := h.c0
  have hc1 := h.c1
  have hn := h.n
  have C : Hid (∀ w : World, Calls Tryz.prog 78 #[.int .i64 k, .int .i64 0, .int .i64 (N - 1)] w fun e w' => e = .returned (.bool (inB k 0 (N - 1))) ∧ w' = w) := fun w => Within_any k 0 (N - 1) w
  clear h
  generalize inB k 0 (N - 1) = bb at *
  cases bb
  · rw [he]
    go_enter Tryz.func95, Tryz.ntmps95
    go_wp2_with (go_at_call 78; refine (C.out _).mono ?_; rintro e w' ⟨rfl, rfl⟩)
    go_ret
    exact ⟨rfl, rfl⟩
  · rw [he]
    go_enter Tryz.func95, Tryz.ntmps95
    go_wp2_with (go_at_call 78; refine (C.out _).mono ?_; rintro e w' ⟨rfl, rfl⟩)
    go_ret
    exact ⟨rfl, rfl⟩
theorem slot_ok {w : World} {q g N : Nat} {m : Nat → Option (Nat → Int)} {T : Nat} {A : List Nat} (h : Rk w q g N m T A) (k : Nat) (hk : k < N) :
    Calls Tryz.prog 95 #[.pointer (some ⟨q, 0, none⟩), .int .i64 k] w fun e w' => e = .returned (.int .i64 0) ∧ w' = w := slot_any h k 0 (by rw [inB_t (by omega) (by omega)]; rfl)
theorem slot_no {w : World} {q g N : Nat} {m : Nat → Option (Nat → Int)} {T : Nat} {A : List Nat} (h : Rk w q g N m T A) (k : Int) (hk : ¬ (0 ≤ k ∧ k < N)) :
    Calls Tryz.prog 95 #[.pointer (some ⟨q, 0, none⟩), .int .i64 k] w fun e w' => e = .returned (.int .i64 2) ∧ w' = w := slot_any h k 2 (by rw [inB_f (by omega)]; rfl)
theorem by_of_owns {w : World} {base g cap m : Nat} {h : Nat → Int} (o : w.ownsRow base 5 1 (.slice (some ⟨g, 0, none⟩) m cap) m (vals m h)) : By w g m h := by
  rcases o.2 with ⟨hnil, _⟩ | ⟨g', cap', cur, hv, hbase, hb, h1, h2, h3, h4⟩
  · cases hnil
  · cases hv
    refine ⟨(Array.getElem?_eq_some_iff.1 hb).1, fun k hk => ?_⟩
    have hcur : cur[k]? = some (.int .u8 (h k)) := by
      rw [← Array.getElem?_toList, ← List.getElem?_take_of_lt (show k < m * 1 by omega), h4]
      exact vals_get m h k hk
    simp [World.cell?, World.frozen?, hb, hcur]
theorem owns_base {w : World} {base g cap m : Nat} {e : TypeId} {xs : List Value} (o : w.ownsRow base e 1 (.slice (some ⟨g, 0, none⟩) m cap) m xs) : base ≤ g ∧ m ≤ cap ∧ cap ≤ maxLen := by
  rcases o.2 with ⟨hnil, _⟩ | ⟨g', cap', cur, hv, hbase, hb, h1, h2, h3, h4⟩
  · cases hnil
  · cases hv
    exact ⟨hbase, h1, h2⟩
theorem Copy_any {w : World} {bb off c : Nat} {u : Nat → Int} (hr : Rd w bb off 256 u) : Calls Tryz.prog 38 #[.slice (some ⟨bb, off, none⟩) 256 c] w fun e w' => ∃ x c', e = .returned (.slice (some ⟨x, 0, none⟩) 256 c') ∧ c' ≤ maxLen ∧ By w' x 256 u ∧ w.heap.size ≤ x ∧ w.grownBy w' none := by
  obtain ⟨i0, hi, hz0, hz1, hz2⟩ := info_parts Tryz.infoU
  have hcells : ∀ j v, (vals 256 u)[j]? = some v → w.cell? ((⟨bb, off, none⟩ : Addr).add j) = some v := by
    intro j v hj
    have hjl : j < 256 := by have := (List.getElem?_eq_some_iff.1 hj).1; rwa [vals_len] at this
    rw [vals_get _ _ _ hjl] at hj
    rw [Go.WideShapes.add_plain, ← hj]
    exact hr.2 j hjl
  have hl := vals_len 256 u
  have h1 := vals_one 256 u
  have HB : Hid (∀ (W : World) base g cap, W.ownsRow base 5 1 (.slice (some ⟨g, 0, none⟩) 256 cap) 256 (vals 256 u) → By W g 256 u) := fun W base g cap o => by_of_owns o
  generalize vals 256 u = C at *
  clear hr
  go_enter Tryz.func38, Tryz.ntmps38
  go_wp2_with (at_builtin; refine wpList_append_own _ rfl (.tmp 4) (.tmp 5) 41 rfl w.heap.size 5 i0 _ 1 1 Tryz.underlying41 hi hz0 hz1 hz2 rfl (by decide) (.slice none 0 0) 0 [] rfl (World.ownsRow_nil _ _ _ _) ⟨bb, off, none⟩ 256 c C rfl (by rw [hl]) hcells h1 (by unfold maxLen; omega) (by omega) (Nat.le_refl _) ?_; intro v1 w1 o1 gr1 nil1)
  rw [Nat.zero_add, List.nil_append] at o1
  obtain ⟨g, c', rfl, hbg, hgl⟩ := o1.form (by omega)
  obtain ⟨q1, q2, q3⟩ := owns_base o1
  have HO : Hid (By w1 g 256 u) := HB.out _ _ _ _ o1
  have HG : Hid (w.grownBy w1 none) := gr1
  clear o1 nil1 gr1 hcells
  go_wp2
  go_ret
  exact ⟨g, c', rfl, q3, HO.out, q1, HG.out⟩
end Go.Proofs.YtokaohlgncmoaaaGreat.D
namespace Go.Proofs.YtokaohlgncmoaaaGreat.D
open Go.ChangeShapes Go.WideShapes Go.ChangeAt Go.RowKit
set_option linter.unusedVariables false
set_option maxRecDepth 8192

theorem grown_any {w w' : World} (h : w.grownBy w' none) (row : Option Nat) : w.grownBy w' row := ⟨h.os, h.tape, h.output, h.size, fun i hi _ => h.block i hi (by simp)⟩
theorem rWrite_no {w : World} {q g N : Nat} {m : Nat → Option (Nat → Int)} {T : Nat} {A : List Nat} (h : Rk w q g N m T A) (k : Int) (hk : ¬ (0 ≤ k ∧ k < N)) (v : Value) : Calls Tryz.prog 54 #[.pointer (some ⟨q, 0, none⟩), .int .i64 k, v] w fun e w' => e = .returned (.int .i64 2) ∧ w' = w := by
  have C1 : Hid (Calls _ _ _ _ _) := slot_no h k hk
  clear h hk
  go_enter Tryz.func54, Tryz.ntmps54
  go_wp2_with (go_at_call 95; refine C1.out.mono ?_; rintro e w' ⟨rfl, rfl⟩)
  go_ret
  exact ⟨rfl, rfl⟩
theorem rWrite_len {w : World} {q g N : Nat} {m : Nat → Option (Nat → Int)} {T : Nat} {A : List Nat} (h : Rk w q g N m T A) (k : Nat) (hk : k < N) (ao : Option Addr) (l c : Nat) (hl : l ≠ 256) (hm : l ≤ maxLen) : Calls Tryz.prog 54 #[.pointer (some ⟨q, 0, none⟩), .int .i64 k, .slice ao l c] w fun e w' => e = .returned (.int .i64 2) ∧ w' = w := by
  have C1 : Hid (Calls _ _ _ _ _) := slot_ok h k hk
  have hb : ((l : Int) != 256) = true := by rw [bne_iff_ne]; omega
  unfold maxLen at hm
  clear h hk
  go_enter Tryz.func54, Tryz.ntmps54
  go_wp2_with (go_at_call 95; refine C1.out.mono ?_; rintro e w' ⟨rfl, rfl⟩)
  go_ret
  exact ⟨rfl, rfl⟩
theorem Rk.put {w w1 : World} {q g N : Nat} {m : Nat → Option (Nat → Int)} {T : Nat} {A : List Nat} (h : Rk w q g N m T A) (gr : w.grownBy w1 none) (k : Nat) (hk : k < N) (x c : Nat) (hc : c ≤ maxLen) (u : Nat → Int) (hu : okB 256 u) (hB : By w1 x 256 u) (hx : w.heap.size ≤ x) :
    Rk (w1.setCell ⟨g, k, none⟩ (.slice (some ⟨x, 0, none⟩) 256 c)) q g N (pt m k (some u)) w1.heap.size A := by
  have h1 := (h.kept gr (by simp)).up (T' := w1.heap.size) (Nat.le_trans h.t gr.size) (Nat.le_refl _)
  obtain ⟨s, hs, hcl⟩ := h1.cl
  have G := grown_setCell' w1 g k (.slice (some ⟨x, 0, none⟩) 256 c)
  have hg := h.g'.1
  have ht := h.t
  refine ⟨h1.st.kept G (some_ne h1.ne), ⟨_, hs.set k _, fun j hj => ?_⟩, h1.ne, h1.n, fun j v e => ?_, h1.q', h1.g', G.size, fun y hy => Nat.lt_of_lt_of_le (h1.a y hy) G.size⟩
  · unfold pt
    by_cases e : j = k
    · rw [if_pos e, if_pos e]
      exact Or.inr ⟨u, x, c, rfl, rfl, hc, hB.kept G (some_ne (by omega)), by omega, hB.1, fun y => by have := h.a x y; omega⟩
    · rw [if_neg e, if_neg e]
      exact (hcl j hj).kept G (fun i hi => by injection hi with hi; exact Or.inr (Or.inr hi.symm))
  · unfold pt at e
    by_cases ej : j = k
    · rw [if_pos ej] at e
      cases e
      exact ⟨by omega, hu⟩
    · rw [if_neg ej] at e
      exact h.lt j v e
theorem Rk.old {w : World} {q g N : Nat} {m : Nat → Option (Nat → Int)} {T : Nat} {A : List Nat} (h : Rk w q g N m T A) (k : Nat) (hk : k < N) : ∃ a l c, w.cell? ⟨g, k, none⟩ = some (.slice a l c) ∧ w.frozen? ⟨g, k, none⟩ = false := by
  obtain ⟨s, hs, hc⟩ := h.cl
  obtain ⟨h1, h2⟩ := hs.2 k hk
  rcases hc k hk with ⟨_, e⟩ | ⟨u, b, c, _, e, _⟩
  · exact ⟨_, _, _, by rw [h1, e], h2⟩
  · exact ⟨_, _, _, by rw [h1, e], h2⟩
set_option maxRecDepth 100000 in
set_option maxHeartbeats 1000000 in
theorem rWrite_ok {w : World} {q g N : Nat} {m : Nat → Option (Nat → Int)} {T : Nat} {A : List Nat} (h : Rk w q g N m T A) (k : Nat) (hk : k < N) (bb off cap : Nat) (u : Nat → Int) (hr : Rd w bb off 256 u) (hu : okB 256 u) :
    Calls Tryz.prog 54 #[.pointer (some ⟨q, 0, none⟩), .int .i64 k, .slice (some ⟨bb, off, none⟩) 256 cap] w fun e w' => e = .returned (.int .i64 0) ∧ Rk w' q g N (pt m k (some u)) w'.heap.size A ∧ w.grownBy w' (some g) := by
  have HD : Hid (Rk w q g N m T A) := h
  have HU : Hid (okB 256 u) := hu
  have C1 : Hid (Calls _ _ _ _ _) := slot_ok h k hk
  have C2 : Hid (∀ n, Calls Tryz.prog 38 #[.slice (some ⟨bb, off, none⟩) 256 cap] (w.drewN n) fun e w' => ∃ x c', e = .returned (.slice (some ⟨x, 0, none⟩) 256 c') ∧ c' ≤ maxLen ∧ By w' x 256 u ∧ w.heap.size ≤ x ∧ (w.drewN n).grownBy w' none) := fun n => Copy_any (w := w.drewN n) hr
  have hc := h.c1
  have hn := h.n
  clear h hr hu
  go_enter Tryz.func54, Tryz.ntmps54
  go_wp2_with (go_at_call 95; refine C1.out.mono ?_; rintro e w' ⟨rfl, rfl⟩)
  go_region_held3 (fun W => W.cell? ⟨q, 1, none⟩ = some (.slice (some ⟨g, 0, none⟩) N N)) (first | exact hc | exact HS2.out | exact HS3.out _)
    ((go_at_call 38; refine (C2.out 1).mono ?_; rintro e w2 ⟨x, c', rfl, hcm, hB, hx, gr⟩; have HG : Hid (w'.grownBy w2 none) := (grown_drewN w' 1 none).trans gr; have HB : Hid (By w2 x 256 u) := hB; have HR2 : Hid (Rk w2 q g N m T A) := HD.out.kept HG.out (by simp); have HS2 : Hid (w2.cell? ⟨q, 1, none⟩ = some (.slice (some ⟨g, 0, none⟩) N N)) := HR2.out.c1; have HS3 : Hid (∀ v, (w2.setCell ⟨g, k, none⟩ v).cell? ⟨q, 1, none⟩ = some (.slice (some ⟨g, 0, none⟩) N N)) := fun v => (World.cell?_setCell_other _ _ _ _ (by intro e; injection e with e1; exact HR2.out.ne e1.symm)).trans HS2.out; obtain ⟨a0, l0, c0, hv0, hf0⟩ := HR2.out.old k hk; clear hB gr))
  go_wp2
  go_ret
  exact ⟨rfl, (HD.out.put HG.out k hk x c' hcm u HU.out HB.out hx).up (by simp [World.setCell]) (Nat.le_refl _), (grown_any HG.out (some g)).trans (grown_setCell' _ _ _ _)⟩
theorem rRead_no {w : World} {q g N : Nat} {m : Nat → Option (Nat → Int)} {T : Nat} {A : List Nat} (h : Rk w q g N m T A) (k : Int) (hk : ¬ (0 ≤ k ∧ k < N)) : Calls Tryz.prog 56 #[.pointer (some ⟨q, 0, none⟩), .int .i64 k] w fun e w' => e = .returned (.tuple #[.slice none 0 0, .int .i64 2]) ∧ w' = w := by
  have C1 : Hid (Calls _ _ _ _ _) := slot_no h k hk
  clear h hk
  go_enter Tryz.func56, Tryz.ntmps56
  go_wp2_with (go_at_call 95; refine C1.out.mono ?_; rintro e w' ⟨rfl, rfl⟩)
  go_ret2
  exact ⟨rfl, rfl⟩
theorem Rk.none' {w : World} {q g N : Nat} {m : Nat → Option (Nat → Int)} {T : Nat} {A : List Nat} (h : Rk w q g N m T A) (k : Nat) (hk : k < N) (e0 : m k = none) : w.cell? ⟨g, k, none⟩ = some (.slice none 0 0) ∧ w.frozen? ⟨g, k, none⟩ = false := by
  obtain ⟨s, hs, hc⟩ := h.cl
  obtain ⟨h1, h2⟩ := hs.2 k hk
  rcases hc k hk with ⟨_, e⟩ | ⟨u, b, c, e1, e, _⟩
  · exact ⟨by rw [h1, e], h2⟩
  · rw [e0] at e1; cases e1
theorem Rk.some' {w : World} {q g N : Nat} {m : Nat → Option (Nat → Int)} {T : Nat} {A : List Nat} (h : Rk w q g N m T A) (k : Nat) (u : Nat → Int) (e0 : m k = some u) : ∃ b c, w.cell? ⟨g, k, none⟩ = some (.slice (some ⟨b, 0, none⟩) 256 c) ∧ w.frozen? ⟨g, k, none⟩ = false ∧ c ≤ maxLen ∧ By w b 256 u := by
  obtain ⟨s, hs, hc⟩ := h.cl
  have hk := (h.lt k u e0).1
  obtain ⟨h1, h2⟩ := hs.2 k hk
  rcases hc k hk with ⟨e1, e⟩ | ⟨v, b, c, e1, e, hc, hB, _⟩
  · rw [e0] at e1; cases e1
  · rw [e0] at e1
    cases e1
    exact ⟨b, c, by rw [h1, e], h2, hc, hB⟩
theorem rRead_none {w : World} {q g N : Nat} {m : Nat → Option (Nat → Int)} {T : Nat} {A : List Nat} (h : Rk w q g N m T A) (k : Nat) (hk : k < N) (e0 : m k = none) : Calls Tryz.prog 56 #[.pointer (some ⟨q, 0, none⟩), .int .i64 k] w fun e w' => e = .returned (.tuple #[.slice none 0 0, .int .i64 60]) ∧ w' = w := by
  have C1 : Hid (Calls _ _ _ _ _) := slot_ok h k hk
  have hc := h.c1
  have hn := h.n
  obtain ⟨x1, _⟩ := h.none' k hk e0
  clear h
  go_enter Tryz.func56, Tryz.ntmps56
  go_wp2_with (go_at_call 95; refine C1.out.mono ?_; rintro e w' ⟨rfl, rfl⟩)
  go_ret2
  exact ⟨rfl, rfl⟩
theorem rRead_ok {w : World} {q g N : Nat} {m : Nat → Option (Nat → Int)} {T : Nat} {A : List Nat} (h : Rk w q g N m T A) (k : Nat) (u : Nat → Int) (e0 : m k = some u) :
    Calls Tryz.prog 56 #[.pointer (some ⟨q, 0, none⟩), .int .i64 k] w fun e w' => ∃ x c, e = .returned (.tuple #[.slice (some ⟨x, 0, none⟩) 256 c, .int .i64 0]) ∧ c ≤ maxLen ∧ By w' x 256 u ∧ w.heap.size ≤ x ∧ w.grownBy w' none := by
  have hk := (h.lt k u e0).1
  have C1 : Hid (Calls _ _ _ _ _) := slot_ok h k hk
  have hc := h.c1
  have hn := h.n
  obtain ⟨b, c, x1, _, hcm, hB⟩ := h.some' k u e0
  have C2 : Hid (Calls _ _ _ _ _) := Copy_any (c := c) hB.rd
  unfold maxLen at hcm
  clear h hB
  go_enter Tryz.func56, Tryz.ntmps56
  go_wp2_with (first | (go_at_call 95; refine C1.out.mono ?_; rintro e w' ⟨rfl, rfl⟩) | (go_at_call 38; refine C2.out.mono ?_; rintro e w2 ⟨x, c', rfl, hcm, hB, hx, gr⟩; have HG : Hid (w'.grownBy w2 none) := gr; have HB : Hid (By w2 x 256 u) := hB; clear hB gr))
  go_ret2
  exact ⟨x, c', rfl, hcm, HB.out, hx, HG.out⟩
end Go.Proofs.YtokaohlgncmoaaaGreat.D
