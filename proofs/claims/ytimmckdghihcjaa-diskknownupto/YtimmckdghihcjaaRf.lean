/- The document's disk: what its New, Slots, Write, Read, Erase and Used give back and write; no condition but the ranges that each theorem names. -/
import Derived.Test.YtimmckdghihcjaaUs
import Derived.Laws.AppendOwnNone
namespace Go.Proofs.Ytimmckdghihcjaa
open Go.ChangeShapes Go.WideShapes Go.ChangeAt Go.RowKit
set_option linter.unusedVariables false

/-- Cells that may be written: a block's first n. -/
def Cl (w : World) (g n : Nat) (s : Nat → Value) : Prop := g < w.heap.size ∧ ∀ i, i < n → w.cell? ⟨g, i, none⟩ = some (s i) ∧ w.frozen? ⟨g, i, none⟩ = false
theorem Cl.kept {w w' : World} {g n : Nat} {s : Nat → Value} {row : Option Nat} (b : Cl w g n s) (h : w.grownBy w' row) (hne : some g ≠ row) : Cl w' g n s :=
  ⟨Nat.lt_of_lt_of_le b.1 h.size, fun i hi => ⟨(h.cell_far _ b.1 hne).trans (b.2 i hi).1, (h.frozen_far _ b.1 hne).trans (b.2 i hi).2⟩⟩
theorem Cl.set {w : World} {g n : Nat} {s : Nat → Value} (b : Cl w g n s) (k : Nat) (v : Value) : Cl (w.setCell ⟨g, k, none⟩ v) g n (fun i => if i = k then v else s i) := by
  refine ⟨by simpa [World.setCell] using b.1, fun i hi => ⟨?_, by rw [World.frozen?_setCell]; exact (b.2 i hi).2⟩⟩
  show _ = some (if i = k then v else s i)
  by_cases e : i = k
  · subst e
    rw [World.cell?_setCell_same _ _ _ (b.2 i hi).1, if_pos rfl]
  · rw [World.cell?_setCell_other _ _ _ _ (by intro h; cases h; exact e rfl), if_neg e]
    exact (b.2 i hi).1
/-- What slot j's cell is. -/
def At (w : World) (g T : Nat) (A : List Nat) (h : Option (Nat → Int)) (v : Value) : Prop := (h = none ∧ v = .slice none 0 0) ∨ ∃ u b c, h = some u ∧ v = .slice (some ⟨b, 0, none⟩) 256 c ∧ c ≤ maxLen ∧ By w b 256 u ∧ b ≠ g ∧ b < T ∧ b ∉ A
/-- The document's disk: its struct at block q, its slots at block g; all its blocks are below T, none is in A. -/
structure Rk (w : World) (q g N : Nat) (m : Nat → Option (Nat → Int)) (T : Nat) (A : List Nat) : Prop where
  st : Blk w q 55 [.bool true, .slice (some ⟨g, 0, none⟩) N N]
  cl : ∃ s, Cl w g N s ∧ ∀ j, j < N → At w g T A (m j) (s j)
  ne : q ≠ g
  n : N ≤ 1024
  lt : ∀ j u, m j = some u → j < N ∧ okB 256 u
  q' : q < T ∧ q ∉ A
  g' : g < T ∧ g ∉ A
  t : T ≤ w.heap.size
  a : ∀ x, x ∈ A → x < w.heap.size
theorem At.kept {w w' : World} {g T : Nat} {A : List Nat} {h : Option (Nat → Int)} {v : Value} {row : Option Nat} (x : At w g T A h v) (gr : w.grownBy w' row) (hr : ∀ j, row = some j → T ≤ j ∨ j ∈ A ∨ j = g) : At w' g T A h v := by
  rcases x with x | ⟨u, b, c, h1, h2, hc, h3, h4, h5, h6⟩
  · exact Or.inl x
  · refine Or.inr ⟨u, b, c, h1, h2, hc, h3.kept gr (fun e => ?_), h4, h5, h6⟩
    rcases hr b e.symm with r | r | r
    · omega
    · exact h6 r
    · exact h4 r
theorem Rk.kept {w w' : World} {q g N : Nat} {m : Nat → Option (Nat → Int)} {T : Nat} {A : List Nat} {row : Option Nat} (h : Rk w q g N m T A) (gr : w.grownBy w' row) (hr : ∀ j, row = some j → T ≤ j ∨ j ∈ A) : Rk w' q g N m T A := by
  obtain ⟨s, hs, hc⟩ := h.cl
  have nn : ∀ x, x < T ∧ x ∉ A → some x ≠ row := fun x hx e => by rcases hr x e.symm with r | r; omega; exact hx.2 r
  exact ⟨h.st.kept gr (nn q h.q'), ⟨s, hs.kept gr (nn g h.g'), fun j hj => (hc j hj).kept gr (fun i hi => by rcases hr i hi with r | r; exact Or.inl r; exact Or.inr (Or.inl r))⟩, h.ne, h.n, h.lt, h.q', h.g', Nat.le_trans h.t gr.size, fun x hx => Nat.lt_of_lt_of_le (h.a x hx) gr.size⟩
theorem At.up {w : World} {g T T' : Nat} {A : List Nat} {h : Option (Nat → Int)} {v : Value} (x : At w g T A h v) (hT : T ≤ T') : At w g T' A h v := by
  rcases x with x | ⟨u, b, c, h1, h2, hc, h3, h4, h5, h6⟩
  · exact Or.inl x
  · exact Or.inr ⟨u, b, c, h1, h2, hc, h3, h4, by omega, h6⟩
theorem Rk.up {w : World} {q g N : Nat} {m : Nat → Option (Nat → Int)} {T T' : Nat} {A : List Nat} (h : Rk w q g N m T A) (h1 : T ≤ T') (h2 : T' ≤ w.heap.size) : Rk w q g N m T' A := by
  obtain ⟨s, hs, hc⟩ := h.cl
  exact ⟨h.st, ⟨s, hs, fun j hj => (hc j hj).up h1⟩, h.ne, h.n, h.lt, ⟨by have := h.q'.1; omega, h.q'.2⟩, ⟨by have := h.g'.1; omega, h.g'.2⟩, h2, h.a⟩
/-- One block more that is none of its own. -/
theorem Rk.add {w : World} {q g N : Nat} {m : Nat → Option (Nat → Int)} {T x : Nat} {A : List Nat} (h : Rk w q g N m T A) (h1 : T ≤ x) (h2 : x < w.heap.size) : Rk w q g N m T (x :: A) := by
  obtain ⟨s, hs, hc⟩ := h.cl
  have nn : ∀ y, y < T → y ∉ A → y ∉ x :: A := fun y a b c => by rcases List.mem_cons.1 c with r | r; omega; exact b r
  refine ⟨h.st, ⟨s, hs, fun j hj => ?_⟩, h.ne, h.n, h.lt, ⟨h.q'.1, nn q h.q'.1 h.q'.2⟩, ⟨h.g'.1, nn g h.g'.1 h.g'.2⟩, h.t, fun y hy => by rcases List.mem_cons.1 hy with r | r; omega; exact h.a y r⟩
  rcases hc j hj with y | ⟨u, b, c, e1, e2, hc, e3, e4, e5, e6⟩
  · exact Or.inl y
  · exact Or.inr ⟨u, b, c, e1, e2, hc, e3, e4, e5, nn b e5 e6⟩
theorem Rk.sub {w : World} {q g N : Nat} {m : Nat → Option (Nat → Int)} {T : Nat} {A A' : List Nat} (h : Rk w q g N m T A) (hA : ∀ x, x ∈ A' → x ∈ A) : Rk w q g N m T A' := by
  obtain ⟨s, hs, hc⟩ := h.cl
  refine ⟨h.st, ⟨s, hs, fun j hj => ?_⟩, h.ne, h.n, h.lt, ⟨h.q'.1, fun y => h.q'.2 (hA _ y)⟩, ⟨h.g'.1, fun y => h.g'.2 (hA _ y)⟩, h.t, fun y hy => h.a y (hA y hy)⟩
  rcases hc j hj with y | ⟨u, b, c, e1, e2, hc, e3, e4, e5, e6⟩
  · exact Or.inl y
  · exact Or.inr ⟨u, b, c, e1, e2, hc, e3, e4, e5, fun y => e6 (hA _ y)⟩
theorem Rk.c0 {w : World} {q g N : Nat} {m : Nat → Option (Nat → Int)} {T : Nat} {A : List Nat} (h : Rk w q g N m T A) : w.cell? ⟨q, 0, none⟩ = some (.bool true) := h.st.cell 0
theorem Rk.c1 {w : World} {q g N : Nat} {m : Nat → Option (Nat → Int)} {T : Nat} {A : List Nat} (h : Rk w q g N m T A) : w.cell? ⟨q, 1, none⟩ = some (.slice (some ⟨g, 0, none⟩) N N) := h.st.cell 1

theorem Within_any (n a b : Int) (w : World) :
    Calls Try.prog 22 #[.int .i64 n, .int .i64 a, .int .i64 b] w fun e w' => e = .returned (.bool (inB n a b)) ∧ w' = w := by
  go_enter Try.func22, Try.ntmps22
  go_wp2
  all_goals (go_ret; exact ⟨ret_bool (by rw [Bool.eq_iff_iff]; simp [inB]; omega), rfl⟩)
theorem rNew_no (n : Int) (h : n < 0 ∨ 1024 < n) (w : World) : Calls Try.prog 7 #[.int .i64 n] w fun e w' => e = .returned (.tuple #[.pointer none, .int .i64 2]) ∧ w' = w := by
  have hb := inB_f h
  go_enter Try.func7, Try.ntmps7
  go_wp2_with (go_at_call 22; refine (Within_any _ _ _ _).mono ?_; rintro e w' ⟨rfl, rfl⟩)
  all_goals (go_ret2; exact ⟨rfl, rfl⟩)
theorem Try.infoS : (Try.prog.info? 32).map (fun i => (i.zero, i.size, i.bytes)) = some (some (.slice none 0 0), 1, 24) := by kernel_rfl
theorem Try.infoU : (Try.prog.info? 5).map (fun i => (i.zero, i.size, i.bytes)) = some (some (.int .u8 0), 1, 1) := by kernel_rfl
theorem Try.infoI : (Try.prog.info? 3).map (fun i => (i.zero, i.size, i.bytes)) = some (some (.int .i64 0), 1, 8) := by kernel_rfl
theorem made_Cl {w : World} {base g M : Nat} (h : w.ownsRow base 32 1 (.slice (some ⟨g, 0, none⟩) M M) M (madeCells #[.slice none 0 0] (M * 1)).toList) : Cl w g M (fun _ => .slice none 0 0) := by
  rcases h.2 with ⟨hnil, _⟩ | ⟨g', cap', cur, hv, hbase, hb, h1, h2, h3, h4⟩
  · cases hnil
  · cases hv
    rw [toList_madeCells_one] at h4
    refine ⟨(Array.getElem?_eq_some_iff.1 hb).1, fun k hk => ?_⟩
    have hcur : cur[k]? = some (.slice none 0 0) := by
      rw [← Array.getElem?_toList, ← List.getElem?_take_of_lt (show k < M * 1 by omega), h4]
      simp [hk]
    simp [World.cell?, World.frozen?, hb, hcur]
theorem rNew_ok (n : Nat) (hn : n ≤ 1024) (A : List Nat) (w : World) (hA : ∀ x, x ∈ A → x < w.heap.size) :
    Calls Try.prog 7 #[.int .i64 n] w fun e w' => ∃ q g, e = .returned (.tuple #[.pointer (some ⟨q, 0, none⟩), .int .i64 0]) ∧ Rk w' q g n (fun _ => none) w'.heap.size A ∧ w.grownBy w' none ∧ w.heap.size ≤ q ∧ w.heap.size ≤ g := by
  obtain ⟨i0, hi, hz0, hz1, hz2⟩ := info_parts Try.infoS
  have hb := inB_t (show (0 : Int) ≤ n by omega) (show (n : Int) ≤ 1024 by omega)
  go_enter Try.func7, Try.ntmps7
  go_wp2_with (first
    | (go_at_call 22; refine (Within_any _ _ _ _).mono ?_; rintro e w' ⟨rfl, rfl⟩)
    | (at_make; refine wpList_make_full _ rfl _ _ 53 rfl _ 32 i0 (.slice none 0 0) 1 Try.underlying53 hi hz0 hz1 _ _ _ _ n rfl rfl rfl rfl (by rw [hz2]; omega) (by unfold maxLen; omega) (Nat.le_refl _) ?_; intro w1 hown1 hgrow1))
  have hc : Cl w1 w'.heap.size n (fun _ => .slice none 0 0) := made_Cl hown1
  have hg := hgrow1
  have hsz : w'.heap.size < w1.heap.size := hc.1
  clear hown1 hgrow1
  go_ret2
  have gg : w1.grownBy (w1.alloc (.cells #[.bool true, .slice (some ⟨w'.heap.size, 0, none⟩) n n] 55)) none := World.grownBy_alloc _ _ none
  refine ⟨w1.heap.size, w'.heap.size, rfl, ⟨blk_new w1 _ 55, ⟨_, hc.kept gg (by simp), fun j hj => Or.inl ⟨rfl, rfl⟩⟩, by omega, hn, fun j u e => by simp at e, ⟨by simp, fun y => ?_⟩, ⟨by simp; omega, fun y => ?_⟩, Nat.le_refl _, fun x hx => ?_⟩, hg.trans gg, by omega, by omega⟩
  · have := hA _ y; omega
  · have := hA _ y; omega
  · have := hA x hx; simp; omega
theorem rSlots_any {w : World} {q g N : Nat} {m : Nat → Option (Nat → Int)} {T : Nat} {A : List Nat} (h : Rk w q g N m T A) : Calls Try.prog 9 #[.pointer (some ⟨q, 0, none⟩)] w fun e w' => e = .returned (.int .i64 N) ∧ w' = w := by
  have hc := h.c1
  have hn := h.n
  clear h
  go_enter Try.func9, Try.ntmps9
  go_wp2
  go_ret
  exact ⟨rfl, rfl⟩
theorem rSlots_nil (w : World) : Calls Try.prog 9 #[.pointer none] w fun e w' => e = .returned (.int .i64 0) ∧ w' = w := by
  go_enter Try.func9, Try.ntmps9
  go_wp2
  go_ret
  exact ⟨rfl, rfl⟩
theorem slot_nil (w : World) (k : Int) : Calls Try.prog 34 #[.pointer none, .int .i64 k] w fun e w' => e = .returned (.int .i64 1) ∧ w' = w := by
  go_enter Try.func34, Try.ntmps34
  go_wp2
  go_ret
  exact ⟨rfl, rfl⟩
theorem slot_any {w : World} {q g N : Nat} {m : Nat → Option (Nat → Int)} {T : Nat} {A : List Nat} (h : Rk w q g N m T A) (k : Int) (er : Int) (he : er = if inB k 0 (N - 1) = true then 0 else 2) :
    Calls Try.prog 34 #[.pointer (some ⟨q, 0, none⟩), .int .i64 k] w fun e w' => e = .returned (.int .i64 er) ∧ w' = w := by
  have hc0 := h.c0
  have hc1 := h.c1
  have hn := h.n
  have C : Hid (∀ w : World, Calls Try.prog 22 #[.int .i64 k, .int .i64 0, .int .i64 (N - 1)] w fun e w' => e = .returned (.bool (inB k 0 (N - 1))) ∧ w' = w) := fun w => Within_any k 0 (N - 1) w
  clear h
  generalize inB k 0 (N - 1) = bb at *
  cases bb
  · rw [he]
    go_enter Try.func34, Try.ntmps34
    go_wp2_with (go_at_call 22; refine (C.out _).mono ?_; rintro e w' ⟨rfl, rfl⟩)
    go_ret
    exact ⟨rfl, rfl⟩
  · rw [he]
    go_enter Try.func34, Try.ntmps34
    go_wp2_with (go_at_call 22; refine (C.out _).mono ?_; rintro e w' ⟨rfl, rfl⟩)
    go_ret
    exact ⟨rfl, rfl⟩
theorem slot_ok {w : World} {q g N : Nat} {m : Nat → Option (Nat → Int)} {T : Nat} {A : List Nat} (h : Rk w q g N m T A) (k : Nat) (hk : k < N) :
    Calls Try.prog 34 #[.pointer (some ⟨q, 0, none⟩), .int .i64 k] w fun e w' => e = .returned (.int .i64 0) ∧ w' = w := slot_any h k 0 (by rw [inB_t (by omega) (by omega)]; rfl)
theorem slot_no {w : World} {q g N : Nat} {m : Nat → Option (Nat → Int)} {T : Nat} {A : List Nat} (h : Rk w q g N m T A) (k : Int) (hk : ¬ (0 ≤ k ∧ k < N)) :
    Calls Try.prog 34 #[.pointer (some ⟨q, 0, none⟩), .int .i64 k] w fun e w' => e = .returned (.int .i64 2) ∧ w' = w := slot_any h k 2 (by rw [inB_f (by omega)]; rfl)
theorem by_of_owns {w : World} {base g cap m : Nat} {h : Nat → Int} (o : w.ownsRow base 5 1 (.slice (some ⟨g, 0, none⟩) m cap) m (vals m h)) : By w g m h := by
  rcases o.2 with ⟨hnil, _⟩ | ⟨g', cap', cur, hv, hbase, hb, h1, h2, h3, h4⟩
  · cases hnil
  · cases hv
    refine ⟨(Array.getElem?_eq_some_iff.1 hb).1, fun k hk => ?_⟩
    have hcur : cur[k]? = some (.int .u8 (h k)) := by
      rw [← Array.getElem?_toList, ← List.getElem?_take_of_lt (show k < m * 1 by omega), h4]
      exact vals_get m h k hk
    simp [World.cell?, World.frozen?, hb, hcur]
theorem owns_base {w : World} {base g cap m : Nat} {e : TypeId} {xs : List Value} (o : w.ownsRow base e 1 (.slice (some ⟨g, 0, none⟩) m cap) m xs) : base ≤ g ∧ m ≤ cap ∧ cap ≤ maxLen := by
  rcases o.2 with ⟨hnil, _⟩ | ⟨g', cap', cur, hv, hbase, hb, h1, h2, h3, h4⟩
  · cases hnil
  · cases hv
    exact ⟨hbase, h1, h2⟩
/-- A copy of 256 bytes. -/
theorem Copy_any {w : World} {bb off c : Nat} {u : Nat → Int} (hr : Rd w bb off 256 u) : Calls Try.prog 35 #[.slice (some ⟨bb, off, none⟩) 256 c] w fun e w' => ∃ x c', e = .returned (.slice (some ⟨x, 0, none⟩) 256 c') ∧ c' ≤ maxLen ∧ By w' x 256 u ∧ w.heap.size ≤ x ∧ w.grownBy w' none := by
  obtain ⟨i0, hi, hz0, hz1, hz2⟩ := info_parts Try.infoU
  have hcells : ∀ j v, (vals 256 u)[j]? = some v → w.cell? ((⟨bb, off, none⟩ : Addr).add j) = some v := by
    intro j v hj
    have hjl : j < 256 := by have := (List.getElem?_eq_some_iff.1 hj).1; rwa [vals_len] at this
    rw [vals_get _ _ _ hjl] at hj
    rw [Go.WideShapes.add_plain, ← hj]
    exact hr.2 j hjl
  have hl := vals_len 256 u
  have h1 := vals_one 256 u
  have HB : Hid (∀ (W : World) base g cap, W.ownsRow base 5 1 (.slice (some ⟨g, 0, none⟩) 256 cap) 256 (vals 256 u) → By W g 256 u) := fun W base g cap o => by_of_owns o
  generalize vals 256 u = C at *
  clear hr
  go_enter Try.func35, Try.ntmps35
  go_wp2_with (at_builtin; refine wpList_append_own _ rfl (.tmp 4) (.tmp 5) 32 rfl w.heap.size 5 i0 _ 1 1 Try.underlying32 hi hz0 hz1 hz2 rfl (by decide) (.slice none 0 0) 0 [] rfl (World.ownsRow_nil _ _ _ _) ⟨bb, off, none⟩ 256 c C rfl (by rw [hl]) hcells h1 (by unfold maxLen; omega) (by omega) (Nat.le_refl _) ?_; intro v1 w1 o1 gr1 nil1)
  rw [Nat.zero_add, List.nil_append] at o1
  obtain ⟨g, c', rfl, hbg, hgl⟩ := o1.form (by omega)
  obtain ⟨q1, q2, q3⟩ := owns_base o1
  have HO : Hid (By w1 g 256 u) := HB.out _ _ _ _ o1
  have HG : Hid (w.grownBy w1 none) := gr1
  clear o1 nil1 gr1 hcells
  go_wp2
  go_ret
  exact ⟨g, c', rfl, q3, HO.out, q1, HG.out⟩
end Go.Proofs.Ytimmckdghihcjaa
