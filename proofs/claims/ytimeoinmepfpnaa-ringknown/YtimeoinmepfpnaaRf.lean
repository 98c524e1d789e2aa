/- The library's slices.Insert and Delete over rows of numbers of their own; no condition but the ranges that each theorem names. -/
import Derived.Test.YtimeoinmepfpnaaRe
namespace Go.Proofs.Ytimeoinmepfpnaa.Ri
open Go.ChangeShapes Go.WideShapes Go.ChangeAt Go.RowKit
set_option linter.unusedVariables false
set_option maxRecDepth 8192

/-! ### The library over rows of numbers -/
theorem Own.holds {w : World} {g cap : Nat} {l : List Int} (h : Own w (.slice (some ⟨g, 0, none⟩) l.length cap) l) : Go.Sort.Holds (Value.int .i64) w g 0 l.toArray := by
  obtain ⟨g', cap', e, _, _, _, _, _, hH⟩ := Go.Lib.holds_of_ownsRow (enc := Value.int .i64) h (by simp)
  cases e
  exact hH
theorem del_call {w : World} {g cap : Nat} {l : List Int} (h : Own w (.slice (some ⟨g, 0, none⟩) l.length cap) l) (hc : l.length ≤ cap) (hm : cap ≤ maxLen) (i : Nat) (hi : i < l.length) :
    Calls Try.prog 36 #[.slice (some ⟨g, 0, none⟩) l.length cap, .int .i64 i, .int .i64 (i + 1 : Nat)] w fun e w' => e = .returned (.slice (some ⟨g, 0, none⟩) (l.length - (i + 1 - i)) cap) ∧ ∃ q, w' = Go.Sort.putRow (Value.int .i64) (Go.Sort.ahead w q) g 0 (l.take i ++ l.drop (i + 1) ++ List.replicate (i + 1 - i) 0).toArray := by
  have C := Any.slices_Delete_int delA g 0 cap i (i + 1) l w h.holds hc (by unfold maxLen at hm; omega) (by omega) (by omega)
  rw [show delA_ren.f 23 = 36 from rfl] at C
  exact C
theorem Delete_ok {w : World} {g cap : Nat} {l : List Int} (h : Own w (.slice (some ⟨g, 0, none⟩) l.length cap) l) (hc : l.length ≤ cap) (hm : cap ≤ maxLen) (i : Nat) (hi : i < l.length) :
    Calls Try.prog 36 #[.slice (some ⟨g, 0, none⟩) l.length cap, .int .i64 i, .int .i64 ((i : Int) + 1)] w fun e w' => e = .returned (.slice (some ⟨g, 0, none⟩) (l.length - 1) cap) ∧ w.grownBy w' (some g) ∧ Own w' (.slice (some ⟨g, 0, none⟩) (l.length - 1) cap) (l.take i ++ l.drop (i + 1)) := by
  have C := del_call h hc hm i hi
  rw [show ((i + 1 : Nat) : Int) = (i : Int) + 1 by omega] at C
  refine C.mono ?_
  rintro e w' ⟨rfl, q, rfl⟩
  have hl : (l.take i ++ l.drop (i + 1)).length = l.length - 1 := by simp; omega
  have hs : i + 1 - i = 1 := by omega
  refine ⟨by rw [hs], ⟨rfl, rfl, rfl, by simp [Go.Sort.ahead], fun k hk hne => ?_⟩, ?_⟩
  · have : g ≠ k := fun e => hne (by rw [e])
    simp [Go.Sort.putRow, Go.Sort.mapBlock, Go.Sort.ahead, Array.getElem?_modify, this]
  · have := Go.Lib.ownsRow_putRow (enc := Value.int .i64) (q := q) (k := l.length - 1) (ys := l.take i ++ l.drop (i + 1) ++ List.replicate (i + 1 - i) 0) h (by simp; omega) (by omega)
    have e : (l.take i ++ l.drop (i + 1) ++ List.replicate (i + 1 - i) 0).take (l.length - 1) = l.take i ++ l.drop (i + 1) := by rw [← hl]; exact List.take_left
    rw [e] at this
    unfold Own
    rw [hl]
    exact this
/-- What an insertion of one number leaves. -/
def Insd (w : World) (v : Value) (l' : List Int) (e : Ending) (w' : World) : Prop := ∃ v', e = .returned v' ∧ Own w' v' l' ∧ w.grownBy w' v.ownBlock ∧ ∀ c, v'.ownBlock = some c → v.ownBlock = some c ∨ w.heap.size ≤ c
theorem zeros_list (m : Nat) : (Builtin.zeroCells (Value.int .i64 0).cells m) = (List.replicate m (Value.int .i64 0)).toArray := by
  apply Array.toList_inj.1
  have e : ∀ i, ([Value.int .i64 0][i % 1]?.getD default) = Value.int .i64 0 := fun i => by rw [Nat.mod_one]; rfl
  simp [Builtin.zeroCells, Value.cells, e]
  rw [List.eq_replicate_iff]
  simp
theorem shiftL (A D T P : List Value) (x : Value) (i n : Nat) (hA : A.length = i + 1) (hP : A.take i = P) (hD : D.length + i = n) : ((A ++ D ++ T).take i ++ [x] ++ (A ++ D ++ T).drop (i + 1)).take (n + 1) = P ++ x :: D := by
  have hPl : P.length = i := by rw [← hP]; simp; omega
  have e1 : (A ++ D ++ T).take i = P := by rw [List.append_assoc, List.take_append_of_le_length (by omega), hP]
  have e2 : (A ++ D ++ T).drop (i + 1) = D ++ T := by rw [List.append_assoc, ← hA, List.drop_left]
  rw [e1, e2, ← List.append_assoc, List.take_append_of_le_length (by simp; omega), List.take_of_length_le (by simp; omega)]
  simp
theorem growL (R D P : List Value) (x : Value) (i n : Nat) (hP : R.take i = P) (hi : i < R.length) (hD : D.length + i = n) : ((R.take i ++ [x] ++ R.drop (i + 1)).take (i + 1) ++ D ++ (R.take i ++ [x] ++ R.drop (i + 1)).drop (i + 1 + D.length)).take (n + 1) = P ++ x :: D := by
  have hPl : P.length = i := by rw [← hP]; simp; omega
  have e1 : (R.take i ++ [x] ++ R.drop (i + 1)).take (i + 1) = P ++ [x] := by rw [List.take_append_of_le_length (by simp; omega), List.take_of_length_le (by simp; omega), hP]
  rw [e1, List.take_append_of_le_length (by simp; omega), List.take_of_length_le (by simp; omega)]
  simp
theorem ins_nil {w : World} (x : Int) (vb : Nat) (hv : Blk w vb 3 [.int .i64 x]) :
    Calls Try.prog 27 #[.slice none 0 0, .int .i64 0, .slice (some ⟨vb, 0, none⟩) 1 1] w fun e w' => Insd w (.slice none 0 0) [x] e w' := by
  have hvs : ∀ j u, [Value.int .i64 x][j]? = some u → w.cell? ⟨vb, 0 + j, none⟩ = some u := fun j u hj => by rw [Nat.zero_add, hv.cell j]; exact hj
  have h1v : ∀ u ∈ [Value.int .i64 x], u.oneCell' = true := by intro u hu; simp at hu; subst hu; rfl
  have C := Any2.slices_Insert_int_end_grow insA none 0 0 vb 0 1 1 [] [.int .i64 x] w (by omega) (by omega) (by omega) (by omega) rfl rfl (fun _ => rfl) (by intro a e; cases e) hvs h1v
  rw [show insA_ren.f 21 = 27 from rfl, show insA_ren.t 3 = 3 from rfl] at C
  refine C.mono ?_
  rintro e w' ⟨rfl, rfl⟩
  have hge := grownCap_ge w (0 + 1) 0 3
  have hle := grownCap_le_maxLen w (0 + 1) 0 3 (by unfold maxLen; omega)
  refine ⟨_, rfl, ?_, (grown_drew w _).trans (World.grownBy_alloc _ _ _), fun c hc => by cases hc; exact Or.inr (Nat.le_refl _)⟩
  rw [zeros_list, List.append_toArray]
  generalize grownCap w (0 + 1) 0 3 = X at *
  have hblk := blk_new w.drew ([] ++ [Value.int .i64 x] ++ List.replicate (X - (0 + 1)) (Value.int .i64 0)) 3
  exact Own.of_blk (l := [x]) (cap := X) (g := w.drew.heap.size) hblk (by simpa using hge) hle (by simp; omega) (by simp [tv])
theorem ins_room {w : World} {g cap : Nat} {Lv : List Value} {l : List Int} (hB : Blk w g 3 Lv) (h2 : cap ≤ maxLen) (h3 : Lv.length = cap) (h4 : Lv.take l.length = tv l) (hr : l.length + 1 ≤ cap) (i : Nat) (hil : i < l.length) (x : Int) (vb : Nat) (hv : Blk w vb 3 [.int .i64 x]) (hgv : vb ≠ g) :
    Calls Try.prog 27 #[.slice (some ⟨g, 0, none⟩) l.length cap, .int .i64 i, .slice (some ⟨vb, 0, none⟩) 1 1] w fun e w' => Insd w (.slice (some ⟨g, 0, none⟩) l.length cap) (l.take i ++ x :: l.drop i) e w' := by
  have hvs : ∀ j u, [Value.int .i64 x][j]? = some u → w.cell? ⟨vb, 0 + j, none⟩ = some u := fun j u hj => by rw [Nat.zero_add, hv.cell j]; exact hj
  have h1v : ∀ u ∈ [Value.int .i64 x], u.oneCell' = true := by intro u hu; simp at hu; subst hu; rfl
  have hll : (l.take i ++ x :: l.drop i).length = l.length + 1 := by simp; omega
  have htv : tv (l.take i ++ x :: l.drop i) = (tv l).take i ++ Value.int .i64 x :: (tv l).drop i := by simp [tv, List.map_take, List.map_drop]
  have hcs : ∀ j u, (tv l)[j]? = some u → w.cell? ⟨g, 0 + j, none⟩ = some u := fun j u hj => by
    have hjl : j < l.length := by have := (List.getElem?_eq_some_iff.1 hj).1; rwa [tv_len] at this
    rw [Nat.zero_add, hB.cell j, ← List.getElem?_take_of_lt hjl, h4]
    exact hj
  have C := Any2.slices_Insert_int_shift insA g 0 l.length cap i vb 0 1 1 (tv l) [.int .i64 x] w hil (by omega) hr (by unfold maxLen at h2; omega) hgv (tv_len l) rfl hcs (fun j hj => by rw [Nat.zero_add, hB.cell j, List.getElem?_eq_getElem (by omega)]; rfl) (fun j hj => by rw [Nat.zero_add]; exact hB.frozen j) hvs (tv_one l) h1v 3 3 1 Lv.length (by unfold Blk at hv; simp [World.shape?, hv]) (by unfold Blk at hB; simp [World.shape?, hB]) (by omega) (hv.frozen 0) (hv.frozen 1)
  rw [show insA_ren.f 21 = 27 from rfl] at C
  refine C.mono ?_
  rintro e w' ⟨rfl, rfl⟩
  have hBd : Blk w.drew g 3 Lv := hB
  have hdl : ((tv l).drop i).length = l.length - i := by rw [List.length_drop, tv_len]
  rw [Nat.zero_add, Nat.zero_add]
  have B1 := Blk.sets ((tv l).drop i) (i + 1) w.drew Lv hBd (by omega)
  have B2 := Blk.sets [Value.int .i64 x] i _ _ B1 (by simp; omega)
  refine ⟨_, rfl, ?_, ((grown_drew w _).trans (grown_setCells _ _ _ _)).trans (grown_setCells _ _ _ _), fun c hc => Or.inl hc⟩
  rw [← hll]
  refine Own.of_blk B2 (by omega) h2 ?_ ?_
  · simp only [List.length_append, List.length_take, List.length_drop, tv_len, List.length_singleton]
    omega
  · rw [hll, htv]
    exact shiftL (Lv.take (i + 1)) ((tv l).drop i) _ _ _ i l.length (by simp; omega) (by rw [List.take_take, Nat.min_eq_left (by omega), ← h4, List.take_take, Nat.min_eq_left (by omega)]) (by omega)
theorem ins_end {w : World} {g cap : Nat} {Lv : List Value} {l : List Int} (hB : Blk w g 3 Lv) (h2 : cap ≤ maxLen) (h3 : Lv.length = cap) (h4 : Lv.take l.length = tv l) (hr : l.length + 1 ≤ cap) (x : Int) (vb : Nat) (hv : Blk w vb 3 [.int .i64 x]) :
    Calls Try.prog 27 #[.slice (some ⟨g, 0, none⟩) l.length cap, .int .i64 l.length, .slice (some ⟨vb, 0, none⟩) 1 1] w fun e w' => Insd w (.slice (some ⟨g, 0, none⟩) l.length cap) (l ++ [x]) e w' := by
  have hvs : ∀ j u, [Value.int .i64 x][j]? = some u → w.cell? ⟨vb, 0 + j, none⟩ = some u := fun j u hj => by rw [Nat.zero_add, hv.cell j]; exact hj
  have h1v : ∀ u ∈ [Value.int .i64 x], u.oneCell' = true := by intro u hu; simp at hu; subst hu; rfl
  have hll : (l ++ [x]).length = l.length + 1 := by simp
  have C := Any2.slices_Insert_int_end_room insA g 0 l.length cap vb 0 1 1 [.int .i64 x] w (by omega) hr (by unfold maxLen at h2; omega) rfl (fun j hj => by rw [hB.cell, List.getElem?_eq_getElem (by omega)]; rfl) (fun j hj => hB.frozen _) hvs h1v
  rw [show insA_ren.f 21 = 27 from rfl] at C
  refine C.mono ?_
  rintro e w' ⟨rfl, rfl⟩
  rw [Nat.zero_add]
  have B2 := Blk.sets [Value.int .i64 x] l.length _ _ hB (by simp; omega)
  refine ⟨_, rfl, ?_, grown_setCells _ _ _ _, fun c hc => Or.inl hc⟩
  rw [← hll]
  refine Own.of_blk B2 (by omega) h2 (by simp; omega) ?_
  rw [hll, h4, List.take_append_of_le_length (by simp [tv_len]), List.take_of_length_le (by simp [tv_len])]
  simp [tv]
theorem ins_grow {w : World} {g cap : Nat} {Lv : List Value} {l : List Int} (hB : Blk w g 3 Lv) (h1 : l.length ≤ cap) (h4 : Lv.take l.length = tv l) (hb : l.length ≤ 5000) (hr : ¬ l.length + 1 ≤ cap) (i : Nat) (hil : i < l.length) (x : Int) (vb : Nat) (hv : Blk w vb 3 [.int .i64 x]) :
    Calls Try.prog 27 #[.slice (some ⟨g, 0, none⟩) l.length cap, .int .i64 i, .slice (some ⟨vb, 0, none⟩) 1 1] w fun e w' => Insd w (.slice (some ⟨g, 0, none⟩) l.length cap) (l.take i ++ x :: l.drop i) e w' := by
  have hvs : ∀ j u, [Value.int .i64 x][j]? = some u → w.cell? ⟨vb, 0 + j, none⟩ = some u := fun j u hj => by rw [Nat.zero_add, hv.cell j]; exact hj
  have h1v : ∀ u ∈ [Value.int .i64 x], u.oneCell' = true := by intro u hu; simp at hu; subst hu; rfl
  have hll : (l.take i ++ x :: l.drop i).length = l.length + 1 := by simp; omega
  have htv : tv (l.take i ++ x :: l.drop i) = (tv l).take i ++ Value.int .i64 x :: (tv l).drop i := by simp [tv, List.map_take, List.map_drop]
  have hm5 : (l.length + 1) ≤ maxLen := by unfold maxLen; omega
  have hcs : ∀ j u, (tv l)[j]? = some u → w.cell? ⟨g, 0 + j, none⟩ = some u := fun j u hj => by
    have hjl : j < l.length := by have := (List.getElem?_eq_some_iff.1 hj).1; rwa [tv_len] at this
    rw [Nat.zero_add, hB.cell j, ← List.getElem?_take_of_lt hjl, h4]
    exact hj
  have C := Any2.slices_Insert_int_grow insA g 0 l.length cap i vb 0 1 1 (tv l) [.int .i64 x] w hil (by omega) h1 (by omega) (by omega) (tv_len l) rfl hcs hvs (tv_one l) h1v
  rw [show insA_ren.f 21 = 27 from rfl, show insA_ren.t 3 = 3 from rfl] at C
  refine C.mono ?_
  rintro e w' ⟨rfl, rfl⟩
  have hge := grownCap_ge w (l.length + 1) cap 3
  have hle := grownCap_le_maxLen w (l.length + 1) cap 3 hm5
  rw [zeros_list, zeros_list]
  simp only [List.append_toArray]
  generalize grownCap w (l.length + 1) cap 3 = X at *
  have B0 : Blk (w.alloc (.cells ((tv l).take i ++ List.replicate (l.length + 1 - i) (Value.int .i64 0) ++ List.replicate (X - (l.length + 1)) (Value.int .i64 0)).toArray 3)).drew w.heap.size 3 ((tv l).take i ++ List.replicate (l.length + 1 - i) (Value.int .i64 0) ++ List.replicate (X - (l.length + 1)) (Value.int .i64 0)) := blk_new _ _ _
  have hlen : ((tv l).take i ++ List.replicate (l.length + 1 - i) (Value.int .i64 0) ++ List.replicate (X - (l.length + 1)) (Value.int .i64 0)).length = X := by simp [tv_len]; omega
  have htk : ((tv l).take i ++ List.replicate (l.length + 1 - i) (Value.int .i64 0) ++ List.replicate (X - (l.length + 1)) (Value.int .i64 0)).take i = (tv l).take i := by
    rw [List.append_assoc, List.take_append_of_le_length (by simp [tv_len]; omega), List.take_take, Nat.min_self]
  generalize (tv l).take i ++ List.replicate (l.length + 1 - i) (Value.int .i64 0) ++ List.replicate (X - (l.length + 1)) (Value.int .i64 0) = R0 at *
  have hdl : ((tv l).drop i).length = l.length - i := by rw [List.length_drop, tv_len]
  have B1 := Blk.sets [Value.int .i64 x] i _ R0 B0 (by simp; omega)
  have B2 := Blk.sets ((tv l).drop i) (i + 1) (((w.alloc (.cells R0.toArray 3)).drew.setCells w.heap.size i [Value.int .i64 x]).drew) _ B1 (by simp [tv_len]; omega)
  have c : w.grownBy (w.alloc (.cells R0.toArray 3)).drew (some g) := (World.grownBy_alloc _ _ _).trans (grown_drew _ _)
  have a := grown_setCells w.heap.size [Value.int .i64 x] i (w.alloc (.cells R0.toArray 3)).drew
  have b := grown_setCells w.heap.size ((tv l).drop i) (i + 1) (((w.alloc (.cells R0.toArray 3)).drew.setCells w.heap.size i [Value.int .i64 x]).drew)
  refine ⟨_, rfl, ?_, ⟨(b.os.trans a.os).trans c.os, (b.tape.trans a.tape).trans c.tape, (b.output.trans a.output).trans c.output, Nat.le_trans c.size (Nat.le_trans a.size b.size), fun k hk hkr => ?_⟩, fun d hd => by cases hd; exact Or.inr (Nat.le_refl _)⟩
  · rw [← hll]
    refine Own.of_blk B2 (by omega) hle ?_ ?_
    · simp [tv_len]
      omega
    · rw [hll, htv]
      exact growL R0 ((tv l).drop i) _ _ i l.length htk (by omega) (by omega)
  · have hk1 : k < (w.alloc (.cells R0.toArray 3)).drew.heap.size := Nat.lt_of_lt_of_le hk c.size
    exact ((b.block k (Nat.lt_of_lt_of_le hk1 a.size) (some_ne (by omega))).trans (a.block k hk1 (some_ne (by omega)))).trans (c.block k hk hkr)
theorem ins_egrow {w : World} {g cap : Nat} {Lv : List Value} {l : List Int} (hB : Blk w g 3 Lv) (h1 : l.length ≤ cap) (h4 : Lv.take l.length = tv l) (hb : l.length ≤ 5000) (hr : ¬ l.length + 1 ≤ cap) (x : Int) (vb : Nat) (hv : Blk w vb 3 [.int .i64 x]) :
    Calls Try.prog 27 #[.slice (some ⟨g, 0, none⟩) l.length cap, .int .i64 l.length, .slice (some ⟨vb, 0, none⟩) 1 1] w fun e w' => Insd w (.slice (some ⟨g, 0, none⟩) l.length cap) (l ++ [x]) e w' := by
  have hvs : ∀ j u, [Value.int .i64 x][j]? = some u → w.cell? ⟨vb, 0 + j, none⟩ = some u := fun j u hj => by rw [Nat.zero_add, hv.cell j]; exact hj
  have h1v : ∀ u ∈ [Value.int .i64 x], u.oneCell' = true := by intro u hu; simp at hu; subst hu; rfl
  have hll : (l ++ [x]).length = l.length + 1 := by simp
  have hm5 : (l.length + 1) ≤ maxLen := by unfold maxLen; omega
  have hcs : ∀ j u, (tv l)[j]? = some u → w.cell? ⟨g, 0 + j, none⟩ = some u := fun j u hj => by
    have hjl : j < l.length := by have := (List.getElem?_eq_some_iff.1 hj).1; rwa [tv_len] at this
    rw [Nat.zero_add, hB.cell j, ← List.getElem?_take_of_lt hjl, h4]
    exact hj
  have C := Any2.slices_Insert_int_end_grow insA (some ⟨g, 0, none⟩) l.length cap vb 0 1 1 (tv l) [.int .i64 x] w (by omega) h1 (by omega) (by omega) (tv_len l) rfl (by intro e; cases e) (by intro a e; cases e; intro j u hj; rw [Go.WideShapes.add_plain]; exact hcs j u hj) hvs h1v
  rw [show insA_ren.f 21 = 27 from rfl, show insA_ren.t 3 = 3 from rfl] at C
  refine C.mono ?_
  rintro e w' ⟨rfl, rfl⟩
  have hge := grownCap_ge w (l.length + 1) cap 3
  have hle := grownCap_le_maxLen w (l.length + 1) cap 3 hm5
  refine ⟨_, rfl, ?_, (grown_drew w _).trans (World.grownBy_alloc _ _ _), fun c hc => by cases hc; exact Or.inr (Nat.le_refl _)⟩
  rw [zeros_list, List.append_toArray]
  have hblk := blk_new w.drew (tv l ++ [Value.int .i64 x] ++ List.replicate (grownCap w (l.length + 1) cap 3 - (l.length + 1)) (Value.int .i64 0)) 3
  generalize grownCap w (l.length + 1) cap 3 = X at *
  have ho := Own.of_blk (l := l ++ [x]) (cap := X) (g := w.drew.heap.size) hblk (by omega) hle (by simp [tv_len]; omega) (by
    rw [hll, List.take_append_of_le_length (by simp [tv_len]), List.take_of_length_le (by simp [tv_len])]
    simp [tv])
  rw [hll] at ho
  exact ho
theorem Insert_ok {w : World} {v : Value} {l : List Int} (h : Own w v l) (hb : l.length ≤ 5000) (i : Nat) (hi : i ≤ l.length) (x : Int) (vb : Nat) (hv : Blk w vb 3 [.int .i64 x]) (hne : v.ownBlock ≠ some vb) :
    Calls Try.prog 27 #[v, .int .i64 i, .slice (some ⟨vb, 0, none⟩) 1 1] w fun e w' => Insd w v (l.take i ++ x :: l.drop i) e w' := by
  rcases h.shape with ⟨rfl, rfl⟩ | ⟨g, cap, Lv, rfl, hB, h1, h2, h3, h4⟩
  · obtain rfl : i = 0 := by simpa using hi
    exact ins_nil x vb hv
  · have hgv : vb ≠ g := fun e => hne (by rw [e]; rfl)
    by_cases hil : i < l.length
    · by_cases hr : l.length + 1 ≤ cap
      · exact ins_room hB h2 h3 h4 hr i hil x vb hv hgv
      · exact ins_grow hB h1 h4 hb hr i hil x vb hv
    · obtain rfl : i = l.length := by omega
      rw [List.take_length, List.drop_length]
      by_cases hr : l.length + 1 ≤ cap
      · exact ins_end hB h2 h3 h4 hr x vb hv
      · exact ins_egrow hB h1 h4 hb hr x vb hv
end Go.Proofs.Ytimeoinmepfpnaa.Ri
