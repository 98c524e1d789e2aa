/- What DropAll of package tlb gives back and writes. -/
import Derived.Test.YtkgmdalekakgpaaTd
namespace Go.Proofs.Ytkgmdalekakgpaa
open Go.ChangeShapes Go.WideShapes Go.ChangeAt Go.RowKit
set_option linter.unusedVariables false

theorem pred_any (x : Tr) (a : Int) (b : Nat) (w : World) (hb : b < w.heap.size) (hc : w.cell? ⟨b, 0, none⟩ = some (.int .i64 a)) :
    Calls Try.prog 44 #[.agg #[.int .i64 x.a, .int .i64 x.p, .int .i64 x.f, .bool x.r, .bool x.w, .bool x.d], .pointer (some ⟨b, 0, none⟩)] w fun e w' => e = .returned (.bool (x.a == a)) ∧ Below w.heap.size w w' := by
  have X0 : Hid (Six (w.alloc (.cells #[.int .i64 x.a, .int .i64 x.p, .int .i64 x.f, .bool x.r, .bool x.w, .bool x.d] 32)) w.heap.size 0 x) := six_new w x 32
  have B0 : Hid (Below w.heap.size w (w.alloc (.cells #[.int .i64 x.a, .int .i64 x.p, .int .i64 x.f, .bool x.r, .bool x.w, .bool x.d] 32))) := below_new _ _
  have q : (w.alloc (.cells #[.int .i64 x.a, .int .i64 x.p, .int .i64 x.f, .bool x.r, .bool x.w, .bool x.d] 32)).cell? ⟨b, 0, none⟩ = some (.int .i64 a) := (B0.out.cell (p := ⟨b, 0, none⟩) hb).trans hc
  clear hc
  go_enter Try.func44, Try.ntmps44
  go_wp2
  go_ret
  exact ⟨rfl, B0.out⟩
/-- The first of the address space. -/
structure Ax (a : Int) (l : List Tr) (k : Nat) : Prop where
  lt : k < l.length
  is : ∀ x, l[k]? = some x → (x.a == a) = true
  ahead : ∀ j y, j < k → l[j]? = some y → (y.a == a) = false
set_option maxHeartbeats 1000000 in
theorem IndexFunc_is {w : World} {v : Value} {l : List Tr} (ho : Own 0 w v l) (hl : l.length ≤ 64) (a : Int) (b : Nat) (hb : b < w.heap.size) (hc : w.cell? ⟨b, 0, none⟩ = some (.int .i64 a)) {k : Nat} (hx : Ax a l k) :
    Calls Try.prog 50 #[v, .func (.func 44) #[] #[.pointer (some ⟨b, 0, none⟩)]] w fun e w' => e = .returned (.int .i64 k) ∧ Below w.heap.size w w' := by
  obtain ⟨ao, cap, hv⟩ := ho.len
  subst hv
  have HO : Hid (Own 0 w (.slice ao l.length cap) l) := ho
  have HC : Hid (w.cell? ⟨b, 0, none⟩ = some (.int .i64 a)) := hc
  have HX : Hid (Ax a l k) := hx
  have hkl := hx.lt
  clear ho hc hx
  go_enter Try.func50, Try.ntmps50
  go_wp2_with fail
  go_loopw [8] (fun i wr => ∃ j : Nat, j ≤ k ∧ i = .int .i64 j ∧ Below w.heap.size w wr) (fun i _ => l.length - (intOf i).toNat)
  case atStart => exact ⟨0, by omega, rfl, Below.refl _ _⟩
  case round =>
    obtain ⟨j, hj, rfl, hbr⟩ := hrel
    have HB : Hid (Below w.heap.size w wr) := hbr
    have hsz := hbr.size
    have hjl : j < l.length := by omega
    have hg : l[j]? = some l[j] := List.getElem?_eq_getElem hjl
    have HG : Hid (l[j]? = some l[j]) := hg
    obtain ⟨gr, cap', e1, h6, hfz, hgl, hc1, hc2⟩ := (HO.out.below hbr).cell hg
    cases e1
    have CP : Hid (Calls _ _ _ _ _) := pred_any l[j] a b wr (by omega) ((hbr.cell (p := ⟨b, 0, none⟩) hb).trans HC.out)
    clear hg hbr hfz
    generalize l[j] = y at *
    obtain ⟨d0, d1, d2, d3, d4, d5⟩ := h6
    unfold maxLen at hc2
    obtain ⟨bb, hbb⟩ : ∃ bb, (y.a == a) = bb := ⟨_, rfl⟩
    have HBB : Hid ((y.a == a) = bb) := hbb
    rw [hbb] at CP
    clear hbb
    go_wp2_with fail
    refine CP.out.mono ?_
    rintro e w3 ⟨rfl, hb3⟩
    have B3 : Hid (Below w.heap.size w w3) := HB.out.trans (hb3.mono hsz)
    clear CP hb3 d0 d1 d2 d3 d4 d5
    cases bb with
    | true =>
      obtain rfl : j = k := by
        by_cases q : j < k
        · have := HX.out.ahead j y q HG.out
          rw [HBB.out] at this
          cases this
        · omega
      go_wp2
      go_ret
      exact ⟨rfl, B3.out⟩
    | false =>
      have hne : j < k := by
        by_cases q : j = k
        · subst q
          have := HX.out.is y HG.out
          rw [HBB.out] at this
          cases this
        · omega
      go_wp2_with fail
      go_roundw
      case rel => exact ⟨j + 1, by omega, by go_num, B3.out⟩
      case measure => simp [intOf]; omega
set_option maxHeartbeats 1000000 in
theorem IndexFunc_no {w : World} {v : Value} {l : List Tr} (ho : Own 0 w v l) (hl : l.length ≤ 64) (a : Int) (b : Nat) (hb : b < w.heap.size) (hc : w.cell? ⟨b, 0, none⟩ = some (.int .i64 a)) (hx : ∀ x ∈ l, (x.a == a) = false) :
    Calls Try.prog 50 #[v, .func (.func 44) #[] #[.pointer (some ⟨b, 0, none⟩)]] w fun e w' => e = .returned (.int .i64 (-1)) ∧ Below w.heap.size w w' := by
  obtain ⟨ao, cap, hv⟩ := ho.len
  subst hv
  have HO : Hid (Own 0 w (.slice ao l.length cap) l) := ho
  have HC : Hid (w.cell? ⟨b, 0, none⟩ = some (.int .i64 a)) := hc
  have HX : Hid (∀ x ∈ l, (x.a == a) = false) := hx
  clear ho hc hx
  go_enter Try.func50, Try.ntmps50
  go_wp2_with fail
  go_loopw [8] (fun i wr => ∃ j : Nat, j ≤ l.length ∧ i = .int .i64 j ∧ Below w.heap.size w wr) (fun i _ => l.length - (intOf i).toNat)
  case atStart => exact ⟨0, by omega, rfl, Below.refl _ _⟩
  case round =>
    obtain ⟨j, hj, rfl, hbr⟩ := hrel
    have HB : Hid (Below w.heap.size w wr) := hbr
    have hsz := hbr.size
    by_cases hjl : j < l.length
    · have hg : l[j]? = some l[j] := List.getElem?_eq_getElem hjl
      obtain ⟨gr, cap', e1, h6, hfz, hgl, hc1, hc2⟩ := (HO.out.below hbr).cell hg
      cases e1
      have CP : Hid (Calls _ _ _ _ _) := pred_any l[j] a b wr (by omega) ((hbr.cell (p := ⟨b, 0, none⟩) hb).trans HC.out)
      rw [HX.out _ (List.mem_of_getElem? hg)] at CP
      clear hg hbr hfz
      generalize l[j] = y at *
      obtain ⟨d0, d1, d2, d3, d4, d5⟩ := h6
      unfold maxLen at hc2
      go_wp2_with fail
      refine CP.out.mono ?_
      rintro e w3 ⟨rfl, hb3⟩
      have B3 : Hid (Below w.heap.size w w3) := HB.out.trans (hb3.mono hsz)
      clear CP hb3 d0 d1 d2 d3 d4 d5
      go_wp2_with fail
      go_roundw
      case rel => exact ⟨j + 1, by omega, by go_num, B3.out⟩
      case measure => simp [intOf]; omega
    · clear hbr
      go_wp2
      go_ret
      exact ⟨rfl, HB.out⟩
theorem ax_or (a : Int) (l : List Tr) : (∃ k, Ax a l k) ∨ (∀ x ∈ l, (x.a == a) = false) := by
  cases h : l.find? (fun x => x.a == a) with
  | none =>
    right
    intro x hx
    have := List.find?_eq_none.1 h x hx
    simpa using this
  | some x =>
    left
    obtain ⟨hx, l1, l2, e, hb⟩ := List.find?_eq_some_iff_append.1 h
    refine ⟨l1.length, by rw [e]; simp, fun y hy => ?_, fun j y hj hy => ?_⟩
    · rw [e] at hy
      simp at hy
      rw [← hy]
      exact hx
    · rw [e, List.getElem?_append_left hj] at hy
      have := hb y (List.mem_of_getElem? hy)
      simpa using this
theorem out_none {a : Int} {l : List Tr} (h : ∀ x ∈ l, (x.a == a) = false) : outOf a l = l := by
  unfold outOf
  rw [List.filter_eq_self]
  intro x hx
  simp [h x hx]
theorem out_snoc_is {a : Int} {l : List Tr} {j : Nat} {y : Tr} (h : l[j]? = some y) (hy : (y.a == a) = true) : outOf a (l.take (j + 1)) = outOf a (l.take j) := by
  rw [List.take_add_one, h]
  simp [outOf, List.filter_append, hy]
theorem out_snoc_no {a : Int} {l : List Tr} {j : Nat} {y : Tr} (h : l[j]? = some y) (hy : (y.a == a) = false) : outOf a (l.take (j + 1)) = outOf a (l.take j) ++ [y] := by
  rw [List.take_add_one, h]
  simp [outOf, List.filter_append, hy]
theorem Blk.six_old {w : World} {g o : Nat} {L : List Value} (h : Blk w g 32 L) (ho : o + 6 ≤ L.length) : ∃ o0 o1 o2 o3 o4 o5, w.cell? ⟨g, o, none⟩ = some o0 ∧ w.cell? ⟨g, o + 1, none⟩ = some o1 ∧ w.cell? ⟨g, o + 2, none⟩ = some o2 ∧ w.cell? ⟨g, o + 3, none⟩ = some o3 ∧ w.cell? ⟨g, o + 4, none⟩ = some o4 ∧ w.cell? ⟨g, o + 5, none⟩ = some o5 :=
  ⟨_, _, _, _, _, _, (h.cell o).trans (List.getElem?_eq_getElem (by omega)), (h.cell (o + 1)).trans (List.getElem?_eq_getElem (by omega)), (h.cell (o + 2)).trans (List.getElem?_eq_getElem (by omega)), (h.cell (o + 3)).trans (List.getElem?_eq_getElem (by omega)), (h.cell (o + 4)).trans (List.getElem?_eq_getElem (by omega)), (h.cell (o + 5)).trans (List.getElem?_eq_getElem (by omega))⟩
theorem Blk.store6 {w : World} {g o : Nat} {L : List Value} (h : Blk w g 32 L) (ho : o + 6 ≤ L.length) (x : Tr) :
    Blk ((((((w.setCell ⟨g, o, none⟩ (.int .i64 x.a)).setCell ⟨g, o + 1, none⟩ (.int .i64 x.p)).setCell ⟨g, o + 2, none⟩ (.int .i64 x.f)).setCell ⟨g, o + 3, none⟩ (.bool x.r)).setCell ⟨g, o + 4, none⟩ (.bool x.w)).setCell ⟨g, o + 5, none⟩ (.bool x.d)) g 32 (L.take o ++ tc x ++ L.drop (o + 6)) :=
  Blk.sets (tc x) o w L h (by simpa [tc] using ho)
/-- What the loop holds. -/
structure Lp (a : Int) (l : List Tr) (L : List Value) (g cap k : Nat) (w1 wr : World) (j m : Nat) (Lr : List Value) : Prop where
  lo : k < j
  hi : j ≤ l.length
  em : m = (outOf a (l.take j)).length
  mj : m < j
  gr : w1.grownBy wr (some g)
  bk : Blk wr g 32 Lr
  len : Lr.length = cap * 6
  take : Lr.take (m * 6) = tv (outOf a (l.take j))
  drop : Lr.drop (j * 6) = L.drop (j * 6)
theorem Lp.cell {a : Int} {l : List Tr} {L : List Value} {g cap k : Nat} {w1 wr : World} {j m : Nat} {Lr : List Value} (h : Lp a l L g cap k w1 wr j m Lr) (hT : L.take (l.length * 6) = tv l) {y : Tr} (hy : l[j]? = some y) : Six wr g (j * 6) y := by
  have hj := (List.getElem?_eq_some_iff.1 hy).1
  refine Six.of (fun i v hv => ?_)
  have hi : i < 6 := by have := (List.getElem?_eq_some_iff.1 hv).1; simpa [tc] using this
  have e1 : Lr[j * 6 + i]? = L[j * 6 + i]? := by rw [← List.getElem?_drop, h.drop, List.getElem?_drop]
  rw [h.bk.cell, e1, ← List.getElem?_take_of_lt (j := l.length * 6) (by omega), hT]
  exact tv_at hy i v hv
theorem Lp.skip {a : Int} {l : List Tr} {L : List Value} {g cap k : Nat} {w1 wr w3 : World} {j m : Nat} {Lr : List Value} (h : Lp a l L g cap k w1 wr j m Lr) (hlt : j < l.length) {y : Tr} (hy : l[j]? = some y) (ha : (y.a == a) = true) (G : wr.grownBy w3 (some g)) (hb : Blk w3 g 32 Lr) : Lp a l L g cap k w1 w3 (j + 1) m Lr := by
  have h1 := h.lo
  have h2 := h.mj
  refine ⟨by omega, by omega, by rw [out_snoc_is hy ha]; exact h.em, by omega, h.gr.trans G, hb, h.len, by rw [out_snoc_is hy ha]; exact h.take, ?_⟩
  rw [show (j + 1) * 6 = j * 6 + 6 by omega, ← List.drop_drop, h.drop, List.drop_drop]
theorem Lp.keep {a : Int} {l : List Tr} {L : List Value} {g cap k : Nat} {w1 wr w3 : World} {j m : Nat} {Lr : List Value} (h : Lp a l L g cap k w1 wr j m Lr) (hlt : j < l.length) (hc : l.length ≤ cap) {y : Tr} (hy : l[j]? = some y) (ha : (y.a == a) = false) (G : wr.grownBy w3 (some g)) (hb : Blk w3 g 32 (Lr.take (m * 6) ++ tc y ++ Lr.drop (m * 6 + 6))) : Lp a l L g cap k w1 w3 (j + 1) (m + 1) (Lr.take (m * 6) ++ tc y ++ Lr.drop (m * 6 + 6)) := by
  have h1 := h.lo
  have h2 := h.mj
  have hlen := h.len
  have l1 : (Lr.take (m * 6)).length = m * 6 := by simp; omega
  have l2 : (Lr.take (m * 6) ++ tc y).length = m * 6 + 6 := by rw [List.length_append, l1]; rfl
  refine ⟨by omega, by omega, by rw [out_snoc_no hy ha, List.length_append, ← h.em]; rfl, by omega, h.gr.trans G, hb, ?_, ?_, ?_⟩
  · rw [List.length_append, l2]
    simp
    omega
  · rw [out_snoc_no hy ha, tv_app, ← h.take, show tv [y] = tc y by simp [tv], show (m + 1) * 6 = m * 6 + 6 by omega, ← l2, List.take_left]
  · rw [show (j + 1) * 6 = (m * 6 + 6) + ((j - m) * 6) by omega]
    conv => lhs; arg 1; rw [← l2]
    rw [List.drop_length_add_append, List.drop_drop, show m * 6 + 6 + (j - m) * 6 = j * 6 + 6 by omega, ← List.drop_drop, h.drop, List.drop_drop]
set_option maxHeartbeats 1000000 in
theorem DeleteFunc_is {w : World} {g cap : Nat} {L : List Value} {l : List Tr} (hB : Blk w g 32 L) (hl : l.length ≤ 64) (hlc : l.length ≤ cap) (hcm : cap ≤ maxLen) (hL : L.length = cap * 6) (hT : L.take (l.length * 6) = tv l) (a : Int) (b : Nat) (hb : b < w.heap.size) (hbg : b ≠ g) (hc : w.cell? ⟨b, 0, none⟩ = some (.int .i64 a)) {k : Nat} (hx : Ax a l k) :
    Calls Try.prog 43 #[.slice (some ⟨g, 0, none⟩) l.length cap, .func (.func 44) #[] #[.pointer (some ⟨b, 0, none⟩)]] w fun e w' => e = .returned (.slice (some ⟨g, 0, none⟩) (outOf a l).length cap) ∧ w.grownBy w' (some g) ∧ ∃ L', Blk w' g 32 L' ∧ L'.length = cap * 6 ∧ L'.take ((outOf a l).length * 6) = tv (outOf a l) := by
  have ho : Own 0 w (.slice (some ⟨g, 0, none⟩) l.length cap) l := Own.of_blk (Nat.zero_le _) hB hlc hcm hL hT
  have CI : Hid (Calls _ _ _ _ _) := IndexFunc_is ho hl a b hb hc hx
  have hkl := hx.lt
  have HC : Hid (w.cell? ⟨b, 0, none⟩ = some (.int .i64 a)) := hc
  have HX : Hid (Ax a l k) := hx
  have HB : Hid (Blk w g 32 L) := hB
  have HT : Hid (L.take (l.length * 6) = tv l) := hT
  have HL : Hid (L.length = cap * 6) := hL
  have hglt := hB.lt
  clear ho hB hc hx hT hL
  unfold maxLen at hcm
  go_enter Try.func43, Try.ntmps43
  go_wp2_with fail
  refine CI.out.mono ?_
  rintro e w1 ⟨rfl, hb1⟩
  have B1 : Hid (Below w.heap.size w w1) := hb1
  clear CI hb1
  go_wp2_with fail
  have S0 : Hid (Lp a l L g cap k w1 w1 (k + 1) k L) := by
    have e : outOf a (l.take (k + 1)) = l.take k := by
      have hg : l[k]? = some l[k] := List.getElem?_eq_getElem hkl
      rw [out_snoc_is hg (HX.out.is _ hg)]
      refine out_none (fun x hx => ?_)
      obtain ⟨j, hj⟩ := List.getElem?_of_mem hx
      have hjk : j < k := by have := (List.getElem?_eq_some_iff.1 hj).1; simp at this; omega
      rw [List.getElem?_take_of_lt hjk] at hj
      exact HX.out.ahead j x hjk hj
    refine ⟨by omega, by omega, by rw [e]; simp; omega, by omega, World.grownBy.refl _ _, HB.out.below B1.out, HL.out, ?_, rfl⟩
    rw [e, ← tv_take, ← HT.out, List.take_take, Nat.min_eq_left (by omega)]
  have HC1 : Hid (w1.cell? ⟨b, 0, none⟩ = some (.int .i64 a)) := (B1.out.cell (p := ⟨b, 0, none⟩) hb).trans HC.out
  have hs1 := B1.out.size
  have G1 : Hid (w.grownBy w1 (some g)) := ⟨B1.out.os, B1.out.tape, B1.out.output, B1.out.size, fun i hi _ => B1.out.block i hi⟩
  clear HC HX HB B1
  have e12 : ((k : Int) == -1) = false := by simp
  rw [e12]
  clear e12
  go_loopw [5, 6] (fun i jv wr => ∃ j m Lr, i = .int .i64 (m : Nat) ∧ jv = .int .i64 (j : Nat) ∧ Lp a l L g cap k w1 wr j m Lr) (fun _ jv _ => l.length - (intOf jv).toNat)
  case atStart => exact ⟨k + 1, k, L, rfl, by go_num, S0.out⟩
  case round =>
    clear S0
    obtain ⟨j, m, Lr, rfl, rfl, hp⟩ := hrel
    have HP : Hid (Lp a l L g cap k w1 wr j m Lr) := hp
    have p1 := hp.lo
    have p2 := hp.mj
    have p3 := hp.hi
    have p4 := hp.gr.size
    have hgw := hp.bk.lt
    clear hp
    by_cases hlt : j < l.length
    · have hg : l[j]? = some l[j] := List.getElem?_eq_getElem hlt
      have HG : Hid (l[j]? = some l[j]) := hg
      obtain ⟨d0, d1, d2, d3, d4, d5⟩ := HP.out.cell HT.out hg
      have hcb := (HP.out.gr.cell_far ⟨b, 0, none⟩ (show b < w1.heap.size by omega) (some_ne hbg)).trans HC1.out
      have CP : Hid (∀ o : Obj, Calls Try.prog 44 #[.agg #[.int .i64 l[j].a, .int .i64 l[j].p, .int .i64 l[j].f, .bool l[j].r, .bool l[j].w, .bool l[j].d], .pointer (some ⟨b, 0, none⟩)] (wr.alloc o) fun e w' => e = .returned (.bool (l[j].a == a)) ∧ Below (wr.alloc o).heap.size (wr.alloc o) w') := fun o => pred_any l[j] a b (wr.alloc o) (by simp; omega) (((below_new wr o).cell (p := ⟨b, 0, none⟩) (show b < wr.heap.size by omega)).trans hcb)
      clear hg hcb
      generalize l[j] = y at *
      obtain ⟨bb, hbb⟩ : ∃ bb, (y.a == a) = bb := ⟨_, rfl⟩
      have HBB : Hid ((y.a == a) = bb) := hbb
      rw [hbb] at CP
      clear hbb
      go_wp2_with fail
      clear d0 d1 d2 d3 d4 d5
      have X2 : Hid (Six (wr.alloc (.cells #[.int .i64 y.a, .int .i64 y.p, .int .i64 y.f, .bool y.r, .bool y.w, .bool y.d] 32)) wr.heap.size 0 y) := six_new wr y 32
      have hb2 : wr.heap.size < (wr.alloc (.cells #[.int .i64 y.a, .int .i64 y.p, .int .i64 y.f, .bool y.r, .bool y.w, .bool y.d] 32)).heap.size := by simp
      have B2 : Hid (Below wr.heap.size wr (wr.alloc (.cells #[.int .i64 y.a, .int .i64 y.p, .int .i64 y.f, .bool y.r, .bool y.w, .bool y.d] 32))) := below_new _ _
      have C2 : Hid (Calls _ _ _ _ _) := CP.out (.cells #[.int .i64 y.a, .int .i64 y.p, .int .i64 y.f, .bool y.r, .bool y.w, .bool y.d] 32)
      clear CP
      generalize wr.alloc (.cells #[.int .i64 y.a, .int .i64 y.p, .int .i64 y.f, .bool y.r, .bool y.w, .bool y.d] 32) = w2 at *
      generalize hbv : wr.heap.size = bv at *
      refine C2.out.mono ?_
      rintro e w3 ⟨rfl, hb3⟩
      have X3 : Hid (Six w3 bv 0 y) := X2.out.below hb2 hb3
      have hs3 := hb3.size
      have B3 : Hid (Below bv wr w3) := B2.out.trans (hb3.mono (by omega))
      clear C2 hb3 X2 B2
      have G3 : Hid (wr.grownBy w3 (some g)) := ⟨B3.out.os, B3.out.tape, B3.out.output, B3.out.size, fun i hi _ => B3.out.block i (by omega)⟩
      have L3 : Hid (Blk w3 g 32 Lr) := HP.out.bk.of_eq (B3.out.block g (by omega))
      cases bb with
      | true =>
        have HN : Hid (Lp a l L g cap k w1 w3 (j + 1) m Lr) := HP.out.skip hlt HG.out HBB.out G3.out L3.out
        go_wp2_with fail
        go_roundw
        case rel => exact ⟨j + 1, m, Lr, rfl, by go_num, HN.out⟩
        case measure => simp [intOf]; omega
      | false =>
        obtain ⟨o0, o1, o2, o3, o4, o5, c0, c1, c2, c3, c4, c5⟩ := L3.out.six_old (o := m * 6) (by have := HP.out.len; omega)
        obtain ⟨d0, d1, d2, d3, d4, d5⟩ := X3.out
        have f0 := L3.out.frozen (m * 6)
        have f1 := L3.out.frozen (m * 6 + 1)
        have f2 := L3.out.frozen (m * 6 + 2)
        have f3 := L3.out.frozen (m * 6 + 3)
        have f4 := L3.out.frozen (m * 6 + 4)
        have f5 := L3.out.frozen (m * 6 + 5)
        have HS : Hid (Blk _ g 32 (Lr.take (m * 6) ++ tc y ++ Lr.drop (m * 6 + 6))) := L3.out.store6 (by have := HP.out.len; omega) y
        have HN : Hid (Lp a l L g cap k w1 _ (j + 1) (m + 1) _) := HP.out.keep hlt hlc HG.out HBB.out (G3.out.trans (grown6 w3 g (m * 6) (m * 6 + 1) (m * 6 + 2) (m * 6 + 3) (m * 6 + 4) (m * 6 + 5) _ _ _ _ _ _)) HS.out
        go_wp2_with fail
        go_roundw
        case rel => exact ⟨j + 1, m + 1, _, by go_num, by go_num, HN.out⟩
        case measure => simp [intOf]; omega
    · obtain rfl : j = l.length := by omega
      have hmm : m = (outOf a l).length := by have := HP.out.em; rw [List.take_of_length_le (Nat.le_refl _)] at this; exact this
      have htk : Lr.take (m * 6) = tv (outOf a l) := by have := HP.out.take; rw [List.take_of_length_le (Nat.le_refl _)] at this; exact this
      have hrl := HP.out.len
      obtain ⟨r, hr⟩ : ∃ r, l.length = m + r := ⟨l.length - m, by omega⟩
      obtain ⟨Z, hZ, hcl⟩ := run_clear6 wr 0 g (m * 6) r (cap - m) (by omega) (fun i hi => by
        rw [HP.out.bk.cell, List.getElem?_eq_getElem (by omega)]
        rfl) (fun i hi => HP.out.bk.frozen _)
      have hcl' : ∀ ty, (Builtin.clear_ #[35] ty #[.slice (some ⟨g, m * 6, none⟩) r (cap - m)]).run Try.prog wr = .ok (.tuple #[]) (wr.setCells g (m * 6) Z) := fun ty => hcl
      have HE : Hid (w.grownBy (wr.setCells g (m * 6) Z) (some g) ∧ ∃ L', Blk (wr.setCells g (m * 6) Z) g 32 L' ∧ L'.length = cap * 6 ∧ L'.take ((outOf a l).length * 6) = tv (outOf a l)) := by
        refine ⟨(G1.out.trans HP.out.gr).trans (grown_setCells _ _ _ _), _, Blk.sets Z (m * 6) wr Lr HP.out.bk (by omega), ?_, ?_⟩
        · simp
          omega
        · have l1 : (Lr.take (m * 6)).length = m * 6 := by simp; omega
          rw [← hmm, List.append_assoc]
          conv => lhs; arg 1; rw [← l1]
          rw [List.take_left, htk]
      have HM : Hid (m = (outOf a l).length) := hmm
      rw [← HM.out] at HE
      have e1 : ((l.length : Int) - (m : Int)).toNat = r := by omega
      have e2 : l.length - m = r := by omega
      have hne : ¬ cap = m := by omega
      have hml : m ≤ l.length := by omega
      have HR : Hid (l.length = m + r) := hr
      clear hcl hZ hr hmm htk hrl HP p1 p2
      generalize wr.setCells g (m * 6) Z = wy at *
      go_wp2
      go_ret
      rw [← HM.out]
      exact ⟨rfl, HE.out⟩
theorem DeleteFunc_no {w : World} {v : Value} {l : List Tr} (ho : Own 0 w v l) (hl : l.length ≤ 64) (a : Int) (b : Nat) (hb : b < w.heap.size) (hc : w.cell? ⟨b, 0, none⟩ = some (.int .i64 a)) (hx : ∀ x ∈ l, (x.a == a) = false) :
    Calls Try.prog 43 #[v, .func (.func 44) #[] #[.pointer (some ⟨b, 0, none⟩)]] w fun e w' => e = .returned v ∧ Below w.heap.size w w' := by
  have CI : Hid (Calls _ _ _ _ _) := IndexFunc_no ho hl a b hb hc hx
  obtain ⟨ao, cap, hv⟩ := ho.len
  subst hv
  clear ho hc hx
  go_enter Try.func43, Try.ntmps43
  go_wp2_with fail
  refine CI.out.mono ?_
  rintro e w1 ⟨rfl, hb1⟩
  have B1 : Hid (Below w.heap.size w w1) := hb1
  clear CI hb1
  go_wp2
  go_ret
  exact ⟨rfl, B1.out⟩
def dal (a : Int) (l : List Tr) : Int × Int := if okA a then ((l.length : Int) - (outOf a l).length, 0) else (0, 2)
def dalL (a : Int) (l : List Tr) : List Tr := if okA a then outOf a l else l
theorem DropAll_nil {w : World} {q : Option Addr} (hN : NoT w q) (a : Int) :
    Calls Try.prog 23 #[.pointer q, .int .i64 a] w fun e w' => e = .returned (.tuple #[.int .i64 0, .int .i64 1]) ∧ Below w.heap.size w w' := by
  have CM : Hid (∀ o, Calls Try.prog 36 #[.pointer q] (w.alloc o) fun e w' => e = .returned (.bool false) ∧ w' = w.alloc o) := fun o => made_nil (hN.below (below_new w o))
  have HB : Hid (∀ o, Below w.heap.size w (w.alloc o)) := fun o => below_new w o
  clear hN
  go_enter Try.func23, Try.ntmps23
  go_wp2_with fail
  refine (CM.out _).mono ?_
  rintro e w' ⟨rfl, rfl⟩
  go_wp2
  go_ret2
  exact ⟨rfl, HB.out _⟩
theorem DropAll_bad {w : World} {F : Nat → Prop} {p n : Nat} {l : List Tr} (h : Ca w F p n l) (a : Int) (ha : okA a = false) :
    Calls Try.prog 23 #[.pointer (some ⟨p, 0, none⟩), .int .i64 a] w fun e w' => e = .returned (.tuple #[.int .i64 0, .int .i64 2]) ∧ Below w.heap.size w w' := by
  obtain ⟨v, hP⟩ := h
  have CM : Hid (∀ o, Calls Try.prog 36 #[.pointer (some ⟨p, 0, none⟩)] (w.alloc o) fun e w' => e = .returned (.bool true) ∧ w' = w.alloc o) := fun o => made_any (hP.c.below (below_new w o))
  have CA : Hid (∀ W, Calls Try.prog 42 #[.int .i64 a] W fun e w' => e = .returned (.bool false) ∧ w' = W) := fun W => by rw [← ha]; exact isSpace_any a W
  have HB : Hid (∀ o, Below w.heap.size w (w.alloc o)) := fun o => below_new w o
  clear hP ha
  go_enter Try.func23, Try.ntmps23
  go_wp2_with fail
  refine (CM.out _).mono ?_
  rintro e w' ⟨rfl, rfl⟩
  go_wp2_with fail
  refine (CA.out _).mono ?_
  rintro e w' ⟨rfl, rfl⟩
  go_wp2
  go_ret2
  exact ⟨rfl, HB.out _⟩
theorem out_len (a : Int) (l : List Tr) : (outOf a l).length ≤ l.length := List.length_filter_le _ _
/-- The slice stored anew, as it was. -/
theorem Pt.same {w : World} {F : Nat → Prop} {p n : Nat} {v : Value} {l : List Tr} (T : Pt w F p n v l) : Lv w F p n l (w.setCell ⟨p, 1, none⟩ v) := by
  have G := grown_setCell' w p 1 v
  obtain ⟨F', P', K'⟩ := T.turn_new (w' := w.setCell ⟨p, 1, none⟩ v) v l G.os G.tape G.output G.size (fun i hi hip _ => G.block i hi (some_ne hip)) (by
      rw [World.cell?_setCell_other _ _ _ _ (by intro h; cases h)]
      exact T.c.c0) (World.cell?_setCell_same _ _ _ T.c.c1) (by
      rw [World.frozen?_setCell]
      exact T.c.z1) (T.c.own.of_eq (fun g hg => G.block g (T.c.own.lt g hg).2 (fun e => T.c.vp (by rw [hg]; exact e)))) (fun g hg => Or.inl hg) T.c.len T.c.uq
  exact ⟨F', ⟨_, P'⟩, K'⟩
theorem DF_any {w : World} {F : Nat → Prop} {p n : Nat} {v : Value} {l : List Tr} (T : Pt w F p n v l) (a : Int) (b : Nat) (hb : b < w.heap.size) (hbv : v.ownBlock ≠ some b) (hc : w.cell? ⟨b, 0, none⟩ = some (.int .i64 a)) :
    Calls Try.prog 43 #[v, .func (.func 44) #[] #[.pointer (some ⟨b, 0, none⟩)]] w fun e w' => ∃ ao cap, e = .returned (.slice ao (outOf a l).length cap) ∧ w'.cell? ⟨p, 1, none⟩ = some v ∧ w'.frozen? ⟨p, 1, none⟩ = false ∧ Lv w F p n (outOf a l) (w'.setCell ⟨p, 1, none⟩ (.slice ao (outOf a l).length cap)) := by
  have hl := T.c.len
  have hn := T.c.n64
  rcases ax_or a l with ⟨k, hx⟩ | hx
  · obtain ⟨g, cap, L, e3, _, hB, hc1, hm, hL, hT⟩ := T.c.own.shape.resolve_left (by rintro ⟨_, e⟩; have := hx.lt; rw [e] at this; simp at this)
    subst e3
    have hpg : p ≠ g := fun e => T.c.vp (by rw [e]; rfl)
    refine (DeleteFunc_is hB (by omega) hc1 hm hL hT a b hb (fun e => hbv (by rw [e]; rfl)) hc hx).mono ?_
    rintro e w2 ⟨he, G, L', hB', hL', hT'⟩
    refine ⟨some ⟨g, 0, none⟩, cap, he, (G.cell_far ⟨p, 1, none⟩ T.c.lt (some_ne hpg)).trans T.c.c1, (G.frozen_far ⟨p, 1, none⟩ T.c.lt (some_ne hpg)).trans T.c.z1, ?_⟩
    exact T.cut G (outOf a l) hB' hL' hT' (out_len a l) hc1 hm (out_uq a T.c.uq)
  · obtain ⟨ao, cap, hv⟩ := T.c.own.len
    refine (DeleteFunc_no T.c.own (by omega) a b hb hc hx).mono ?_
    rintro e w2 ⟨he, hb2⟩
    have T2 := T.below hb2
    refine ⟨ao, cap, by rw [out_none hx, ← hv]; exact he, T2.c.c1, T2.c.z1, ?_⟩
    rw [out_none hx, ← hv]
    exact Lv.pre hb2 T2.same
set_option maxHeartbeats 1000000 in
theorem DropAll_go {w : World} {F : Nat → Prop} {p n : Nat} {l : List Tr} (h : Ca w F p n l) (a : Int) (ha : okA a = true) :
    Calls Try.prog 23 #[.pointer (some ⟨p, 0, none⟩), .int .i64 a] w fun e w' => e = .returned (.tuple #[.int .i64 ((l.length : Int) - (outOf a l).length), .int .i64 0]) ∧ Lv w F p n (outOf a l) w' := by
  obtain ⟨v, hP⟩ := h
  have B0 : Hid (Below w.heap.size w (w.alloc (.cells #[.int .i64 a] 3))) := below_new _ _
  have P0 : Hid (Pt (w.alloc (.cells #[.int .i64 a] 3)) F p n v l) := hP.below (below_new _ _)
  have C0 : Hid ((w.alloc (.cells #[.int .i64 a] 3)).cell? ⟨w.heap.size, 0, none⟩ = some (.int .i64 a)) := (blk_new w [.int .i64 a] 3).cell 0
  have hb0 : w.heap.size < (w.alloc (.cells #[.int .i64 a] 3)).heap.size := by simp
  have hne : Hid (∀ g, v.ownBlock = some g → g < w.heap.size) := fun g hg => (hP.c.own.lt g hg).2
  have CM : Hid (Calls _ _ _ _ _) := made_any P0.out.c
  have CA : Hid (∀ W, Calls Try.prog 42 #[.int .i64 a] W fun e w' => e = .returned (.bool true) ∧ w' = W) := fun W => by rw [← ha]; exact isSpace_any a W
  obtain ⟨ao, cap, hv⟩ := hP.c.own.len
  have hl := hP.c.len
  have hn := hP.c.n64
  have hp := hP.c.lt
  subst hv
  have q1 := P0.out.c.c1
  clear hP ha
  go_enter Try.func23, Try.ntmps23
  go_wp2_with fail
  generalize w.alloc (.cells #[.int .i64 a] 3) = W0 at *
  generalize hbz : w.heap.size = b0 at *
  refine CM.out.mono ?_
  rintro e w' ⟨rfl, rfl⟩
  have q0 := C0.out
  go_wp2_with fail
  refine (CA.out _).mono ?_
  rintro e w'' ⟨rfl, rfl⟩
  clear CM CA
  go_wp2_with fail
  have CD : Hid (Calls _ _ _ _ _) := DF_any P0.out a b0 hb0 (fun e => by have := hne.out b0 e; omega) C0.out
  refine CD.out.mono ?_
  rintro e w2 ⟨ao2, cap2, rfl, r1, r2, hL⟩
  have HL : Hid (Lv w F p n (outOf a l) (w2.setCell ⟨p, 1, none⟩ (.slice ao2 (outOf a l).length cap2))) := hL.pre (by subst hbz; exact B0.out)
  have hol := out_len a l
  clear CD hL q0 q1
  generalize hmm : (outOf a l).length = m at *
  have HM : Hid ((outOf a l).length = m) := hmm
  clear hmm
  go_wp2
  go_ret2
  exact ⟨by rw [HM.out]; rfl, HL.out⟩
theorem DropAll_ok {w : World} {F : Nat → Prop} {p n : Nat} {l : List Tr} (h : Ca w F p n l) (a : Int) :
    Calls Try.prog 23 #[.pointer (some ⟨p, 0, none⟩), .int .i64 a] w fun e w' => e = .returned (.tuple #[.int .i64 (dal a l).1, .int .i64 (dal a l).2]) ∧ Lv w F p n (dalL a l) w' := by
  cases ha : okA a with
  | true =>
    rw [show dal a l = ((l.length : Int) - (outOf a l).length, 0) by simp [dal, ha], show dalL a l = outOf a l by simp [dalL, ha]]
    exact DropAll_go h a ha
  | false =>
    rw [show dal a l = (0, 2) by simp [dal, ha], show dalL a l = l by simp [dalL, ha]]
    refine (DropAll_bad h a ha).mono ?_
    rintro e w' ⟨he, hb⟩
    exact ⟨he, Lv.of_below h hb⟩
end Go.Proofs.Ytkgmdalekakgpaa
