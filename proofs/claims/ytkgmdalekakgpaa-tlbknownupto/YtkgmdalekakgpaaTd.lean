/- What Mark and Drop of package tlb give back and write. -/
import Derived.Test.YtkgmdalekakgpaaTf
namespace Go.Proofs.Ytkgmdalekakgpaa
open Go.ChangeShapes Go.WideShapes Go.ChangeAt Go.RowKit
set_option linter.unusedVariables false

theorem mrk_list : ∀ {l : List Tr} {k : Nat} {x : Tr} {a p : Int}, Uq l → l[k]? = some x → hk a p x = true → tv (mrk a p l) = (tv l).set (k * 6 + 5) (.bool true)
  | [], k, x, a, p, _, h, _ => by simp at h
  | y :: l, 0, x, a, p, hu, h, hx => by
    simp at h
    subst h
    obtain ⟨rfl, rfl⟩ := hk_eq hx
    have h1 := (List.pairwise_cons.1 hu).1
    have e : mrk y.a y.p l = l := by
      unfold mrk
      conv => rhs; rw [← List.map_id l]
      refine List.map_congr_left (fun z hz => ?_)
      rw [h1 z hz]
      rfl
    have e2 : mrk y.a y.p (y :: l) = { y with d := true } :: mrk y.a y.p l := by simp [mrk, hk_self]
    rw [e2, e, tv_cons, tv_cons]
    rfl
  | y :: l, k + 1, x, a, p, hu, h, hx => by
    simp at h
    have h1 := (List.pairwise_cons.1 hu).1 x (List.mem_of_getElem? h)
    have ih := mrk_list (List.pairwise_cons.1 hu).2 h hx
    have hy : hk a p y = false := by
      cases e : hk a p y with
      | false => rfl
      | true =>
        obtain ⟨rfl, rfl⟩ := hk_eq e
        rw [h1] at hx
        cases hx
    have e2 : mrk a p (y :: l) = y :: mrk a p l := by simp [mrk, hy]
    rw [e2, tv_cons, tv_cons, ih, List.set_append_right _ _ (by simp [tc]; omega)]
    congr 2
    simp [tc]
    omega
set_option maxHeartbeats 1000000 in
theorem Mark_hit {w : World} {F : Nat → Prop} {p n : Nat} {l : List Tr} (h : Ca w F p n l) (a g : Int) (ha : okA a = true) (hg : okP g = true) {k : Nat} {x : Tr} (hx : Ix a g l k x) :
    Calls Try.prog 22 #[.pointer (some ⟨p, 0, none⟩), .int .i64 a, .int .i64 g] w fun e w' => e = .returned (.tuple #[.bool true, .int .i64 0]) ∧ Lv w F p n (mrk a g l) w' := by
  obtain ⟨v, hP⟩ := h
  have HP : Hid (Pt w F p n v l) := hP
  have hl := hP.c.len
  have hn := hP.c.n64
  have HX : Hid (Ix a g l k x) := hx
  have hkl : k < l.length := (List.getElem?_eq_some_iff.1 hx.at').1
  have CS : Hid (Calls _ _ _ _ _) := seek_ok hP.c a g ha hg hx
  clear hP ha hg hx
  go_enter Try.func22, Try.ntmps22
  go_wp2_with fail
  refine CS.out.mono ?_
  rintro e w1 ⟨rfl, hb⟩
  have T1 : Hid (Pt w1 F p n v l) := HP.out.below hb
  have B1 : Hid (Below w.heap.size w w1) := hb
  obtain ⟨gr, cap, e1, h6, hfz, hgl, hc1, hc2⟩ := T1.out.c.own.cell HX.out.at'
  subst e1
  have d5 := h6.c5
  have f5 := hfz (k * 6 + 5)
  have q1 := T1.out.c.c1
  obtain ⟨gr', cap', L, e3, _, hB, _, hm, hL, hT⟩ := T1.out.c.own.shape.resolve_left (by rintro ⟨e, _⟩; cases e)
  cases e3
  have HL : Hid (Lv w F p n (mrk a g l) (w1.setCell ⟨gr, k * 6 + 5, none⟩ (.bool true))) := by
    refine Lv.pre B1.out (T1.out.turn_in (mrk a g l) gr rfl (grown_setCell' _ _ _ _) ?_ (by rw [mrk_len]; omega) (mrk_uq a g T1.out.c.uq))
    have el := mrk_len a g l
    have ho := Own.of_blk (B := 0) (l := mrk a g l) (Nat.zero_le _) (hB.set (k * 6 + 5) (.bool true)) (by rw [el]; exact hc1) hm (by simpa using hL) (by
      rw [el, List.take_set, hT, mrk_list T1.out.c.uq HX.out.at' HX.out.is])
    rw [el] at ho
    exact ho
  clear hb CS h6 hfz hB hm hL hT
  unfold maxLen at hc2
  go_wp2
  go_ret2
  exact ⟨rfl, HL.out⟩
theorem Mark_none {w : World} {F : Nat → Prop} {p n : Nat} {l : List Tr} (h : Ca w F p n l) (a g : Int) (ha : okA a = true) (hg : okP g = true) (hx : ∀ x ∈ l, hk a g x = false) :
    Calls Try.prog 22 #[.pointer (some ⟨p, 0, none⟩), .int .i64 a, .int .i64 g] w fun e w' => e = .returned (.tuple #[.bool false, .int .i64 0]) ∧ Below w.heap.size w w' := by
  have CS : Hid (Calls _ _ _ _ _) := (by obtain ⟨v, hP⟩ := h; exact seek_none hP.c a g ha hg hx : Calls Try.prog 38 #[.pointer (some ⟨p, 0, none⟩), .int .i64 a, .int .i64 g] w _)
  clear ha hg hx h
  go_enter Try.func22, Try.ntmps22
  go_wp2_with fail
  refine CS.out.mono ?_
  rintro e w1 ⟨rfl, hb⟩
  have B1 : Hid (Below w.heap.size w w1) := hb
  clear CS
  go_wp2
  go_ret2
  exact ⟨rfl, B1.out⟩
theorem Mark_bad {w : World} {F : Nat → Prop} {p n : Nat} {l : List Tr} (h : Ca w F p n l) (a g : Int) (hbd : okA a = false ∨ okP g = false) :
    Calls Try.prog 22 #[.pointer (some ⟨p, 0, none⟩), .int .i64 a, .int .i64 g] w fun e w' => e = .returned (.tuple #[.bool false, .int .i64 2]) ∧ Below w.heap.size w w' := by
  have CS : Hid (Calls _ _ _ _ _) := (by obtain ⟨v, hP⟩ := h; exact seek_bad hP.c a g hbd : Calls Try.prog 38 #[.pointer (some ⟨p, 0, none⟩), .int .i64 a, .int .i64 g] w _)
  clear hbd h
  go_enter Try.func22, Try.ntmps22
  go_wp2_with fail
  refine CS.out.mono ?_
  rintro e w1 ⟨rfl, rfl⟩
  have B1 : Hid (Below w1.heap.size w1 w1) := Below.refl _ _
  clear CS
  go_wp2
  go_ret2
  exact ⟨rfl, B1.out⟩
theorem Mark_nil {w : World} {q : Option Addr} (hN : NoT w q) (a g : Int) :
    Calls Try.prog 22 #[.pointer q, .int .i64 a, .int .i64 g] w fun e w' => e = .returned (.tuple #[.bool false, .int .i64 1]) ∧ Below w.heap.size w w' := by
  have CS : Hid (Calls _ _ _ _ _) := seek_nil hN a g
  clear hN
  go_enter Try.func22, Try.ntmps22
  go_wp2_with fail
  refine CS.out.mono ?_
  rintro e w1 ⟨rfl, rfl⟩
  have B1 : Hid (Below w1.heap.size w1 w1) := Below.refl _ _
  clear CS
  go_wp2
  go_ret2
  exact ⟨rfl, B1.out⟩
theorem Drop_none {w : World} {F : Nat → Prop} {p n : Nat} {l : List Tr} (h : Ca w F p n l) (a g : Int) (ha : okA a = true) (hg : okP g = true) (hx : ∀ x ∈ l, hk a g x = false) :
    Calls Try.prog 19 #[.pointer (some ⟨p, 0, none⟩), .int .i64 a, .int .i64 g] w fun e w' => e = .returned (.tuple #[.bool false, .int .i64 0]) ∧ Below w.heap.size w w' := by
  have CS : Hid (Calls _ _ _ _ _) := (by obtain ⟨v, hP⟩ := h; exact seek_none hP.c a g ha hg hx : Calls Try.prog 38 #[.pointer (some ⟨p, 0, none⟩), .int .i64 a, .int .i64 g] w _)
  clear ha hg hx h
  go_enter Try.func19, Try.ntmps19
  go_wp2_with fail
  refine CS.out.mono ?_
  rintro e w1 ⟨rfl, hb⟩
  have B1 : Hid (Below w.heap.size w w1) := hb
  clear CS
  go_wp2
  go_ret2
  exact ⟨rfl, B1.out⟩
theorem Drop_bad {w : World} {F : Nat → Prop} {p n : Nat} {l : List Tr} (h : Ca w F p n l) (a g : Int) (hbd : okA a = false ∨ okP g = false) :
    Calls Try.prog 19 #[.pointer (some ⟨p, 0, none⟩), .int .i64 a, .int .i64 g] w fun e w' => e = .returned (.tuple #[.bool false, .int .i64 2]) ∧ Below w.heap.size w w' := by
  have CS : Hid (Calls _ _ _ _ _) := (by obtain ⟨v, hP⟩ := h; exact seek_bad hP.c a g hbd : Calls Try.prog 38 #[.pointer (some ⟨p, 0, none⟩), .int .i64 a, .int .i64 g] w _)
  clear hbd h
  go_enter Try.func19, Try.ntmps19
  go_wp2_with fail
  refine CS.out.mono ?_
  rintro e w1 ⟨rfl, rfl⟩
  have B1 : Hid (Below w1.heap.size w1 w1) := Below.refl _ _
  clear CS
  go_wp2
  go_ret2
  exact ⟨rfl, B1.out⟩
theorem Drop_nil {w : World} {q : Option Addr} (hN : NoT w q) (a g : Int) :
    Calls Try.prog 19 #[.pointer q, .int .i64 a, .int .i64 g] w fun e w' => e = .returned (.tuple #[.bool false, .int .i64 1]) ∧ Below w.heap.size w w' := by
  have CS : Hid (Calls _ _ _ _ _) := seek_nil hN a g
  clear hN
  go_enter Try.func19, Try.ntmps19
  go_wp2_with fail
  refine CS.out.mono ?_
  rintro e w1 ⟨rfl, rfl⟩
  have B1 : Hid (Below w1.heap.size w1 w1) := Below.refl _ _
  clear CS
  go_wp2
  go_ret2
  exact ⟨rfl, B1.out⟩
/-- The row cut, in its own block, and stored. -/
theorem Pt.cut {w w2 : World} {F : Nat → Prop} {p n g cap : Nat} {l : List Tr} (T : Pt w F p n (.slice (some ⟨g, 0, none⟩) l.length cap) l) (G : w.grownBy w2 (some g)) (l' : List Tr) {L' : List Value} (hB : Blk w2 g 32 L') (hL : L'.length = cap * 6) (hT : L'.take (l'.length * 6) = tv l') (hl : l'.length ≤ l.length) (hc : l.length ≤ cap) (hm : cap ≤ maxLen) (hu : Uq l') :
    Lv w F p n l' (w2.setCell ⟨p, 1, none⟩ (.slice (some ⟨g, 0, none⟩) l'.length cap)) := by
  have hpg : p ≠ g := fun e => T.c.vp (by rw [e]; rfl)
  have G2 := grown_setCell' w2 p 1 (.slice (some ⟨g, 0, none⟩) l'.length cap)
  have s1 := G.size
  have s2 := G2.size
  have hp := T.c.lt
  have c1 := (G.cell_far ⟨p, 1, none⟩ hp (some_ne hpg)).trans T.c.c1
  obtain ⟨F', P', K'⟩ := T.turn_new (w' := w2.setCell ⟨p, 1, none⟩ (.slice (some ⟨g, 0, none⟩) l'.length cap)) (.slice (some ⟨g, 0, none⟩) l'.length cap) l' (G2.os.trans G.os) (G2.tape.trans G.tape) (G2.output.trans G.output) (by omega)
    (fun i hi hip hiv => (G2.block i (by omega) (some_ne hip)).trans (G.block i hi hiv)) (by
      rw [World.cell?_setCell_other _ _ _ _ (by intro h; cases h)]
      exact (G.cell_far ⟨p, 0, none⟩ hp (some_ne hpg)).trans T.c.c0) (World.cell?_setCell_same _ _ _ c1) (by
      rw [World.frozen?_setCell]
      exact (G.frozen_far ⟨p, 1, none⟩ hp (some_ne hpg)).trans T.c.z1)
    (Own.of_blk (Nat.zero_le _) (hB.kept G2 (some_ne hpg.symm)) (by omega) hm hL hT) (fun g' hg' => Or.inl hg') (by have := T.c.len; omega) hu
  exact ⟨F', ⟨_, P'⟩, K'⟩
/-- The cells behind the k-th element. -/
def mvd (L : List Value) (k m : Nat) : List Value := (L.drop ((k + 1) * 6)).take ((m - (k + 1)) * 6)
theorem mvd_len {L : List Value} {k m : Nat} (hk : k < m) (hL : m * 6 ≤ L.length) : (mvd L k m).length = (m - (k + 1)) * 6 := by
  unfold mvd
  simp
  omega
set_option maxHeartbeats 1000000 in
theorem Delete_ok {w : World} {g m cap : Nat} {L : List Value} (hB : Blk w g 32 L) (k : Nat) (hk : k < m) (hm : m ≤ 64) (hmc : m ≤ cap) (hcm : cap ≤ maxLen) (hL : L.length = cap * 6) (hone : ∀ v ∈ L.take (m * 6), v.oneCell' = true) :
    Calls Try.prog 41 #[.slice (some ⟨g, 0, none⟩) m cap, .int .i64 k, .int .i64 ((k : Int) + 1)] w fun e w' => e = .returned (.slice (some ⟨g, 0, none⟩) (m - 1) cap) ∧ w.grownBy w' (some g) ∧ ∃ L', Blk w' g 32 L' ∧ L'.length = cap * 6 ∧ L'.take ((m - 1) * 6) = L.take (k * 6) ++ mvd L k m := by
  obtain ⟨i0, hi0, hz0, hz1, hz2⟩ := info_parts Try.infoT
  unfold maxLen at hcm
  have hlm := mvd_len (L := L) hk (by omega)
  obtain ⟨A, hA, hnews⟩ : ∃ A, (if cap = k + 1 then some (⟨g, 0, none⟩ : Addr) else some ⟨g, (k + 1) * 6, none⟩) = some A ∧ Hid (∀ j u, (mvd L k m)[j]? = some u → w.drew.cell? (A.add j) = some u) := by
    by_cases e : cap = k + 1
    · refine ⟨⟨g, 0, none⟩, by rw [if_pos e], fun j u hu => ?_⟩
      have := (List.getElem?_eq_some_iff.1 hu).1
      omega
    · refine ⟨⟨g, (k + 1) * 6, none⟩, by rw [if_neg e], fun j u hu => ?_⟩
      have hj := (List.getElem?_eq_some_iff.1 hu).1
      rw [Go.WideShapes.add_plain, hB.drew.cell, ← hu]
      unfold mvd
      rw [List.getElem?_take_of_lt (by omega), List.getElem?_drop]
  have s1 : Hid ((mvd L k m).length = (m - (k + 1)) * 6) := hlm
  have s2 : Hid (∀ u ∈ mvd L k m, u.oneCell' = true) := by
    intro u hu
    refine hone u ?_
    have : mvd L k m = (L.take (m * 6)).drop ((k + 1) * 6) := by
      unfold mvd
      rw [List.drop_take]
      congr 1
      omega
    rw [this] at hu
    exact List.mem_of_mem_drop hu
  have s3 : Hid (∀ j, j < (mvd L k m).length → (w.drew.cell? ⟨g, 0 + k * 6 + j, none⟩).isSome = true ∧ w.drew.frozen? ⟨g, 0 + k * 6 + j, none⟩ = false) := by
    intro j hj
    refine ⟨?_, hB.drew.frozen _⟩
    rw [hB.drew.cell, List.getElem?_eq_getElem (by omega)]
    rfl
  have B2 : Hid (Blk (w.drew.setCells g (k * 6) (mvd L k m)) g 32 (L.take (k * 6) ++ mvd L k m ++ L.drop (k * 6 + (mvd L k m).length))) := by
    have := Blk.sets (mvd L k m) (0 + k * 6) w.drew L hB.drew (by omega)
    rw [Nat.zero_add] at this
    exact this
  have G2 : Hid (w.grownBy (w.drew.setCells g (k * 6) (mvd L k m)) (some g)) := (drew_grown _ _).trans (grown_setCells _ _ _ _)
  have hwr : IntKind.i64.wrap ((k : Int) + 1) = (k : Int) + 1 := by rw [IntKind.wrap_i64]; omega
  have hp0 : (0 : Int) ≤ (k : Int) + 1 := by omega
  have hp1 : (k : Int) + 1 ≤ (m : Int) := by omega
  have hp2 : ((k : Int) + 1).toNat = k + 1 := by omega
  have hp3 : k ≤ cap := by omega
  clear hlm hB hone
  go_enter Try.func41, Try.ntmps41
  go_wp2_with fail
  go_region_law (refine step_append_room rfl (.tmp 22) (.tmp 25) 35 rfl 32 i0 6 Try.underlying35 hi0 hz1 g 0 k cap (by simp [Act.eval, Act.put]) A (m - (k + 1)) (cap - (k + 1)) (mvd L k m) (by simp [Act.eval, Act.put]) s1.out hnews.out s2.out (by omega) s3.out ?_)
  clear hnews s1 s2 s3 hA hwr hp0 hp1 hp2 hp3
  rw [show k + (m - (k + 1)) = m - 1 by omega]
  obtain ⟨m1, hm1⟩ : ∃ m1, m = m1 + 1 := ⟨m - 1, by omega⟩
  have HM1 : Hid (m = m1 + 1) := hm1
  subst hm1
  rw [Nat.add_sub_cancel]
  have hls := mvd_len (L := L) hk (by omega)
  generalize w.drew.setCells g (k * 6) (mvd L k (m1 + 1)) = wz at *
  have B3 : Hid (∀ Z : List Value, Z.length = 1 * 6 → Blk (wz.setCells g (m1 * 6) Z) g 32 ((L.take (k * 6) ++ mvd L k (m1 + 1) ++ L.drop (k * 6 + (mvd L k (m1 + 1)).length)).take (m1 * 6) ++ Z ++ (L.take (k * 6) ++ mvd L k (m1 + 1) ++ L.drop (k * 6 + (mvd L k (m1 + 1)).length)).drop (m1 * 6 + Z.length))) := fun Z hZ => Blk.sets Z (m1 * 6) wz _ B2.out (by simp; omega)
  obtain ⟨Z, hZ, hcl⟩ := run_clear6 wz 0 g (m1 * 6) 1 (cap - m1) (by omega) (fun j hj => by
    rw [B2.out.cell, List.getElem?_eq_getElem (by simp; omega)]
    rfl) (fun j hj => B2.out.frozen _)
  have hcl' : ∀ ty, (Builtin.clear_ #[35] ty #[.slice (some ⟨g, m1 * 6, none⟩) 1 (cap - m1)]).run Try.prog wz = .ok (.tuple #[]) (wz.setCells g (m1 * 6) Z) := fun ty => hcl
  clear hcl
  have B4 : Hid (∃ L', Blk (wz.setCells g (m1 * 6) Z) g 32 L' ∧ L'.length = cap * 6 ∧ L'.take (m1 * 6) = L.take (k * 6) ++ mvd L k (m1 + 1)) := by
    refine ⟨_, B3.out Z hZ, ?_, ?_⟩
    · simp
      omega
    · have l1 : (L.take (k * 6)).length = k * 6 := by simp; omega
      have l2 : (L.take (k * 6) ++ mvd L k (m1 + 1)).length = m1 * 6 := by rw [List.length_append, l1, hls]; omega
      have e1 : (L.take (k * 6) ++ mvd L k (m1 + 1) ++ L.drop (k * 6 + (mvd L k (m1 + 1)).length)).take (m1 * 6) = L.take (k * 6) ++ mvd L k (m1 + 1) := by
        rw [← l2, List.take_left]
      rw [e1, List.append_assoc]
      conv => lhs; arg 1; rw [← l2]
      rw [List.take_left]
  have G4 : Hid (w.grownBy (wz.setCells g (m1 * 6) Z) (some g)) := G2.out.trans (grown_setCells _ _ _ _)
  generalize wz.setCells g (m1 * 6) Z = wy at *
  clear B3 B2 G2 hls hZ
  have e1 : ((m1 : Int) + 1 - (m1 : Int)).toNat = 1 := by omega
  have hne : ¬ cap = m1 := by omega
  go_wp2
  go_ret
  exact ⟨rfl, G4.out, B4.out⟩
set_option maxHeartbeats 1000000 in
theorem Drop_hit {w : World} {F : Nat → Prop} {p n : Nat} {l : List Tr} (h : Ca w F p n l) (a g : Int) (ha : okA a = true) (hg : okP g = true) {k : Nat} {x : Tr} (hx : Ix a g l k x) :
    Calls Try.prog 19 #[.pointer (some ⟨p, 0, none⟩), .int .i64 a, .int .i64 g] w fun e w' => e = .returned (.tuple #[.bool true, .int .i64 0]) ∧ Lv w F p n (rm a g l) w' := by
  obtain ⟨v, hP⟩ := h
  have HP : Hid (Pt w F p n v l) := hP
  have hl := hP.c.len
  have hn := hP.c.n64
  have HX : Hid (Ix a g l k x) := hx
  have hkl : k < l.length := (List.getElem?_eq_some_iff.1 hx.at').1
  have CS : Hid (Calls _ _ _ _ _) := seek_ok hP.c a g ha hg hx
  clear hP ha hg hx
  go_enter Try.func19, Try.ntmps19
  go_wp2_with fail
  refine CS.out.mono ?_
  rintro e w1 ⟨rfl, hb⟩
  have T1 : Hid (Pt w1 F p n v l) := HP.out.below hb
  have B1 : Hid (Below w.heap.size w w1) := hb
  obtain ⟨gr, cap, L, e3, _, hB, hc1, hm, hL, hT⟩ := T1.out.c.own.shape.resolve_left (by rintro ⟨_, e⟩; rw [e] at hkl; simp at hkl)
  subst e3
  have q1 := T1.out.c.c1
  have hpg : p ≠ gr := fun e => T1.out.c.vp (by rw [e]; rfl)
  have hp1 := T1.out.c.lt
  have CD : Hid (Calls _ _ _ _ _) := Delete_ok hB k hkl (by omega) hc1 hm hL (by rw [hT]; exact tv_one l)
  clear hb CS
  go_wp2_with fail
  clear q1
  have HL : Hid (∀ w2 L', w1.grownBy w2 (some gr) → Blk w2 gr 32 L' → L'.length = cap * 6 → L'.take ((l.length - 1) * 6) = L.take (k * 6) ++ mvd L k l.length → Lv w F p n (rm a g l) (w2.setCell ⟨p, 1, none⟩ (.slice (some ⟨gr, 0, none⟩) (l.length - 1) cap))) := fun w2 L' G hB' hL' hT' => by
    have e := rm_at T1.out.c.uq HX.out.at' HX.out.is
    have el : (rm a g l).length = l.length - 1 := by have := rm_len_at T1.out.c.uq HX.out.at' HX.out.is; omega
    rw [← el] at hT' ⊢
    refine Lv.pre B1.out (T1.out.cut G (rm a g l) hB' hL' ?_ (by omega) hc1 hm (rm_uq a g T1.out.c.uq))
    rw [hT', e, tv_app]
    have e1 : L.take (k * 6) = tv (l.take k) := by rw [← tv_take, ← hT, List.take_take, Nat.min_eq_left (by omega)]
    have e2 : mvd L k l.length = tv (l.drop (k + 1)) := by
      unfold mvd
      rw [← tv_drop, ← hT, List.drop_take]
      congr 1
      omega
    rw [e1, e2]
  have HC : Hid (∀ w2, w1.grownBy w2 (some gr) → w2.cell? ⟨p, 1, none⟩ = some (.slice (some ⟨gr, 0, none⟩) l.length cap)) := fun w2 G => (G.cell_far ⟨p, 1, none⟩ hp1 (some_ne hpg)).trans T1.out.c.c1
  have HZ : Hid (∀ w2, w1.grownBy w2 (some gr) → w2.frozen? ⟨p, 1, none⟩ = false) := fun w2 G => (G.frozen_far ⟨p, 1, none⟩ hp1 (some_ne hpg)).trans T1.out.c.z1
  clear hB hT hL hm
  refine CD.out.mono ?_
  rintro e w2 ⟨rfl, G, L', hB', hL', hT'⟩
  have HE : Hid (Lv w F p n (rm a g l) (w2.setCell ⟨p, 1, none⟩ (.slice (some ⟨gr, 0, none⟩) (l.length - 1) cap))) := HL.out w2 L' G hB' hL' hT'
  have q1 := HC.out w2 G
  have z1 := HZ.out w2 G
  clear HL HC HZ CD G hB' hL' hT'
  generalize l.length - 1 = m1 at *
  go_wp2
  go_ret2
  exact ⟨rfl, HE.out⟩
theorem isT_cases {a p : Int} {l : List Tr} : (okA a = true ∧ okP p = true ∧ ∃ k x, Ix a p l k x ∧ look a p l = some x) ∨ (okA a = true ∧ okP p = true ∧ (∀ x ∈ l, hk a p x = false) ∧ look a p l = none) ∨ (okA a = false ∨ okP p = false) := by
  cases ha : okA a with
  | false => exact Or.inr (Or.inr (Or.inl rfl))
  | true =>
    cases hg : okP p with
    | false => exact Or.inr (Or.inr (Or.inr rfl))
    | true =>
      rcases ix_or a p l with ⟨k, x, h1, h2⟩ | ⟨h1, h2⟩
      · exact Or.inl ⟨rfl, rfl, k, x, h1, h2⟩
      · exact Or.inr (Or.inl ⟨rfl, rfl, h1, h2⟩)
theorem bad_and {a p : Int} (h : okA a = false ∨ okP p = false) : (okA a && okP p) = false := by
  rcases h with h | h <;> simp [h]
/-- What Mark leaves, and Drop. -/
def mrkL (a p : Int) (l : List Tr) : List Tr := if okA a && okP p then mrk a p l else l
def rmL (a p : Int) (l : List Tr) : List Tr := if okA a && okP p then rm a p l else l
theorem mrk_none {a p : Int} {l : List Tr} (h : ∀ x ∈ l, hk a p x = false) : mrk a p l = l := by
  unfold mrk
  conv => rhs; rw [← List.map_id l]
  refine List.map_congr_left (fun z hz => ?_)
  rw [h z hz]
  rfl
theorem Peek_ok {w : World} {F : Nat → Prop} {p n : Nat} {l : List Tr} (h : Ca w F p n l) (a g : Int) :
    Calls Try.prog 24 #[.pointer (some ⟨p, 0, none⟩), .int .i64 a, .int .i64 g] w fun e w' => e = .returned (.tuple #[.agg #[.int .i64 (pk a g l).1.a, .int .i64 (pk a g l).1.p, .int .i64 (pk a g l).1.f, .bool (pk a g l).1.r, .bool (pk a g l).1.w, .bool (pk a g l).1.d], .bool (pk a g l).2.1, .int .i64 (pk a g l).2.2]) ∧ Below w.heap.size w w' := by
  rcases isT_cases (a := a) (p := g) (l := l) with ⟨ha, hg, k, x, hx, e⟩ | ⟨ha, hg, hx, e⟩ | hb
  · rw [show pk a g l = (x, true, 0) by simp [pk, ha, hg, e]]
    exact Peek_hit h a g ha hg hx
  · rw [show pk a g l = (z0, false, 0) by simp [pk, ha, hg, e]]
    exact Peek_none h a g ha hg hx
  · rw [show pk a g l = (z0, false, 2) by simp [pk, bad_and hb]]
    exact Peek_bad h a g hb
theorem Find_ok {w : World} {F : Nat → Prop} {p n : Nat} {l : List Tr} (h : Ca w F p n l) (a g : Int) :
    Calls Try.prog 16 #[.pointer (some ⟨p, 0, none⟩), .int .i64 a, .int .i64 g] w fun e w' => e = .returned (.tuple #[.agg #[.int .i64 (pk a g l).1.a, .int .i64 (pk a g l).1.p, .int .i64 (pk a g l).1.f, .bool (pk a g l).1.r, .bool (pk a g l).1.w, .bool (pk a g l).1.d], .bool (pk a g l).2.1, .int .i64 (pk a g l).2.2]) ∧ Lv w F p n (fd a g l) w' := by
  rcases isT_cases (a := a) (p := g) (l := l) with ⟨ha, hg, k, x, hx, e⟩ | ⟨ha, hg, hx, e⟩ | hb
  · rw [show pk a g l = (x, true, 0) by simp [pk, ha, hg, e], show fd a g l = x :: rm a g l by simp [fd, ha, hg, e]]
    exact Find_hit h a g ha hg hx
  · rw [show pk a g l = (z0, false, 0) by simp [pk, ha, hg, e], show fd a g l = l by simp [fd, ha, hg, e]]
    refine (Find_none h a g ha hg hx).mono ?_
    rintro e w' ⟨he, hb⟩
    exact ⟨he, Lv.of_below h hb⟩
  · rw [show pk a g l = (z0, false, 2) by simp [pk, bad_and hb], show fd a g l = l by simp [fd, bad_and hb]]
    refine (Find_bad h a g hb).mono ?_
    rintro e w' ⟨he, hb⟩
    exact ⟨he, Lv.of_below h hb⟩
theorem Mark_ok {w : World} {F : Nat → Prop} {p n : Nat} {l : List Tr} (h : Ca w F p n l) (a g : Int) :
    Calls Try.prog 22 #[.pointer (some ⟨p, 0, none⟩), .int .i64 a, .int .i64 g] w fun e w' => e = .returned (.tuple #[.bool (isT a g l).1, .int .i64 (isT a g l).2]) ∧ Lv w F p n (mrkL a g l) w' := by
  rcases isT_cases (a := a) (p := g) (l := l) with ⟨ha, hg, k, x, hx, e⟩ | ⟨ha, hg, hx, e⟩ | hb
  · rw [show isT a g l = (true, 0) by simp [isT, ha, hg, e], show mrkL a g l = mrk a g l by simp [mrkL, ha, hg]]
    exact Mark_hit h a g ha hg hx
  · rw [show isT a g l = (false, 0) by simp [isT, ha, hg, e], show mrkL a g l = l by simp [mrkL, ha, hg, mrk_none hx]]
    refine (Mark_none h a g ha hg hx).mono ?_
    rintro e w' ⟨he, hb⟩
    exact ⟨he, Lv.of_below h hb⟩
  · rw [show isT a g l = (false, 2) by simp [isT, bad_and hb], show mrkL a g l = l by simp [mrkL, bad_and hb]]
    refine (Mark_bad h a g hb).mono ?_
    rintro e w' ⟨he, hb⟩
    exact ⟨he, Lv.of_below h hb⟩
theorem Drop_ok {w : World} {F : Nat → Prop} {p n : Nat} {l : List Tr} (h : Ca w F p n l) (a g : Int) :
    Calls Try.prog 19 #[.pointer (some ⟨p, 0, none⟩), .int .i64 a, .int .i64 g] w fun e w' => e = .returned (.tuple #[.bool (isT a g l).1, .int .i64 (isT a g l).2]) ∧ Lv w F p n (rmL a g l) w' := by
  rcases isT_cases (a := a) (p := g) (l := l) with ⟨ha, hg, k, x, hx, e⟩ | ⟨ha, hg, hx, e⟩ | hb
  · rw [show isT a g l = (true, 0) by simp [isT, ha, hg, e], show rmL a g l = rm a g l by simp [rmL, ha, hg]]
    exact Drop_hit h a g ha hg hx
  · rw [show isT a g l = (false, 0) by simp [isT, ha, hg, e], show rmL a g l = l by simp [rmL, ha, hg, rm_none hx]]
    refine (Drop_none h a g ha hg hx).mono ?_
    rintro e w' ⟨he, hb⟩
    exact ⟨he, Lv.of_below h hb⟩
  · rw [show isT a g l = (false, 2) by simp [isT, bad_and hb], show rmL a g l = l by simp [rmL, bad_and hb]]
    refine (Drop_bad h a g hb).mono ?_
    rintro e w' ⟨he, hb⟩
    exact ⟨he, Lv.of_below h hb⟩
end Go.Proofs.Ytkgmdalekakgpaa
