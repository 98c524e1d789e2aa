/- How many are free by the document; two rows of numbers held against one another; an area by its blocks alone; works; no condition but those that each theorem names. -/
import Derived.Test.YtncelpphbhcogaaDoorSi
namespace Go.Proofs.YtncelpphbhcogaaDoor.Z
open Go.ChangeShapes Go.WideShapes Go.ChangeAt Go.RowKit
set_option linter.unusedVariables false
set_option maxRecDepth 8192

/-- A row of numbers that is read. -/
def Lst (w : World) (v : Value) (L : List Nat) : Prop := ∃ a c, v = .slice a L.length c ∧ (L.length = 0 ∨ ∃ b, a = some ⟨b, 0, none⟩ ∧ b < w.heap.size ∧ ∀ i, i < L.length → w.cell? ⟨b, i, none⟩ = some (.int .i64 (L.getD i 0 : Nat)))
theorem Is.lst {w : World} {base : Nat} {v : Value} {L : List Nat} (h : Is w base v L) : Lst w v L := by
  rcases h.form with ⟨rfl, rfl⟩ | ⟨g, cap, rfl, _, h1, _, h2⟩
  · exact ⟨none, 0, rfl, Or.inl rfl⟩
  · exact ⟨_, _, rfl, Or.inr ⟨g, rfl, h1, fun i hi => by rw [h2 i hi, getD_lt hi]⟩⟩
theorem Lst.below {w w' : World} {v : Value} {L : List Nat} (h : Lst w v L) (k : Below w.heap.size w w') : Lst w' v L := by
  obtain ⟨a, c, e, h⟩ := h
  refine ⟨a, c, e, ?_⟩
  rcases h with h | ⟨b, e, hb, hc⟩
  · exact Or.inl h
  · exact Or.inr ⟨b, e, Nat.lt_of_lt_of_le hb k.size, fun i hi => (World.cell?_of_block (w := w) (a := ⟨b, i, none⟩) (k.block b hb)).trans (hc i hi)⟩
theorem lst_new (w : World) (L : List Nat) (c : Nat) : Lst (w.alloc (.cells (iv L).toArray 3)) (.slice (some ⟨w.heap.size, 0, none⟩) L.length c) L := by
  have hb := blk_new w (iv L) 3
  refine ⟨_, _, rfl, Or.inr ⟨_, rfl, hb.lt, fun i hi => ?_⟩⟩
  rw [hb.cell]
  unfold iv
  rw [List.getElem?_map, List.getElem?_eq_getElem hi, getD_lt hi]
  rfl
theorem EqInts_any {w : World} {v1 v2 : Value} {L : List Nat} (hl : L.length ≤ 4096) (h1 : Lst w v1 L) (h2 : Lst w v2 L) : Calls Tryd.prog 15 #[v1, v2] w fun e w' => e = .returned (.bool true) ∧ Below w.heap.size w w' := by
  obtain ⟨a1, c1, rfl, h1⟩ := h1
  obtain ⟨a2, c2, rfl, h2⟩ := h2
  generalize L.length = n at *
  have H1 : Hid _ := h1
  have H2 : Hid _ := h2
  clear h1 h2
  go_enter Tryd.func15, Tryd.ntmps15
  go_wp2
  go_loopw [5] (fun i wr => ∃ k q : Nat, k ≤ n ∧ i = .int .i64 k ∧ wr = w.drewN q) (fun i _ => n - (intOf i).toNat)
  case atStart => exact ⟨0, 0, by omega, rfl, rfl⟩
  case round =>
    obtain ⟨k, q, hk, rfl, hwr⟩ := hrel
    have HWR : Hid (wr = w.drewN q) := hwr
    by_cases hlt : k < n
    · obtain ⟨b, rfl, _, d1⟩ := H1.out.resolve_left (fun e => by omega)
      obtain ⟨b', rfl, _, d2⟩ := H2.out.resolve_left (fun e => by omega)
      have e1 : wr.cell? ⟨b, k, none⟩ = some (.int .i64 (L.getD k 0 : Nat)) := by rw [hwr]; exact d1 k hlt
      have e2 : wr.cell? ⟨b', k, none⟩ = some (.int .i64 (L.getD k 0 : Nat)) := by rw [hwr]; exact d2 k hlt
      clear d1 d2 hwr
      generalize L.getD k 0 = v at *
      go_wp2
      go_quiet (fail)
      go_wp2
      go_roundw
      case rel => exact ⟨k + 1, q + nq, by omega, by go_num, by rw [HWR.out]; simp [World.drewN_drewN]⟩
      case measure => simp [intOf]; omega
    · obtain rfl : k = n := by omega
      have HB : Hid (Below w.heap.size w wr) := by rw [hwr]; exact below_drewN w q
      clear hwr
      go_wp2
      go_ret
      exact ⟨rfl, HB.out⟩
theorem rFree_any {w : World} {s g : Nat} {T : List Bool} (h : Rl w s g T) : Calls Tryd.prog 14 #[.pointer (some ⟨s, 0, none⟩)] w fun e w' => e = .returned (.int .i64 ((T.length : Int) - (cT T : Nat))) ∧ Below w.heap.size w w' := by
  have c1 := h.c1
  have hn := h.n
  have hc := cT_le T
  have HU : Hid (∀ W, Below w.heap.size w W → Calls Tryd.prog 16 #[.pointer (some ⟨s, 0, none⟩)] W fun e w' => ∃ a c, e = .returned (.slice a (cT T) c) ∧ Below W.heap.size W w' ∧ Below w.heap.size w w' ∧ w'.cell? ⟨s, 1, none⟩ = some (.slice (some ⟨g, 0, none⟩) T.length T.length)) := fun W k => (rUsed_any (h.below k)).mono fun e w' ⟨v, he, hi, hb⟩ => by
    obtain ⟨a, c, rfl, _⟩ := hi.lst
    rw [us_len] at he
    exact ⟨a, c, he, hb, bs k hb, ((h.below k).below hb).c1⟩
  have hw : IntKind.i64.wrap ((T.length : Int) - (cT T : Nat)) = (T.length : Int) - (cT T : Nat) := by simp (disch := omega) only [IntWalk.i64_in]
  clear h
  generalize cT T = c at *
  generalize T.length = n at *
  go_enter Tryd.func14, Tryd.ntmps14
  go_wp2
  go_region_held3 (fun W => W.cell? ⟨s, 1, none⟩ = some (.slice (some ⟨g, 0, none⟩) n n))
    (first | exact c1 | exact HC.out)
    ((go_at_call 16; refine (HU.out _ (by first | exact (Below.refl _ _).drew | exact Below.refl _ _)).mono ?_; rintro e W1 ⟨a, cc, rfl, b0, b1, c2⟩; have HB : Hid (Below w.heap.size w W1) := b1; have HC : Hid (W1.cell? ⟨s, 1, none⟩ = some (.slice (some ⟨g, 0, none⟩) n n)) := c2; clear b0 b1 c2))
  all_goals
    go_wp2
    go_ret
    exact ⟨rfl, HB.out⟩
/-- An area by its blocks. -/
def Ap (w : World) (s g : Nat) (T : List Bool) : Prop := (∃ W, Sl w s g T W) ∧ g ≠ 0
theorem Ap.below {w w' : World} {s g : Nat} {T : List Bool} (h : Ap w s g T) (k : Below w.heap.size w w') : Ap w' s g T := ⟨h.1.imp fun _ q => q.below k, h.2⟩
theorem Ap.kept {w w' : World} {s g x : Nat} {T : List Bool} (h : Ap w s g T) (k : w.grownBy w' (some x)) (h1 : s ≠ x) (h2 : g ≠ x) : Ap w' s g T := ⟨h.1.imp fun _ q => q.kept k h1 h2, h.2⟩
theorem Ap.lt {w : World} {s g : Nat} {T : List Bool} (h : Ap w s g T) : s < w.heap.size ∧ g < w.heap.size ∧ s ≠ g := by
  obtain ⟨⟨W, q⟩, _⟩ := h
  exact ⟨q.st.lt, q.wd.lt, q.ne⟩
theorem Ap.n {w : World} {s g : Nat} {T : List Bool} (h : Ap w s g T) : T.length ≤ 1024 := by
  obtain ⟨⟨W, q⟩, _⟩ := h
  exact q.n
theorem aNew {n : Nat} (hn : n ≤ 1024) {w : World} (ht : Tb w) : Calls Tryd.prog 6 #[.int .i64 (n : Int)] w fun e w' => ∃ s g, e = .returned (.tuple #[.pointer (some ⟨s, 0, none⟩), .int .i64 0]) ∧ Ap w' s g (nw n) ∧ w.heap.size ≤ s ∧ w.heap.size ≤ g ∧ Below w.heap.size w w' ∧ Tb w' :=
  (New_ok hn w).mono fun e w' ⟨s, g, W, he, h1, h2, h3, h4⟩ => ⟨s, g, he, ⟨⟨W, h1⟩, by have := ht.lt; omega⟩, h2, h3, h4, ht.below h4⟩
theorem aTake {w : World} {s g : Nat} {T : List Bool} (h : Ap w s g T) (ht : Tb w) : Calls Tryd.prog 8 #[.pointer (some ⟨s, 0, none⟩)] w fun e w' => ∃ T' a er, e = .returned (.tuple #[.int .i64 a, .int .i64 er]) ∧ TkS T T' a er ∧ Ap w' s g T' ∧ w.grownBy w' (some g) ∧ Tb w' := by
  obtain ⟨⟨W, q⟩, h0⟩ := h
  exact (Take_any q ht h0).mono fun e w' ⟨T', a, er, he, h1, h2, h3⟩ => ⟨T', a, er, he, h1, ⟨h2, h0⟩, h3, ht.kept h3 h0⟩
theorem aTake_is {w : World} {s g : Nat} {T T' : List Bool} {a er : Int} (h : Ap w s g T) (ht : Tb w) (hT : TkS T T' a er) : Calls Tryd.prog 8 #[.pointer (some ⟨s, 0, none⟩)] w fun e w' => e = .returned (.tuple #[.int .i64 a, .int .i64 er]) ∧ Ap w' s g T' ∧ w.grownBy w' (some g) ∧ Tb w' :=
  (aTake h ht).mono fun e w' ⟨T2, a2, er2, he, h1, h2, h3⟩ => by
    obtain ⟨rfl, rfl, rfl⟩ := h1.uniq hT
    exact ⟨he, h2, h3⟩
theorem aGive {w : World} {s g : Nat} {T : List Bool} (h : Ap w s g T) (ht : Tb w) (x : Int) : Calls Tryd.prog 10 #[.pointer (some ⟨s, 0, none⟩), .int .i64 x] w fun e w' => ∃ T' er, e = .returned (.int .i64 er) ∧ GvS T x T' er ∧ Ap w' s g T' ∧ w.grownBy w' (some g) ∧ Tb w' := by
  obtain ⟨⟨W, q⟩, h0⟩ := h
  exact (Give_any q x).mono fun e w' ⟨T', er, he, h1, h2, h3⟩ => ⟨T', er, he, h1, ⟨h2, h0⟩, h3, ht.kept h3 h0⟩
theorem aGive_is {w : World} {s g : Nat} {T T' : List Bool} {x er : Int} (h : Ap w s g T) (ht : Tb w) (hT : GvS T x T' er) : Calls Tryd.prog 10 #[.pointer (some ⟨s, 0, none⟩), .int .i64 x] w fun e w' => e = .returned (.int .i64 er) ∧ Ap w' s g T' ∧ w.grownBy w' (some g) ∧ Tb w' :=
  (aGive h ht x).mono fun e w' ⟨T2, er2, he, h1, h2, h3⟩ => by
    obtain ⟨rfl, rfl⟩ := h1.uniq hT
    exact ⟨he, h2, h3⟩
theorem aFree {w : World} {s g : Nat} {T : List Bool} (h : Ap w s g T) : Calls Tryd.prog 13 #[.pointer (some ⟨s, 0, none⟩)] w fun e w' => e = .returned (.int .i64 ((T.length : Int) - (cT T : Nat))) ∧ Below w.heap.size w w' := by
  obtain ⟨⟨W, q⟩, h0⟩ := h
  exact Free_any q
theorem aUsed {w : World} {s g : Nat} {T : List Bool} (h : Ap w s g T) : Calls Tryd.prog 12 #[.pointer (some ⟨s, 0, none⟩)] w fun e w' => ∃ v, e = .returned v ∧ Is w' w.heap.size v (us T) ∧ Below w.heap.size w w' := by
  obtain ⟨⟨W, q⟩, h0⟩ := h
  exact Used_any q
theorem fr_first {T : List Bool} : Fr (false :: T) 0 := ⟨rfl, fun k h => absurd h (Nat.not_lt_zero _)⟩
set_option maxHeartbeats 1000000 in
theorem works_any {w : World} (ht : Tb w) : Calls Tryd.prog 17 #[] w fun e w' => e = .returned (.bool true) ∧ Below w.heap.size w w' := by
  have CN : Hid (Calls _ _ _ _ _) := aNew (n := 3) (by omega) ht
  clear ht
  go_enter Tryd.func17, Tryd.ntmps17
  go_wp2_with fail
  refine CN.out.mono ?_
  rintro e w1 ⟨s, g, rfl, hA, hs, hg, hb, ht⟩
  have HB : Hid (Below w.heap.size w w1) := hb
  have HG : Hid (w.heap.size ≤ g) := hg
  have CA : Hid (Calls _ _ _ _ _) := aTake_is hA ht (kt_tk (n := 3) (k := 0) (by omega))
  clear hA hs hg hb ht CN
  go_wp2_with fail
  refine CA.out.mono ?_
  rintro e w2 ⟨rfl, hA, hg2, ht⟩
  have HB2 : Hid (Below w.heap.size w w2) := HB.out.grown hg2 HB.out.size (fun k hk => by cases hk; exact HG.out)
  have CB : Hid (Calls _ _ _ _ _) := aTake_is hA ht (kt_tk (n := 3) (k := 1) (by omega))
  clear hA hg2 ht CA HB
  go_wp2_with fail
  refine CB.out.mono ?_
  rintro e w3 ⟨rfl, hA, hg2, ht⟩
  have HB3 : Hid (Below w.heap.size w w3) := HB2.out.grown hg2 HB2.out.size (fun k hk => by cases hk; exact HG.out)
  have CC : Hid (Calls _ _ _ _ _) := aGive_is (x := 0) (T' := [false, true, false]) (er := 0) hA ht (Or.inl ⟨0, rfl, rfl, rfl, rfl⟩)
  clear hA hg2 ht CB HB2
  go_wp2_with fail
  refine CC.out.mono ?_
  rintro e w4 ⟨rfl, hA, hg2, ht⟩
  have HB4 : Hid (Below w.heap.size w w4) := HB3.out.grown hg2 HB3.out.size (fun k hk => by cases hk; exact HG.out)
  have CD : Hid (Calls _ _ _ _ _) := aTake_is (T' := [true, true, false]) (a := 0) (er := 0) hA ht (Or.inl ⟨0, fr_first, rfl, rfl, rfl⟩)
  clear hA hg2 ht CC HB3
  go_wp2_with fail
  refine CD.out.mono ?_
  rintro e w5 ⟨rfl, hA, hg2, ht⟩
  have HB5 : Hid (Below w.heap.size w w5) := HB4.out.grown hg2 HB4.out.size (fun k hk => by cases hk; exact HG.out)
  have CE : Hid (Calls _ _ _ _ _) := aFree hA
  have HA : Hid (Ap w5 s g [true, true, false]) := hA
  clear hA hg2 ht CD HB4
  go_wp2_with fail
  refine CE.out.mono ?_
  rintro e w6 ⟨rfl, hb⟩
  have HB6 : Hid (Below w.heap.size w w6) := bs HB5.out hb
  have CF : Hid (Calls _ _ _ _ _) := aUsed (HA.out.below hb)
  have e1 : (([true, true, false] : List Bool).length : Int) - (cT [true, true, false] : Nat) = 1 := rfl
  rw [e1]
  clear hb CE HB5 e1
  go_wp2_with fail
  refine CF.out.mono ?_
  rintro e w7 ⟨v, rfl, hi, hb⟩
  have HB7 : Hid (Below w.heap.size w w7) := bs HB6.out hb
  have e2 : us [true, true, false] = [0, 1] := rfl
  rw [e2] at hi
  have CG : Hid (Calls _ _ _ _ _) := EqInts_any (w := w7.alloc (.cells #[.int .i64 0, .int .i64 1] 3)) (v1 := v) (v2 := .slice (some ⟨w7.heap.size, 0, none⟩) 2 2) (L := [0, 1]) (by decide) (hi.lst.below (below1 _ _)) (lst_new w7 [0, 1] 2)
  have HB8 : Hid (Below w.heap.size w (w7.alloc (.cells #[.int .i64 0, .int .i64 1] 3))) := bs HB7.out (below1 _ _)
  clear hb CF HB6 hi e2
  go_wp2_with fail
  refine CG.out.mono ?_
  rintro e w9 ⟨rfl, hb⟩
  have HB9 : Hid (Below w.heap.size w w9) := bs HB8.out hb
  clear hb
  go_wp2
  go_ret
  exact ⟨rfl, HB9.out⟩
end Go.Proofs.YtncelpphbhcogaaDoor.Z
