/- The document's area: New, Take, Give, Used, Free; no condition but those that each theorem names. -/
import Derived.Test.YtncelpphbhcogaaDoorSh
namespace Go.Proofs.YtncelpphbhcogaaDoor.Z
open Go.ChangeShapes Go.WideShapes Go.ChangeAt Go.RowKit
set_option linter.unusedVariables false
set_option maxRecDepth 8192

/-- Truths as values. -/
def bv (T : List Bool) : List Value := T.map .bool
theorem bv_len (T : List Bool) : (bv T).length = T.length := List.length_map _
theorem bv_at {T : List Bool} {j : Nat} (h : j < T.length) : (bv T)[j]? = some (.bool (T.getD j false)) := by
  unfold bv
  rw [List.getElem?_map, getD_bz h]
  rfl
theorem bv_set (T : List Bool) (j : Nat) (b : Bool) : (bv T).set j (.bool b) = bv (T.set j b) := by
  unfold bv
  rw [List.map_set]
theorem Tryd.infoB : (Tryd.prog.info? 4).map (fun i => (i.zero, i.size, i.bytes)) = some (some (.bool false), 1, 1) := by kernel_rfl
theorem make_bools (n : Nat) (hn : n ≤ 4096) (w : World) : (Instr.makeSlice 42 (.int .i64 n) (.int .i64 n)).run Tryd.prog w = .ok (.slice (some ⟨w.heap.size, 0, none⟩) n n) (w.alloc (.cells (bv (nw n)).toArray 4)) := by
  have e0 : bv (nw n) = List.replicate n (.bool false) := by unfold bv nw; rw [List.map_replicate]
  rw [e0]
  obtain ⟨i0, hi, hz0, hz1, hz2⟩ := info_parts Tryd.infoB
  have h := run_makeSlice (P := Tryd.prog) w 42 4 i0 (.bool false) Tryd.underlying42 hi hz0 .i64 .i64 n n (by omega) (by omega) (by rw [hz1]; simp; omega) (by rw [hz2]; omega) (by omega)
  rw [h]
  have e : madeCells (Value.bool false).cells ((n : Int).toNat * i0.size) = (List.replicate n (.bool false)).toArray := by
    apply Array.toList_inj.1
    rw [hz1, Int.toNat_natCast]
    show (madeCells #[.bool false] (n * 1)).toList = _
    rw [toList_madeCells_one, Nat.mul_one]
  rw [e, Int.toNat_natCast]
/-- The document's area: the struct, its truths. -/
structure Rl (w : World) (s g : Nat) (T : List Bool) : Prop where
  st : Blk w s 51 [.bool true, .slice (some ⟨g, 0, none⟩) T.length T.length]
  wd : Blk w g 4 (bv T)
  ne : s ≠ g
  n : T.length ≤ 1024
theorem Rl.of_eq {w w' : World} {s g : Nat} {T : List Bool} (h : Rl w s g T) (e1 : w'.heap[s]? = w.heap[s]?) (e2 : w'.heap[g]? = w.heap[g]?) : Rl w' s g T := ⟨h.st.of_eq e1, h.wd.of_eq e2, h.ne, h.n⟩
theorem Rl.below {w w' : World} {s g : Nat} {T : List Bool} (h : Rl w s g T) (k : Below w.heap.size w w') : Rl w' s g T := h.of_eq (k.block s h.st.lt) (k.block g h.wd.lt)
theorem Rl.kept {w w' : World} {s g x : Nat} {T : List Bool} (h : Rl w s g T) (k : w.grownBy w' (some x)) (h1 : s ≠ x) (h2 : g ≠ x) : Rl w' s g T := h.of_eq (k.block s h.st.lt (some_ne h1)) (k.block g h.wd.lt (some_ne h2))
theorem Rl.c0 {w : World} {s g : Nat} {T : List Bool} (h : Rl w s g T) : w.cell? ⟨s, 0, none⟩ = some (.bool true) := h.st.cell 0
theorem Rl.c1 {w : World} {s g : Nat} {T : List Bool} (h : Rl w s g T) : w.cell? ⟨s, 1, none⟩ = some (.slice (some ⟨g, 0, none⟩) T.length T.length) := h.st.cell 1
theorem Rl.cw {w : World} {s g : Nat} {T : List Bool} (h : Rl w s g T) {j : Nat} (hj : j < T.length) : w.cell? ⟨g, j, none⟩ = some (.bool (T.getD j false)) := (h.wd.cell j).trans (bv_at hj)
theorem Rl.set {w : World} {s g : Nat} {T : List Bool} (h : Rl w s g T) (j : Nat) (b : Bool) : Rl (w.setCell ⟨g, j, none⟩ (.bool b)) s g (T.set j b) ∧ w.grownBy (w.setCell ⟨g, j, none⟩ (.bool b)) (some g) := by
  have hg := grown_setCell' w g j (.bool b)
  refine ⟨⟨?_, ?_, h.ne, by rw [List.length_set]; exact h.n⟩, hg⟩
  · rw [List.length_set]
    exact h.st.kept hg (some_ne h.ne)
  · have := h.wd.set j (.bool b)
    rwa [bv_set] at this
def Ru (w : World) (s g : Nat) (T' : List Bool) (w' : World) : Prop := Rl w' s g T' ∧ w.grownBy w' (some g)
theorem within_any (n a b : Int) (w : World) : Calls Tryd.prog 20 #[.int .i64 n, .int .i64 a, .int .i64 b] w fun e w' => e = .returned (.bool (decide (a ≤ n) && decide (n ≤ b))) ∧ w' = w := by
  by_cases h : a ≤ n
  · go_enter Tryd.func20, Tryd.ntmps20
    go_wp2
    go_ret
    exact ⟨ret_bool (by simp [h]), rfl⟩
  · go_enter Tryd.func20, Tryd.ntmps20
    go_wp2
    go_ret
    exact ⟨ret_bool (by simp; omega), rfl⟩
theorem rNew_no (n : Int) (h : n < 0 ∨ 1024 < n) (w : World) : Calls Tryd.prog 7 #[.int .i64 n] w fun e w' => e = .returned (.tuple #[.pointer none, .int .i64 2]) ∧ w' = w := by
  have hb : (decide ((0 : Int) ≤ n) && decide (n ≤ 1024)) = false := by simp; omega
  have C := within_any n 0 1024 w
  rw [hb] at C
  go_enter Tryd.func7, Tryd.ntmps7
  go_wp2_with (go_at_call 20; refine C.mono ?_; rintro e w' ⟨rfl, hw⟩; obtain rfl := hw.symm)
  go_ret2
  exact ⟨rfl, rfl⟩
theorem rNew_ok {n : Nat} (hn : n ≤ 1024) (w : World) : Calls Tryd.prog 7 #[.int .i64 (n : Int)] w fun e w' => ∃ s g, e = .returned (.tuple #[.pointer (some ⟨s, 0, none⟩), .int .i64 0]) ∧ Rl w' s g (nw n) ∧ w.heap.size ≤ s ∧ w.heap.size ≤ g ∧ Below w.heap.size w w' := by
  have hb : (decide ((0 : Int) ≤ n) && decide ((n : Int) ≤ 1024)) = true := by simp; omega
  have C := within_any n 0 1024 w
  rw [hb] at C
  have m6 := make_bools n (by omega) w
  have FIN : Hid (Rl ((w.alloc (.cells (bv (nw n)).toArray 4)).alloc (.cells #[.bool true, .slice (some ⟨w.heap.size, 0, none⟩) n n] 51)) (w.heap.size + 1) w.heap.size (nw n) ∧ Below w.heap.size w ((w.alloc (.cells (bv (nw n)).toArray 4)).alloc (.cells #[.bool true, .slice (some ⟨w.heap.size, 0, none⟩) n n] 51))) := by
    have b1 := below1 w (.cells (bv (nw n)).toArray 4)
    have b2 := below1 (w.alloc (.cells (bv (nw n)).toArray 4)) (.cells #[.bool true, .slice (some ⟨w.heap.size, 0, none⟩) n n] 51)
    have k1 := blk_new w (bv (nw n)) 4
    have k2 := blk_new (w.alloc (.cells (bv (nw n)).toArray 4)) [.bool true, .slice (some ⟨w.heap.size, 0, none⟩) n n] 51
    rw [World.size_alloc] at k2
    exact ⟨⟨by rw [nw_len]; exact k2, k1.below b2, by omega, by rw [nw_len]; exact hn⟩, bs b1 b2⟩
  go_enter Tryd.func7, Tryd.ntmps7
  go_wp2_with (go_at_call 20; refine C.mono ?_; rintro e w' ⟨rfl, hw⟩; obtain rfl := hw.symm)
  go_ret2
  exact ⟨_, _, rfl, FIN.out.1, by omega, by omega, FIN.out.2⟩
theorem rTake_any {w : World} {s g : Nat} {T : List Bool} (h : Rl w s g T) : Calls Tryd.prog 9 #[.pointer (some ⟨s, 0, none⟩)] w fun e w' => ∃ T' a er, e = .returned (.tuple #[.int .i64 a, .int .i64 er]) ∧ TkS T T' a er ∧ Ru w s g T' w' := by
  have c0 := h.c0
  have c1 := h.c1
  have hn := h.n
  have HS : Hid (Rl w s g T) := h
  clear h
  go_enter Tryd.func9, Tryd.ntmps9
  go_wp2
  go_loopw [4] (fun i wr => ∃ k : Nat, k ≤ T.length ∧ i = .int .i64 k ∧ wr = w ∧ Upto T k) (fun i _ => T.length - (intOf i).toNat)
  case atStart => exact ⟨0, by omega, rfl, rfl, Upto.zero T⟩
  case round =>
    obtain ⟨k, hk, rfl, hwr, hu⟩ := hrel
    obtain rfl := hwr.symm
    have HU : Hid (Upto T k) := hu
    clear hu
    by_cases hlt : k < T.length
    · have cw := HS.out.cw hlt
      have hg := getD_bz hlt
      cases hh : T.getD k false
      · rw [hh] at cw hg
        have FIN : Hid (TkS T (T.set k true) (k : Int) 0) := Or.inl ⟨k, HU.out.fr hg, rfl, rfl, rfl⟩
        have HW : Hid (Ru w s g (T.set k true) _) := HS.out.set k true
        have hfz : w.frozen? ⟨g, k, none⟩ = false := HS.out.wd.frozen k
        clear hh hg
        generalize T.length = n at *
        go_wp2
        go_ret2
        exact ⟨_, _, _, rfl, FIN.out, HW.out⟩
      · rw [hh] at cw hg
        have HU2 : Hid (Upto T (k + 1)) := HU.out.step hg
        clear hh hg
        generalize T.length = n at *
        go_wp2
        go_roundw
        case rel => exact ⟨k + 1, by omega, by go_num, by first | rfl | trivial, HU2.out⟩
        case measure => simp [intOf]; omega
    · obtain rfl : k = T.length := by omega
      have FIN : Hid (TkS T T 0 4) := Or.inr ⟨HU.out.full, rfl, rfl, rfl⟩
      have HW : Hid (Ru w s g T w) := ⟨HS.out, grown_drewN w 0 _⟩
      generalize T.length = n at *
      go_wp2
      go_ret2
      exact ⟨_, _, _, rfl, FIN.out, HW.out⟩
theorem rGive_any {w : World} {s g : Nat} {T : List Bool} (h : Rl w s g T) (x : Int) : Calls Tryd.prog 11 #[.pointer (some ⟨s, 0, none⟩), .int .i64 x] w fun e w' => ∃ T' er, e = .returned (.int .i64 er) ∧ GvS T x T' er ∧ Ru w s g T' w' := by
  have c0 := h.c0
  have c1 := h.c1
  have hn := h.n
  have HS : Hid (Rl w s g T) := h
  have HW0 : Hid (Ru w s g T w) := ⟨h, grown_drewN w 0 _⟩
  clear h
  by_cases hx : 0 ≤ x ∧ x < T.length
  · obtain ⟨k, rfl⟩ := Int.eq_ofNat_of_zero_le hx.1
    have hlt : k < T.length := by omega
    have cw := HS.out.cw hlt
    have hg := getD_bz hlt
    have hfz : w.frozen? ⟨g, k, none⟩ = false := HS.out.wd.frozen k
    cases hh : T.getD k false
    · rw [hh] at cw hg
      have FIN : Hid (GvS T (k : Int) T 91) := by
        refine Or.inr ⟨fun k' hk' => ?_, rfl, rfl⟩
        have : k' = k := by omega
        rw [this, hg]
        simp
      clear hh hg
      generalize T.length = n at *
      go_enter Tryd.func11, Tryd.ntmps11
      go_wp2
      go_ret
      exact ⟨_, _, rfl, FIN.out, HW0.out⟩
    · rw [hh] at cw hg
      have FIN : Hid (GvS T (k : Int) (T.set k false) 0) := Or.inl ⟨k, rfl, hg, rfl, rfl⟩
      have HW : Hid (Ru w s g (T.set k false) _) := HS.out.set k false
      clear hh hg
      generalize T.length = n at *
      go_enter Tryd.func11, Tryd.ntmps11
      go_wp2
      go_ret
      exact ⟨_, _, rfl, FIN.out, HW.out⟩
  · have FIN : Hid (GvS T x T 91) := by
      refine Or.inr ⟨fun k hk => ?_, rfl, rfl⟩
      subst hk
      intro q
      have hlt := (List.getElem?_eq_some_iff.1 q).1
      omega
    generalize T.length = n at *
    by_cases h0 : x < 0
    · go_enter Tryd.func11, Tryd.ntmps11
      go_wp2
      go_ret
      exact ⟨_, _, rfl, FIN.out, HW0.out⟩
    · have h1 : (n : Int) ≤ x := by omega
      go_enter Tryd.func11, Tryd.ntmps11
      go_wp2
      go_ret
      exact ⟨_, _, rfl, FIN.out, HW0.out⟩
set_option maxHeartbeats 1000000 in
theorem rUsed_any {w : World} {s g : Nat} {T : List Bool} (h : Rl w s g T) : Calls Tryd.prog 16 #[.pointer (some ⟨s, 0, none⟩)] w fun e w' => ∃ v, e = .returned v ∧ Is w' w.heap.size v (us T) ∧ Below w.heap.size w w' := by
  have hn := h.n
  obtain ⟨i0, hi, hz0, hz1, hz2⟩ := info_parts Tryd.infoI
  have HS : Hid (Rl w s g T) := h
  clear h
  go_enter Tryd.func16, Tryd.ntmps16
  go_wp2
  go_loopw [3, 4] (fun v i wr => ∃ (k : Nat) (vv : Value), vv = v ∧ k ≤ T.length ∧ i = .int .i64 k ∧ Is wr w.heap.size v (usF T k) ∧ Below w.heap.size w wr) (fun _ i _ => T.length - (intOf i).toNat)
  case atStart => exact ⟨0, _, rfl, by omega, rfl, Is.nil _ _, Below.refl _ _⟩
  case round =>
    obtain ⟨k, v, hvv, hk, rfl, hI, hb⟩ := hrel
    subst hvv
    have HL : Hid (Below w.heap.size w wr) := hb
    have HI : Hid (Is wr w.heap.size v (usF T k)) := hI
    have hlen := Nat.le_trans (usF_le T k) hk
    have hsz := hb.size
    have c1 := (HS.out.below hb).c1
    clear hb hI
    by_cases hlt : k < T.length
    · have cw := (HS.out.below HL.out).cw hlt
      have HR : Hid (usF T (k + 1) = if T.getD k false = true then usF T k ++ [k] else usF T k) := by
        unfold Hid
        rw [usF_succ, getD_bz hlt]
        simp
      cases hh : T.getD k false
      · rw [hh] at cw HR
        generalize T.length = n at *
        go_wp2
        go_roundw
        case rel => exact ⟨k + 1, _, rfl, by omega, by go_num, by rw [HR.out]; exact HI.out, HL.out⟩
        case measure => simp [intOf]; omega
      · rw [hh] at cw HR
        generalize T.length = n at *
        go_wp2_with (at_builtin; refine wpList_append_own _ rfl (.tmp 24) (.tmp 26) 35 rfl w.heap.size 3 i0 _ 1 8 Tryd.underlying35 hi hz0 hz1 hz2 rfl (by decide) _ (usF T k).length _ rfl (HI.out.below (below1 _ _)) ⟨wr.heap.size, 0, none⟩ 1 1 [.int .i64 k] rfl rfl (cell_one_new _ _ _) (by intro u hu; simp at hu; subst hu; rfl) (by unfold maxLen; omega) (by omega) (by simp; omega) ?_; intro v2 w2 o2 gr2 nil2)
        go_roundw
        case rel =>
          refine ⟨k + 1, _, rfl, by omega, by go_num, ?_, (HL.out.alloc hsz _).grown gr2 (by simp; omega) (fun t ht => (HI.out.lt t ht).1)⟩
          rw [HR.out]
          simp only [if_true]
          unfold Is
          rw [iv_snoc, List.length_append]
          exact o2
        case measure => simp [intOf]; omega
    · obtain rfl : k = T.length := by omega
      have HU : Hid (Is wr w.heap.size v (us T)) := HI.out
      generalize T.length = n at *
      go_wp2
      go_ret
      exact ⟨v, rfl, HU.out, HL.out⟩
end Go.Proofs.YtncelpphbhcogaaDoor.Z
