/- Free, Used: how many are free; those that are taken, in new memory; no condition but an area. -/
import Derived.Test.YtncelpphbhcogaaDoorSg
namespace Go.Proofs.YtncelpphbhcogaaDoor.Z
open Go.ChangeShapes Go.WideShapes Go.ChangeAt Go.RowKit
set_option linter.unusedVariables false
set_option maxRecDepth 8192

theorem below_drewN (w : World) (n : Nat) : Below w.heap.size w (w.drewN n) := (Below.refl _ _).grown (grown_drewN w n none) (Nat.le_refl _) (fun k hk => by cases hk)
/-- So many bits are set in the first k words. -/
def sm (W : List Nat) (k : Nat) : Nat := ((W.take k).map pc).sum
theorem sm_succ {W : List Nat} {k : Nat} (h : k < W.length) : sm W (k + 1) = sm W k + pc (W.getD k 0) := by
  unfold sm
  rw [List.take_add_one, List.getElem?_eq_getElem h, getD_lt h]
  simp only [Option.toList_some, List.map_append, List.map_cons, List.map_nil, List.sum_append, List.sum_cons, List.sum_nil, Nat.add_zero]
theorem sm_le (W : List Nat) : ∀ k, k ≤ W.length → sm W k ≤ 64 * k
  | 0, _ => by simp [sm]
  | k + 1, h => by
    have := sm_le W k (by omega)
    have := pc_le (W.getD k 0)
    rw [sm_succ (by omega)]
    omega
theorem Free_any {w : World} {s g : Nat} {T : List Bool} {W : List Nat} (h : Sl w s g T W) : Calls Tryd.prog 13 #[.pointer (some ⟨s, 0, none⟩)] w fun e w' => e = .returned (.int .i64 ((T.length : Int) - (cT T : Nat))) ∧ Below w.heap.size w w' := by
  have c1 := h.c1
  have CM := made_any h
  have hm16 := h.m
  have HS : Hid (Sl w s g T W) := h
  have HF : Hid (((sm W W.length : Nat) : Int) = (T.length : Int) - (cT T : Nat)) := by
    have := h.ws.free
    unfold sm Hid
    rw [List.take_length]
    exact this
  clear h
  go_enter Tryd.func13, Tryd.ntmps13
  go_wp2_with (go_at_call 21; refine CM.mono ?_; rintro e w' ⟨rfl, hw⟩; obtain rfl := hw.symm)
  clear CM
  go_loopw [3, 14] (fun v i wr => ∃ k q, k ≤ W.length ∧ i = .int .i64 (k : Nat) ∧ v = .int .i64 (sm W k : Nat) ∧ wr = w.drewN q) (fun v i _ => W.length - (intOf i).toNat)
  case atStart => exact ⟨0, 0, by omega, rfl, rfl, rfl⟩
  case round =>
    obtain ⟨k, q, hk, rfl, rfl, hwr⟩ := hrel
    have HWR : Hid (wr = w.drewN q) := hwr
    have c1' : wr.cell? ⟨s, 1, none⟩ = some (.slice (some ⟨g, 0, none⟩) W.length W.length) := by rw [hwr]; exact c1
    by_cases hlt : k < W.length
    · have cw : wr.cell? ⟨g, k, none⟩ = some (.int .u64 (W.getD k 0 : Nat)) := by rw [hwr]; exact HS.out.cw hlt
      have hs := sm_succ hlt
      have hl := sm_le W k hk
      have hp := pc_le (W.getD k 0)
      have CO : Hid (∀ w, Calls Tryd.prog 24 #[.int .u64 (W.getD k 0 : Nat)] w fun e w' => e = .returned (.int .i64 (pc (W.getD k 0) : Nat)) ∧ w' = w) := fun w => ones_any HS.out.ws.lt w
      have HE : Hid ((sm W k : Int) + (pc (W.getD k 0) : Nat) = ((sm W (k + 1) : Nat) : Int)) := by unfold Hid; rw [hs]; omega
      clear hs hwr
      generalize sm W k = x at *
      generalize pc (W.getD k 0) = p at *
      generalize W.getD k 0 = wd at *
      generalize W.length = m at *
      go_wp2_with (go_at_call 24; refine (CO.out _).mono ?_; rintro e w' ⟨rfl, hw⟩; obtain rfl := hw.symm)
      go_roundw
      case rel => exact ⟨k + 1, q, by omega, by go_num, by rw [← HE.out], HWR.out⟩
      case measure => simp [intOf]; omega
    · obtain rfl : k = W.length := by omega
      have HB : Hid (Below w.heap.size w wr) := by rw [hwr]; exact below_drewN w q
      rw [HF.out]
      clear hwr
      go_wp2
      go_ret
      exact ⟨rfl, HB.out⟩
theorem Free_no {w : World} {q : Option Addr} (h : NoS w q) : Calls Tryd.prog 13 #[.pointer q] w fun e w' => e = .returned (.int .i64 0) ∧ w' = w := by
  have CM := made_no h
  clear h
  go_enter Tryd.func13, Tryd.ntmps13
  go_wp2_with (go_at_call 21; refine CM.mono ?_; rintro e w' ⟨rfl, hw⟩; obtain rfl := hw.symm)
  go_ret
  exact ⟨rfl, rfl⟩
theorem Take_no {w : World} {q : Option Addr} (h : NoS w q) : Calls Tryd.prog 8 #[.pointer q] w fun e w' => e = .returned (.tuple #[.int .i64 0, .int .i64 1]) ∧ w' = w := by
  have CM := made_no h
  clear h
  go_enter Tryd.func8, Tryd.ntmps8
  go_wp2_with (go_at_call 21; refine CM.mono ?_; rintro e w' ⟨rfl, hw⟩; obtain rfl := hw.symm)
  go_ret2
  exact ⟨rfl, rfl⟩
theorem Give_no {w : World} {q : Option Addr} (h : NoS w q) (x : Int) : Calls Tryd.prog 10 #[.pointer q, .int .i64 x] w fun e w' => e = .returned (.int .i64 1) ∧ w' = w := by
  have CM := made_no h
  clear h
  go_enter Tryd.func10, Tryd.ntmps10
  go_wp2_with (go_at_call 21; refine CM.mono ?_; rintro e w' ⟨rfl, hw⟩; obtain rfl := hw.symm)
  go_ret
  exact ⟨rfl, rfl⟩
theorem Used_no {w : World} {q : Option Addr} (h : NoS w q) : Calls Tryd.prog 12 #[.pointer q] w fun e w' => e = .returned (.slice none 0 0) ∧ w' = w := by
  have CM := made_no h
  clear h
  go_enter Tryd.func12, Tryd.ntmps12
  go_wp2_with (go_at_call 21; refine CM.mono ?_; rintro e w' ⟨rfl, hw⟩; obtain rfl := hw.symm)
  go_ret
  exact ⟨rfl, rfl⟩
/-- Numbers as values; a row of them of the call's own. -/
def iv (L : List Nat) : List Value := L.map fun (x : Nat) => .int .i64 (x : Int)
theorem iv_len (L : List Nat) : (iv L).length = L.length := List.length_map _
theorem iv_snoc (L : List Nat) (x : Nat) : iv (L ++ [x]) = iv L ++ [.int .i64 (x : Int)] := by simp [iv]
theorem iv_one (L : List Nat) : ∀ v ∈ iv L, v.oneCell' = true := by
  intro v hv
  simp only [iv, List.mem_map] at hv
  obtain ⟨i, _, rfl⟩ := hv
  rfl
def Is (w : World) (base : Nat) (v : Value) (L : List Nat) : Prop := w.ownsRow base 3 1 v L.length (iv L)
theorem Is.nil (w : World) (base : Nat) : Is w base (.slice none 0 0) [] := World.ownsRow_nil _ _ _ _
theorem row_lt {w : World} {base : Nat} {ty : TypeId} {k n : Nat} {v : Value} {L : List Value} (h : w.ownsRow base ty k v n L) : ∀ g, v.ownBlock = some g → base ≤ g ∧ g < w.heap.size := by
  obtain ⟨_, ⟨rfl, _⟩ | ⟨g', cap, cur, rfl, hb, hw, _⟩⟩ := h
  · intro g hg; cases hg
  · intro g hg; cases hg
    exact ⟨hb, (Array.getElem?_eq_some_iff.1 hw).1⟩
theorem row_eq {w w' : World} {base : Nat} {ty : TypeId} {k n : Nat} {v : Value} {L : List Value} (h : w.ownsRow base ty k v n L) (e : ∀ g, v.ownBlock = some g → w'.heap[g]? = w.heap[g]?) : w'.ownsRow base ty k v n L := by
  obtain ⟨h1, ⟨rfl, h2⟩ | ⟨g', cap, cur, rfl, hb, hw, h3⟩⟩ := h
  · exact ⟨h1, Or.inl ⟨rfl, h2⟩⟩
  · exact ⟨h1, Or.inr ⟨g', cap, cur, rfl, hb, (e g' rfl).trans hw, h3⟩⟩
theorem Is.lt {w : World} {base : Nat} {v : Value} {L : List Nat} (h : Is w base v L) : ∀ g, v.ownBlock = some g → base ≤ g ∧ g < w.heap.size := row_lt h
theorem Is.below {w w' : World} {base : Nat} {v : Value} {L : List Nat} (h : Is w base v L) (k : Below w.heap.size w w') : Is w' base v L := row_eq h (fun g hg => k.block g (row_lt h g hg).2)
theorem Is.mono {w : World} {base base' : Nat} {v : Value} {L : List Nat} (h : Is w base v L) (hb : base' ≤ base) : Is w base' v L := World.ownsRow.mono h hb
theorem Is.form {w : World} {base : Nat} {v : Value} {L : List Nat} (h : Is w base v L) : (v = .slice none 0 0 ∧ L = []) ∨ ∃ g cap, v = .slice (some ⟨g, 0, none⟩) L.length cap ∧ base ≤ g ∧ g < w.heap.size ∧ L.length ≤ cap ∧ ∀ i (hi : i < L.length), w.cell? ⟨g, i, none⟩ = some (.int .i64 (L[i] : Nat)) := by
  obtain ⟨_, ⟨rfl, h2⟩ | ⟨g', cap, cur, rfl, hb, hw, hn, hm, hs, ht⟩⟩ := h
  · exact Or.inl ⟨rfl, List.eq_nil_of_length_eq_zero h2⟩
  · refine Or.inr ⟨g', cap, rfl, hb, (Array.getElem?_eq_some_iff.1 hw).1, hn, fun i hi => ?_⟩
    rw [cell_of_row w g' i _ 3 (0, 0) hw, ← Array.getElem?_toList]
    have : (iv L)[i]? = some (.int .i64 (L[i] : Nat)) := by
      unfold iv
      rw [List.getElem?_map, List.getElem?_eq_getElem hi]
      rfl
    rw [← this, ← ht, Nat.mul_one, List.getElem?_take_of_lt hi]
theorem Tryd.infoI : (Tryd.prog.info? 3).map (fun i => (i.zero, i.size, i.bytes)) = some (some (.int .i64 0), 1, 8) := by kernel_rfl
set_option maxHeartbeats 1000000 in
theorem Used_any {w : World} {s g : Nat} {T : List Bool} {W : List Nat} (h : Sl w s g T W) : Calls Tryd.prog 12 #[.pointer (some ⟨s, 0, none⟩)] w fun e w' => ∃ v, e = .returned v ∧ Is w' w.heap.size v (us T) ∧ Below w.heap.size w w' := by
  have c0 := h.c0
  have CM := made_any h
  have hn := h.n
  obtain ⟨i0, hi, hz0, hz1, hz2⟩ := info_parts Tryd.infoI
  have HS : Hid (Sl w s g T W) := h
  clear h
  go_enter Tryd.func12, Tryd.ntmps12
  go_wp2_with (go_at_call 21; refine CM.mono ?_; rintro e w' ⟨rfl, hw⟩; obtain rfl := hw.symm)
  clear CM
  go_loopw [3, 12] (fun v i wr => ∃ (k : Nat) (vv : Value), vv = v ∧ k ≤ T.length ∧ i = .int .i64 k ∧ Is wr w.heap.size v (usF T k) ∧ Below w.heap.size w wr) (fun _ i _ => T.length - (intOf i).toNat)
  case atStart => exact ⟨0, _, rfl, by omega, rfl, Is.nil _ _, Below.refl _ _⟩
  case round =>
    obtain ⟨k, v, hvv, hk, rfl, hI, hb⟩ := hrel
    subst hvv
    have HL : Hid (Below w.heap.size w wr) := hb
    have HI : Hid (Is wr w.heap.size v (usF T k)) := hI
    have hlen := Nat.le_trans (usF_le T k) hk
    clear hb hI
    by_cases hlt : k < T.length
    · have HT := taken_any (HS.out.below HL.out) (k : Int)
      rw [tk_in hlt] at HT
      have HR : Hid (usF T (k + 1) = if T.getD k false = true then usF T k ++ [k] else usF T k) := by
        unfold Hid
        rw [usF_succ, getD_bz hlt]
        simp
      have HTK : Hid (Calls _ _ _ _ _) := HT
      clear HT
      cases hh : T.getD k false
      · rw [hh] at HTK HR
        generalize T.length = n at *
        go_wp2_with fail
        refine HTK.out.mono ?_
        rintro e wq ⟨rfl, q, hq⟩
        have HI2 : Hid (Is wq w.heap.size v (usF T k)) := by rw [hq]; exact HI.out.below (below_drewN wr q)
        have HL2 : Hid (Below w.heap.size w wq) := by rw [hq]; exact bs HL.out (below_drewN wr q)
        clear hq HTK HI HL
        go_wp2
        go_roundw
        case rel => exact ⟨k + 1, _, rfl, by omega, by go_num, by rw [HR.out]; exact HI2.out, HL2.out⟩
        case measure => simp [intOf]; omega
      · rw [hh] at HTK HR
        generalize T.length = n at *
        go_wp2_with fail
        refine HTK.out.mono ?_
        rintro e wq ⟨rfl, q, hq⟩
        have HI2 : Hid (Is wq w.heap.size v (usF T k)) := by rw [hq]; exact HI.out.below (below_drewN wr q)
        have HL2 : Hid (Below w.heap.size w wq) := by rw [hq]; exact bs HL.out (below_drewN wr q)
        clear hq HTK HI HL
        have hsz := HL2.out.size
        go_wp2_with (at_builtin; refine wpList_append_own _ rfl (.tmp 18) (.tmp 20) 35 rfl w.heap.size 3 i0 _ 1 8 Tryd.underlying35 hi hz0 hz1 hz2 rfl (by decide) _ (usF T k).length _ rfl (HI2.out.below (below1 _ _)) ⟨wq.heap.size, 0, none⟩ 1 1 [.int .i64 k] rfl rfl (cell_one_new _ _ _) (by intro u hu; simp at hu; subst hu; rfl) (by unfold maxLen; omega) (by omega) (by simp; omega) ?_; intro v2 w2 o2 gr2 nil2)
        go_roundw
        case rel =>
          refine ⟨k + 1, _, rfl, by omega, by go_num, ?_, (HL2.out.alloc hsz _).grown gr2 (by simp; omega) (fun t ht => (HI2.out.lt t ht).1)⟩
          rw [HR.out]
          simp only [if_true]
          unfold Is
          rw [iv_snoc, List.length_append]
          exact o2
        case measure => simp [intOf]; omega
    · obtain rfl : k = T.length := by omega
      go_wp2
      go_ret
      exact ⟨v, rfl, HI.out, HL.out⟩
end Go.Proofs.YtncelpphbhcogaaDoor.Z
