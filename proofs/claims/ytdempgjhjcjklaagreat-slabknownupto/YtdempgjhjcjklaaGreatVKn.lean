/- The chapter's examples: what SlabKnown gives back up to its slab; no condition. -/
import Derived.Test.YtdempgjhjcjklaaGreatVSg
namespace Go.Proofs.YtdempgjhjcjklaaGreat.P
open B Go.ChangeShapes Go.WideShapes Go.ChangeAt Go.RowKit
set_option linter.unusedVariables false
set_option maxRecDepth 8192

theorem Tryz.infoE : (Tryz.prog.info? 36).map (fun i => (i.zero, i.size, i.bytes)) = some (some (.int .i64 0), 1, 8) := by kernel_rfl
theorem row_of_eq {w w' : World} {base ty n : Nat} {v : Value} {xs : List Value} (h : w.ownsRow base ty 1 v n xs) (e : ∀ g, v.ownBlock = some g → w'.heap[g]? = w.heap[g]?) : w'.ownsRow base ty 1 v n xs := by
  refine ⟨h.1, ?_⟩
  rcases h.2 with h1 | ⟨g, cap, cur, h1, h2, h3, h4⟩
  · exact Or.inl h1
  · subst h1
    exact Or.inr ⟨g, cap, cur, rfl, h2, (e g rfl).trans h3, h4⟩
theorem row_lt {w : World} {base ty n : Nat} {v : Value} {xs : List Value} (h : w.ownsRow base ty 1 v n xs) : ∀ g, v.ownBlock = some g → base ≤ g ∧ g < w.heap.size := by
  intro g hg
  rcases h.2 with ⟨h1, _⟩ | ⟨g', cap, cur, h1, h2, h3, _⟩
  · rw [h1] at hg; cases hg
  · rw [h1] at hg
    cases hg
    exact ⟨h2, (Array.getElem?_eq_some_iff.1 h3).1⟩
theorem row_below {w w' : World} {base ty n : Nat} {v : Value} {xs : List Value} (h : w.ownsRow base ty 1 v n xs) (k : Below w.heap.size w w') : w'.ownsRow base ty 1 v n xs := row_of_eq h (fun g hg => k.block g (row_lt h g hg).2)
theorem row_cell {w : World} {base ty n : Nat} {v : Value} {xs : List Value} (h : w.ownsRow base ty 1 v (n + 1) xs) : ∃ g c, v = .slice (some ⟨g, 0, none⟩) (n + 1) c ∧ ∀ i, i < n + 1 → w.cell? ⟨g, i, none⟩ = xs[i]? := by
  obtain ⟨h0, ⟨rfl, h1⟩ | ⟨g, cap, cur, rfl, h2, h3, h4, h5, h6, h7⟩⟩ := h
  · omega
  · refine ⟨g, cap, rfl, fun i hi => ?_⟩
    rw [cell_of_row w g i _ _ (0, 0) h3, ← h7, List.getElem?_take, ← Array.getElem?_toList]
    simp [hi]
/-- What New says of a use. -/
def ev (u : Nat) : Int := if u < 4 ∨ 6 < u then 2 else 0
def evs (k : Nat) : List Value := (List.range k).map fun u => .int .i64 (ev u)
theorem evs_succ (k : Nat) : evs (k + 1) = evs k ++ [.int .i64 (ev k)] := by simp [evs, List.range_succ]
theorem snew_any {w0 w : World} {F : Nat → Prop} {p : Nat} {P : Par} {us : Us} (h : Pe w0 w F p P us) (u : Nat) : Calls Tryz.prog 13 #[.pointer (some ⟨p, 0, none⟩), .int .u8 u] w fun e w' => ∃ q, e = .returned (.tuple #[q, .int .i64 (ev u)]) ∧ Below w.heap.size w w' := by
  by_cases hu : u < 4 ∨ 6 < u
  · refine (SNew_arg h.po hu).mono ?_
    rintro e w' ⟨rfl, rfl⟩
    exact ⟨_, by rw [ev, if_pos hu], Below.refl _ _⟩
  · refine (SNew_s h.po (u := u) (by omega)).mono ?_
    rintro e w' ⟨s, b, rfl, _, _, _, h4⟩
    exact ⟨_, by rw [ev, if_neg hu], h4⟩
theorem cell_box (w : World) (c : Array Value) (ty i : Nat) : (w.alloc (.cells c ty)).cell? ⟨w.heap.size, i, none⟩ = c[i]? := cell_of_row _ _ i _ ty (0, 0) (heap_alloc_last w _)
theorem nop_box (w : World) (c : Array Value) (ty : Nat) (h : c[26]? = some (.map none)) : NoP (w.alloc (.cells c ty)) (some ⟨w.heap.size, 0, none⟩) := Or.inr ⟨_, rfl, (cell_box w c ty 26).trans h⟩
theorem nos_box (w : World) (c : Array Value) (ty : Nat) (h : c[3]? = some (.map none)) : NoS (w.alloc (.cells c ty)) (some ⟨w.heap.size, 0, none⟩) := Or.inr ⟨_, rfl, (cell_box w c ty 3).trans h⟩
theorem below_box (w : World) (o : Obj) : Below w.heap.size w (w.alloc o) := (Below.refl _ w).alloc (Nat.le_refl _) _
theorem se_told {w0 w w' : World} {base : Nat} {F : Nat → Prop} {p : Nat} {P : Par} {us : Us} {s b u : Nat} {mk : Ms} {v : Value} {l : List Int} {g n c : Nat} {x : Int} (h : Se w0 w F p P us s b u mk) (ht : To w base F s b v l) (hb : w0.heap.size ≤ base) (gr : w.grownBy w' v.ownBlock) (hi : Iu w' base (.slice (some ⟨g, 0, none⟩) n c) (l ++ [x])) (hv : v.ownBlock = some g ∨ w.heap.size ≤ g) :
    Se w0 w' F p P us s b u mk ∧ To w' base F s b (.slice (some ⟨g, 0, none⟩) n c) (l ++ [x]) := by
  refine ⟨h.other gr (fun k hk => ⟨Nat.le_trans hb (ht.iu.lt k hk).1, ht.ap k hk⟩), hi, fun k hk => ?_⟩
  obtain rfl : g = k := by simpa [Value.ownBlock] using hk
  rcases hv with e | e
  · exact ht.ap g e
  · refine ⟨fun z => ?_, fun z => ?_, fun z => ?_⟩
    · have := h.po.lt g z; omega
    · have := h.sl.mp.lt; omega
    · have := h.sl.lt; omega
def usK (k : Nat) : Us := if k = 0 then u1 else uS
def tol (k : Nat) : List Int := (List.range k).map fun i => ((256 + i * 64 : Nat) : Int)
theorem tol_succ (k : Nat) : tol (k + 1) = tol k ++ [((256 + k * 64 : Nat) : Int)] := by simp [tol, List.range_succ]
theorem tol_len (k : Nat) : (tol k).length = k := by simp [tol]
theorem tk_k {k a e : Nat} {us' : Us} {mk' : Ms} (hk : k < 4) (h : TkS PU 4 (usK k) (m1 (2 ^ k - 1)) a e us' mk') : a = 256 + k * 64 ∧ e = 0 ∧ us' = usK (k + 1) ∧ mk' = m1 (2 ^ (k + 1) - 1) := by
  rcases (show k = 0 ∨ k = 1 ∨ k = 2 ∨ k = 3 by omega) with rfl | rfl | rfl | rfl
  · rw [show m1 (2 ^ 0 - 1) = fun _ => 0 from m1_zero] at h
    exact ex_first h
  · exact ex_take (x := 1) (i := 1) (by decide) (by decide) (by unfold LP; decide) h
  · exact ex_take (x := 3) (i := 2) (by decide) (by decide) (by unfold LP; decide) h
  · exact ex_take (x := 7) (i := 3) (by decide) (by decide) (by unfold LP; decide) h
def gm (k : Nat) : Nat := if k = 0 then 15 else if k = 1 then 14 else if k = 2 then 12 else if k = 3 then 8 else 0
def usG (k : Nat) : Us := if k < 4 then uS else u1
theorem gv_k {k : Nat} (hk : k < 4) : GvS 4 (usG k) (m1 (gm k)) (256 + k * 64) 0 (usG (k + 1)) (m1 (gm (k + 1))) := by
  rcases (show k = 0 ∨ k = 1 ∨ k = 2 ∨ k = 3 by omega) with rfl | rfl | rfl | rfl
  · exact ex_hit (us := uS) (x := 15) (i := 0) (by decide) (by decide) (by decide)
  · exact ex_hit (us := uS) (x := 14) (i := 1) (by decide) (by decide) (by decide)
  · exact ex_hit (us := uS) (x := 12) (i := 2) (by decide) (by decide) (by decide)
  · have := ex_last (us := uS) (x := 8) (i := 3) (by decide) (by decide) (by decide)
    rw [uS_back, ← m1_zero] at this
    exact this
theorem tol_cell {w : World} {base g c k : Nat} (h : Iu w base (.slice (some ⟨g, 0, none⟩) 4 c) (tol 4)) (hk : k < 4) : w.cell? ⟨g, k, none⟩ = some (.int .u64 ((256 + k * 64 : Nat) : Int)) := by
  obtain ⟨g', c', e, hc⟩ := row_cell (n := 3) h
  simp only [Value.slice.injEq, Option.some.injEq, Addr.mk.injEq] at e
  obtain ⟨⟨rfl, _⟩, _⟩ := e
  rw [hc k (by omega)]
  rcases (show k = 0 ∨ k = 1 ∨ k = 2 ∨ k = 3 by omega) with rfl | rfl | rfl | rfl <;> rfl
theorem nos_below {w w' : World} {q : Option Addr} (h : NoS w q) (k : Below w.heap.size w w') : NoS w' q := by
  rcases h with h | ⟨s, h1, h2⟩
  · exact Or.inl h
  · exact Or.inr ⟨s, h1, (k.cell (p := ⟨s, 3, none⟩) (World.block_lt_of_cell? w _ h2)).trans h2⟩
set_option maxHeartbeats 4000000 in
theorem known_any (w : World) : Calls Tryz.prog 5 #[] w (One (.bool true) w) := by
  obtain ⟨i0, hi0, hz0, hz1, hz2⟩ := info_parts Tryz.infoE
  go_enter Tryz.func5, Tryz.ntmps5
  go_wp2_with fail
  refine (conf_any _).mono ?_
  rintro e w1 ⟨a, c, rfl, hcu, hci, hb1⟩
  have CN1 : Hid (Calls _ _ _ _ _) := new_pe hb1 hcu hci
  clear hcu hci hb1
  go_wp2_with fail
  refine CN1.out.mono ?_
  rintro e w2 ⟨p, F2, rfl, h2⟩
  have CI : Hid (Calls _ _ _ _ _) := image_pe h2
  clear CN1 h2
  go_wp2_with fail
  refine CI.out.mono ?_
  rintro e w3 ⟨v3, F3, rfl, h3⟩
  have H3 : Hid (Pe w w3 F3 p PU u1) := h3
  have CA : Hid (∀ (W : World) (u : Int), Calls Tryz.prog 13 #[.pointer none, .int .u8 u] W fun e w' => e = .returned (.tuple #[.pointer none, .int .i64 1]) ∧ w' = W) := fun W u => SNew_no (Or.inl rfl) u
  clear CI h3
  go_wp2_with fail
  refine (CA.out _ _).mono ?_
  rintro e w4 ⟨rfl, hw⟩
  obtain rfl := hw.symm
  clear hw
  go_wp2_with fail
  refine (SNew_no (nop_box _ _ _ rfl) _).mono ?_
  rintro e w5 ⟨rfl, hw⟩
  have H5 : Hid (Pe w w5 F3 p PU u1) := by rw [hw]; exact H3.out.below (below_box _ _)
  clear hw H3
  go_wp2_with fail
  refine (CA.out _ _).mono ?_
  rintro e w6 ⟨rfl, hw⟩
  obtain rfl := hw.symm
  have HBS : Hid (∃ bs, w.heap.size ≤ bs ∧ bs ≤ w5.heap.size ∧ ∀ x, F3 x → x < bs) := ⟨w5.heap.size, H5.out.be.size, Nat.le_refl _, H5.out.po.lt⟩
  obtain ⟨bs, hbs1, hbs2, hbs3⟩ := HBS.out
  have HB3 : Hid (∀ x, F3 x → x < bs) := hbs3
  clear hw CA HBS hbs3
  go_wp2
  go_loopw [10, 9] (fun z v wr => ∃ (k : Nat) (vv : Value), z = .int .u8 k ∧ vv = v ∧ k ≤ 8 ∧ bs ≤ wr.heap.size ∧ wr.ownsRow bs 36 1 v k (evs k) ∧ Pe w wr F3 p PU u1) (fun z _ _ => 8 - (B.iv z).toNat)
  case atStart => exact ⟨0, _, rfl, rfl, by omega, hbs2, World.ownsRow_nil _ _ _ _, H5.out⟩
  case round =>
    clear H5
    obtain ⟨k, v, rfl, hvv, h1, hbw, h2, h3⟩ := hrel
    subst hvv
    have H2 : Hid (wr.ownsRow bs 36 1 v k (evs k)) := h2
    have H3 : Hid (Pe w wr F3 p PU u1) := h3
    clear h2 h3
    by_cases hk : k < 8
    · have hkI : (k : Int) < 8 := by omega
      have CU : Hid (Calls _ _ _ _ _) := snew_any H3.out k
      go_wp2_with fail
      refine CU.out.mono ?_
      rintro e w7 ⟨q, rfl, hb7⟩
      have H7 : Hid (Pe w w7 F3 p PU u1) := H3.out.below hb7
      have R7 : Hid (w7.ownsRow bs 36 1 v k (evs k)) := row_below H2.out hb7
      have HE : Hid (evs (k + 1) = evs k ++ [.int .i64 (ev k)]) := evs_succ k
      have hsz := Nat.le_trans hbw hb7.size
      have hevl : (evs k).length = k := by simp [evs]
      clear hb7 CU H2 H3
      generalize ev k = er at *
      go_wp2_with (at_builtin; refine wpList_append_own _ rfl (.tmp 68) (.tmp 70) 70 rfl bs 36 i0 _ 1 8 Tryz.underlying70 hi0 hz0 hz1 hz2 rfl (by decide) _ k _ rfl (World.ownsRow.alloc R7.out _) ⟨w7.heap.size, 0, none⟩ 1 1 [.int .i64 er] rfl rfl (cell_one_new _ _ _) (by intro u hu; simp at hu; subst hu; rfl) (by unfold maxLen; omega) (by omega) (by simp; omega) ?_; intro v8 w8 o8 gr8 nil8)
      go_roundw
      case rel =>
        have hg : w7.grownBy w8 v.ownBlock := (World.grownBy_alloc _ _ _).trans gr8
        refine ⟨k + 1, _, by go_num, rfl, by omega, Nat.le_trans hsz hg.size, by rw [HE.out]; exact o8, ⟨H7.out.be.trans (below_of hg _ H7.out.be.size (fun j hj => Nat.le_trans hbs1 (row_lt R7.out j hj).1)), H7.out.fl, H7.out.po.of_eq hg.size (fun x hx => hg.block x (H7.out.po.lt x hx) (fun z => ?_))⟩⟩
        have := HB3.out x hx
        have := (row_lt R7.out x z.symm).1
        omega
      case measure => simp [B.iv]; omega
    · obtain rfl : k = 8 := by omega
      obtain ⟨g, cc, rfl, hcell⟩ := row_cell H2.out
      have c0 : wr.cell? ⟨g, 0, none⟩ = some (.int .i64 2) := hcell 0 (by omega)
      have c1 : wr.cell? ⟨g, 1, none⟩ = some (.int .i64 2) := hcell 1 (by omega)
      have c2 : wr.cell? ⟨g, 2, none⟩ = some (.int .i64 2) := hcell 2 (by omega)
      have c3 : wr.cell? ⟨g, 3, none⟩ = some (.int .i64 2) := hcell 3 (by omega)
      have c4 : wr.cell? ⟨g, 4, none⟩ = some (.int .i64 0) := hcell 4 (by omega)
      have c5 : wr.cell? ⟨g, 5, none⟩ = some (.int .i64 0) := hcell 5 (by omega)
      have c6 : wr.cell? ⟨g, 6, none⟩ = some (.int .i64 0) := hcell 6 (by omega)
      have c7 : wr.cell? ⟨g, 7, none⟩ = some (.int .i64 2) := hcell 7 (by omega)
      have CS : Hid (Calls Tryz.prog 13 #[.pointer (some ⟨p, 0, none⟩), .int .u8 4] wr _) := snew_pe H3.out (u := 4) (by omega)
      clear hcell H2 H3 hk h1
      go_wp2_with fail
      refine CS.out.mono ?_
      rintro e w7 ⟨s, b, rfl, h7⟩
      have H7 : Hid (Se w w7 F3 p PU u1 s b 4 (fun _ => 0)) := h7
      clear h7 CS c0 c1 c2 c3 c4 c5 c6 c7
      obtain ⟨j0, hj0, hy0, hy1, hy2⟩ := info_parts Tryz.infoU64
      have HBS : Hid (∃ bt, w.heap.size ≤ bt ∧ bt ≤ w7.heap.size) := ⟨w7.heap.size, H7.out.be.size, Nat.le_refl _⟩
      obtain ⟨bt, hbt1, hbt2⟩ := HBS.out
      clear HBS hi0 hz0 hz1 hz2 HB3 hbs1 hbs2 hbw
      go_wp2
      go_loopw [17, 16] (fun z v wr => ∃ (k : Nat) (F : Nat → Prop) (vv : Value), z = .int .i64 k ∧ vv = v ∧ k ≤ 4 ∧ bt ≤ wr.heap.size ∧ Se w wr F p PU (usK k) s b 4 (m1 (2 ^ k - 1)) ∧ To wr bt F s b v (tol k)) (fun z _ _ => 4 - (B.iv z).toNat)
      case atStart => exact ⟨0, F3, _, rfl, rfl, by omega, hbt2, by rw [show m1 (2 ^ 0 - 1) = fun _ => 0 from m1_zero]; exact H7.out, ⟨Iu.nil _ _, fun k hk => by cases hk⟩⟩
      case round =>
        clear H7
        obtain ⟨k, F, v, rfl, hvv, h1, hbw, h2, h3⟩ := hrel
        subst hvv
        have H2 : Hid (Se w wr F p PU (usK k) s b 4 (m1 (2 ^ k - 1))) := h2
        have H3 : Hid (To wr bt F s b v (tol k)) := h3
        clear h2 h3
        by_cases hk : k < 4
        · have hkI : (k : Int) < 4 := by omega
          have CT : Hid (Calls _ _ _ _ _) := H2.out.take
          go_wp2_with fail
          refine CT.out.mono ?_
          rintro e w8 ⟨a8, e8, us8, mk8, F8, rfl, t8, h8, k8⟩
          obtain ⟨rfl, rfl, rfl, rfl⟩ := tk_k hk t8
          have H8 : Hid (Se w w8 F8 p PU (usK (k + 1)) s b 4 (m1 (2 ^ (k + 1) - 1))) := h8
          have T8 : Hid (To w8 bt F8 s b v (tol k)) := H3.out.kp k8
          have HE : Hid (tol (k + 1) = tol k ++ [((256 + k * 64 : Nat) : Int)]) := tol_succ k
          have hlen := tol_len k
          have hsz := Nat.le_trans hbw k8.size
          clear h8 k8 t8 CT H2 H3
          generalize 256 + k * 64 = ad at *
          go_wp2_with (at_builtin; refine wpList_append_lies _ rfl (.tmp 144) (.tmp 146) 55 rfl bt 22 j0 _ 1 8 Tryz.underlying55 hj0 hy0 hy1 hy2 rfl (by decide) v (tol k).length (U.vs (tol k)) rfl (World.ownsRow.alloc T8.out.iu _) ⟨w8.heap.size, 0, none⟩ 1 1 [.int .u64 (ad : Nat)] rfl rfl (cell_one_new _ _ _) (by intro u hu; simp at hu; subst hu; rfl) (by omega) (by unfold maxLen; omega) (by omega) (by simp; omega) (w8.heap.size + 1) (by simp) ?_; intro g9 k9 w9 o9 gr9 at9 lt9)
          have HN : Hid (Se w w9 F8 p PU (usK (k + 1)) s b 4 (m1 (2 ^ (k + 1) - 1)) ∧ To w9 bt F8 s b (.slice (some ⟨g9, 0, none⟩) ((tol k).length + 1) k9) (tol k ++ [(ad : Int)])) := se_told H8.out T8.out hbt1 ((World.grownBy_alloc _ _ _).trans gr9) (iu_snoc o9) (at9.imp id (fun z => by omega))
          rw [hlen] at HN
          have hsz9 : bt ≤ w9.heap.size := Nat.le_trans hsz ((World.grownBy_alloc w8 _ _).trans gr9).size
          clear H8 T8 o9 gr9 at9 lt9
          go_wp2
          go_roundw
          case rel => exact ⟨k + 1, F8, _, by go_num, rfl, by omega, hsz9, HN.out.1, by rw [HE.out]; exact HN.out.2⟩
          case measure => simp [B.iv]; omega
        · obtain rfl : k = 4 := by omega
          have H8 : Hid (Se w wr F p PU uS s b 4 (m1 15)) := H2.out
          have CT : Hid (Calls _ _ _ _ _) := H8.out.take
          clear H2 hk h1
          go_wp2_with fail
          refine CT.out.mono ?_
          rintro e w9 ⟨a9, e9, us9, mk9, F9, rfl, t9, h9, k9⟩
          obtain ⟨rfl, rfl, rfl, rfl⟩ := ex_full (by rw [uS_c]; decide) t9
          have H9 : Hid (Se w w9 F9 p PU uS s b 4 (m1 15)) := h9
          have T9 : Hid (To w9 bt F9 s b v (tol 4)) := H3.out.kp k9
          have CE : Hid (∀ W, W = w9.alloc (.cells #[.int .u64 256, .int .u64 320, .int .u64 384, .int .u64 448] 22) → Calls Tryz.prog 25 #[v, .slice (some ⟨w9.heap.size, 0, none⟩) 4 4] W (One (.bool true) W)) := by
            rintro W rfl
            exact same_lit (l := tol 4) (T9.out.iu.below (below_box _ _)) (B.blk_new w9 [.int .u64 256, .int .u64 320, .int .u64 384, .int .u64 448] 22) (by decide)
          clear CT t9 h9 k9 H3 H8
          go_wp2_with fail
          refine (CE.out _ rfl).mono ?_
          rintro e wa ⟨rfl, hba⟩
          have HBA : Hid (Below w9.heap.size w9 wa) := (below_box _ _).trans (hba.mono (by simp))
          have HA : Hid (Se w wa F9 p PU uS s b 4 (m1 15)) := H9.out.below HBA.out
          have TA : Hid (To wa bt F9 s b v (tol 4)) := T9.out.below HBA.out
          have CG : Hid (Calls Tryz.prog 19 #[.pointer (some ⟨s, 0, none⟩), .int .u64 320] wa _) := HA.out.give (a := 320) (by omega) (ex_hit (x := 15) (i := 1) (by decide) (by decide) (by decide))
          clear hba CE H9 T9 HBA
          go_wp2_with fail
          refine CG.out.mono ?_
          rintro e wb ⟨FB, rfl, hb, kb⟩
          have HB : Hid (Se w wb FB p PU uS s b 4 (m1 (clr 15 1))) := hb
          have TB : Hid (To wb bt FB s b v (tol 4)) := TA.out.kp kb
          have CG2 : Hid (Calls Tryz.prog 19 #[.pointer (some ⟨s, 0, none⟩), .int .u64 320] wb _) := HB.out.give (a := 320) (by omega) (ex_miss (x := clr 15 1) (by decide))
          clear hb kb CG HA TA
          go_wp2_with fail
          refine CG2.out.mono ?_
          rintro e wd ⟨FD, rfl, hd, kd⟩
          have HD : Hid (Se w wd FD p PU uS s b 4 (m1 (clr 15 1))) := hd
          have TD : Hid (To wd bt FD s b v (tol 4)) := TB.out.kp kd
          have CG3 : Hid (Calls Tryz.prog 19 #[.pointer (some ⟨s, 0, none⟩), .int .u64 321] wd _) := HD.out.give (a := 321) (by omega) (ex_miss (x := clr 15 1) (by decide))
          clear hd kd CG2 HB TB
          go_wp2_with fail
          refine CG3.out.mono ?_
          rintro e we ⟨FE, rfl, he, ke⟩
          have TE : Hid (To we bt FE s b v (tol 4)) := TD.out.kp ke
          have CT5 : Hid (Calls _ _ _ _ _) := he.take
          clear he ke CG3 HD TD
          go_wp2_with fail
          refine CT5.out.mono ?_
          rintro e wf ⟨af, ef, usf, mkf, FF, rfl, tf, hf, kf⟩
          obtain ⟨rfl, rfl, rfl, rfl⟩ := ex_take (x := clr 15 1) (i := 1) (by decide) (by decide) (by unfold LP; decide) tf
          have HF : Hid (Se w wf FF p PU uS s b 4 (m1 15)) := by
            have e15 : clr 15 1 ||| 2 ^ 1 = 15 := by decide
            rw [e15] at hf
            exact hf
          have TF : Hid (To wf bt FF s b v (tol 4)) := TE.out.kp kf
          have CG4 : Hid (Calls Tryz.prog 19 #[.pointer (some ⟨s, 0, none⟩), .int .u64 18446744073709551615] wf _) := HF.out.give (a := 18446744073709551615) (by omega) (ex_miss (x := 15) (by decide))
          clear hf kf tf CT5 TE
          go_wp2_with fail
          refine CG4.out.mono ?_
          rintro e wg ⟨FG, rfl, hg, kg⟩
          have HG : Hid (Se w wg FG p PU uS s b 4 (m1 15)) := hg
          have TG : Hid (To wg bt FG s b v (tol 4)) := TF.out.kp kg
          have CH : Hid (Calls _ _ _ _ _) := HG.out.held
          clear hg kg CG4 HF TF
          go_wp2_with fail
          refine CH.out.mono ?_
          rintro e wh ⟨vh, rfl, hIh, hbh, hh⟩
          have HH : Hid (Se w wh FG p PU uS s b 4 (m1 15)) := hh
          have TH : Hid (To wh bt FG s b v (tol 4)) := TG.out.below hbh
          have CE2 : Hid (∀ W, W = wh.alloc (.cells #[.int .u64 256, .int .u64 320, .int .u64 384, .int .u64 448] 22) → Calls Tryz.prog 25 #[vh, .slice (some ⟨wh.heap.size, 0, none⟩) 4 4] W (One (.bool true) W)) := by
            rintro W rfl
            rw [hel_full] at hIh
            exact same_lit (l := [256, 320, 384, 448]) (hIh.below (below_box _ _)) (B.blk_new wh [.int .u64 256, .int .u64 320, .int .u64 384, .int .u64 448] 22) (by decide)
          clear hIh hbh hh CH HG TG
          go_wp2_with fail
          refine (CE2.out _ rfl).mono ?_
          rintro e wi ⟨rfl, hbi⟩
          have HBI : Hid (Below wh.heap.size wh wi) := (below_box _ _).trans (hbi.mono (by simp))
          have HI : Hid (Se w wi FG p PU uS s b 4 (m1 15)) := HH.out.below HBI.out
          have TI : Hid (To wi bt FG s b v (tol 4)) := TH.out.below HBI.out
          clear hbi CE2 HH TH HBI
          obtain ⟨gt, ct, rfl, _⟩ := row_cell (n := 3) TI.out.iu
          go_wp2
          go_loopw [29] (fun z wr => ∃ (k : Nat) (F : Nat → Prop), z = .int .i64 k ∧ k ≤ 4 ∧ Se w wr F p PU (usG k) s b 4 (m1 (gm k)) ∧ To wr bt F s b (.slice (some ⟨gt, 0, none⟩) 4 ct) (tol 4)) (fun z _ => 4 - (B.iv z).toNat)
          case atStart => exact ⟨0, FG, rfl, by omega, HI.out, TI.out⟩
          case round =>
            clear HI TI
            obtain ⟨k, F, rfl, h1, h2, h3⟩ := hrel
            have H2 : Hid (Se w wr F p PU (usG k) s b 4 (m1 (gm k))) := h2
            have H3 : Hid (To wr bt F s b (.slice (some ⟨gt, 0, none⟩) 4 ct) (tol 4)) := h3
            clear h2 h3
            by_cases hk : k < 4
            · have hkI : (k : Int) < 4 := by omega
              have hcell := tol_cell H3.out.iu hk
              have CG : Hid (Calls _ _ _ _ _) := H2.out.give (a := 256 + k * 64) (by omega) (gv_k hk)
              generalize 256 + k * 64 = ad at *
              go_wp2_with fail
              refine CG.out.mono ?_
              rintro e w8 ⟨F8, rfl, h8, k8⟩
              have H8 : Hid (Se w w8 F8 p PU (usG (k + 1)) s b 4 (m1 (gm (k + 1)))) := h8
              have T8 : Hid (To w8 bt F8 s b (.slice (some ⟨gt, 0, none⟩) 4 ct) (tol 4)) := H3.out.kp k8
              clear h8 k8 CG H2 H3 hcell
              go_wp2
              go_roundw
              case rel => exact ⟨k + 1, F8, by go_num, by omega, H8.out, T8.out⟩
              case measure => simp [B.iv]; omega
            · obtain rfl : k = 4 := by omega
              have HP : Hid (Pe w wr F p PU u1) := ⟨H2.out.be, H2.out.fl, H2.out.po⟩
              clear H2 H3 hk h1
              go_wp2
              go_loopw [32, 30, 31] (fun z y x wr => ∃ (k : Nat) (q : Option Addr), z = .int .i64 k ∧ y = .pointer q ∧ x = .bool true ∧ k ≤ 2 ∧ NoS wr q ∧ Pe w wr F p PU u1) (fun z _ _ _ => 2 - (B.iv z).toNat)
              case atStart => exact ⟨0, none, rfl, rfl, rfl, by omega, Or.inl rfl, HP.out⟩
              case round =>
                clear HP
                obtain ⟨k, q, rfl, rfl, rfl, h1, h2, h3⟩ := hrel
                have H3 : Hid (Pe w wr F p PU u1) := h3
                have CT : Hid (Calls _ _ _ _ _) := STake_no h2
                have CG : Hid (Calls Tryz.prog 19 #[.pointer q, .int .u64 0] wr _) := SGive_no h2 0
                have CH : Hid (Calls _ _ _ _ _) := SHeld_no h2
                clear h2 h3
                by_cases hk : k < 2
                · have hkI : (k : Int) < 2 := by omega
                  go_wp2_with (first | (go_at_call 18; refine CT.out.mono ?_; rintro e w' ⟨rfl, h⟩; obtain rfl := h.symm) | (go_at_call 19; refine CG.out.mono ?_; rintro e w' ⟨rfl, h⟩; obtain rfl := h.symm) | (go_at_call 20; refine CH.out.mono ?_; rintro e w' ⟨rfl, h⟩; obtain rfl := h.symm))
                  go_roundw
                  case rel => (repeat apply Exists.intro); refine ⟨?_, rfl⟩; exact ⟨k + 1, _, by go_num, rfl, rfl, by omega, nos_box _ _ _ rfl, H3.out.below (below_box _ _)⟩
                  case measure => simp [B.iv]; omega
                · obtain rfl : k = 2 := by omega
                  clear CT CG CH hk h1
                  go_wp2_with fail
                  refine (works_any _).mono ?_
                  rintro e w8 ⟨rfl, hb8⟩
                  have H8 : Hid (Pe w w8 F p PU u1) := H3.out.below hb8
                  have CW : Hid (Calls Tryz.prog 22 #[.pointer (some ⟨p, 0, none⟩)] w8 fun e w' => e = .returned (.bool true) ∧ Below w8.heap.size w8 w') := by
                    have := Whole_p H8.out.po
                    rw [u1_whole] at this
                    exact this
                  clear hb8 H3
                  go_wp2_with fail
                  refine CW.out.mono ?_
                  rintro e w9 ⟨rfl, hb9⟩
                  have H9 : Hid (Below w.heap.size w w9) := (H8.out.below hb9).be
                  clear hb9 CW H8
                  go_wp2
                  go_ret
                  exact ⟨rfl, H9.out⟩
end Go.Proofs.YtdempgjhjcjklaaGreat.P
