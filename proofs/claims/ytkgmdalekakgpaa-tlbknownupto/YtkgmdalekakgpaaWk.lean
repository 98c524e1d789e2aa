/- The statements' trial 'works'. -/
import Derived.Test.YtkgmdalekakgpaaSt
namespace Go.Proofs.Ytkgmdalekakgpaa
open Go.ChangeShapes Go.WideShapes Go.ChangeAt Go.RowKit
set_option linter.unusedVariables false

def tr (g : Int) : Tr := ⟨0, g, 10 + g, true, false, false⟩
theorem wk1 : filL 2 ⟨0, 1, 10 + 1, true, false, false⟩ [] = [tr 1] := by simp [filL, fil, rm, okA, okP, okF, tr]
theorem wk2 : filL 2 ⟨0, 2, 10 + 2, true, false, false⟩ [tr 1] = [tr 2, tr 1] := by simp [filL, fil, rm, hk, okA, okP, okF, tr]
theorem wk3 : pk 0 1 [tr 2, tr 1] = (tr 1, true, 0) := by simp [pk, look, hk, okA, okP, tr]
theorem wk4 : fd 0 1 [tr 2, tr 1] = [tr 1, tr 2] := by simp [fd, look, rm, hk, okA, okP, tr]
theorem wk5 : filL 2 ⟨0, 3, 10 + 3, true, false, false⟩ [tr 1, tr 2] = [tr 3, tr 1] := by simp [filL, fil, rm, hk, okA, okP, okF, tr]
theorem wk6 : pk 0 2 [tr 3, tr 1] = (z0, false, 0) := by simp [pk, look, hk, okA, okP, tr]
theorem wkE (g : Int) (h0 : 0 ≤ g) (h1 : g < 1000) : filE ⟨0, g, 10 + g, true, false, false⟩ = 0 := by
  have : okP g = true := by simp [okP]; omega
  have h2 : okF (10 + g) = true := by simp [okF]; omega
  simp [filE, okA, this, h2]
set_option maxRecDepth 100000 in
set_option maxHeartbeats 4000000 in
theorem works_any (w : World) : Calls Try.prog 14 #[] w fun e w' => e = .returned (.bool true) ∧ Below w.heap.size w w' := by
  have W1 : Hid (filL 2 ⟨0, 1, 11, true, false, false⟩ [] = [tr 1]) := wk1
  have W2 : Hid (filL 2 ⟨0, 2, 12, true, false, false⟩ [tr 1] = [tr 2, tr 1]) := wk2
  have W3 : Hid (pk 0 1 [tr 2, tr 1] = (⟨0, 1, 11, true, false, false⟩, true, 0)) := wk3
  have W4 : Hid (fd 0 1 [tr 2, tr 1] = [tr 1, tr 2]) := wk4
  have W5 : Hid (filL 2 ⟨0, 3, 13, true, false, false⟩ [tr 1, tr 2] = [tr 3, tr 1]) := wk5
  have W6 : Hid (pk 0 2 [tr 3, tr 1] = (⟨0, 0, 0, false, false, false⟩, false, 0)) := wk6
  have E1 : Hid (filE ⟨0, 1, 11, true, false, false⟩ = 0) := wkE 1 (by omega) (by omega)
  have E2 : Hid (filE ⟨0, 2, 12, true, false, false⟩ = 0) := wkE 2 (by omega) (by omega)
  have E3 : Hid (filE ⟨0, 3, 13, true, false, false⟩ = 0) := wkE 3 (by omega) (by omega)
  go_enter Try.func14, Try.ntmps14
  go_wp2_with fail
  refine (New_ok 2 (by omega) (by omega) w).mono ?_
  rintro e w1 ⟨p, F1, rfl, hC, hK⟩
  have O1 : Hid (On (fun k => k < w.heap.size) w w1 p 2 []) := On.start hC hK
  clear hC hK
  go_wp2_with fail
  refine (trans_any 1 (by omega) (by omega) _).mono ?_
  rintro e w2 ⟨rfl, hb⟩
  have O2 : Hid (On (fun k => k < w.heap.size) w w2 p 2 []) := O1.out.below hb
  clear hb O1
  go_wp2_with fail
  refine (O2.out.fill_at 0 1 11 true false false _ _ E1.out W1.out).mono ?_
  rintro e w3 ⟨rfl, hO⟩
  have O3 : Hid (On (fun k => k < w.heap.size) w w3 p 2 [tr 1]) := hO
  clear hO O2
  go_wp2_with fail
  refine (trans_any 2 (by omega) (by omega) _).mono ?_
  rintro e w4 ⟨rfl, hb⟩
  have O4 : Hid (On (fun k => k < w.heap.size) w w4 p 2 [tr 1]) := O3.out.below hb
  clear hb O3
  go_wp2_with fail
  refine (O4.out.fill_at 0 2 12 true false false _ _ E2.out W2.out).mono ?_
  rintro e w5 ⟨rfl, hO⟩
  have O5 : Hid (On (fun k => k < w.heap.size) w w5 p 2 [tr 2, tr 1]) := hO
  clear hO O4
  go_wp2_with fail
  refine (O5.out.find_at 0 1 _ _ _ _ W3.out W4.out).mono ?_
  rintro e w6 ⟨rfl, hO⟩
  have O6 : Hid (On (fun k => k < w.heap.size) w w6 p 2 [tr 1, tr 2]) := hO
  clear hO O5
  go_wp2_with fail
  have X7 : Hid (Six (w6.alloc (.cells #[.int .i64 0, .int .i64 1, .int .i64 11, .bool true, .bool false, .bool false] 32)) w6.heap.size 0 ⟨0, 1, 11, true, false, false⟩) := six_new w6 ⟨0, 1, 11, true, false, false⟩ 32
  have O7 : Hid (On (fun i => i < w.heap.size ∨ (w6.heap.size ≤ i ∧ i < (w6.alloc (.cells #[.int .i64 0, .int .i64 1, .int .i64 11, .bool true, .bool false, .bool false] 32)).heap.size)) (w6.alloc (.cells #[.int .i64 0, .int .i64 1, .int .i64 11, .bool true, .bool false, .bool false] 32)) (w6.alloc (.cells #[.int .i64 0, .int .i64 1, .int .i64 11, .bool true, .bool false, .bool false] 32)) p 2 [tr 1, tr 2]) := O6.out.more (below_new _ _)
  have KB : Hid (Kpt (fun k => k < w.heap.size) w (w6.alloc (.cells #[.int .i64 0, .int .i64 1, .int .i64 11, .bool true, .bool false, .bool false] 32))) := O6.out.kpt.below (below_new _ _)
  have hb7 : w6.heap.size < (w6.alloc (.cells #[.int .i64 0, .int .i64 1, .int .i64 11, .bool true, .bool false, .bool false] 32)).heap.size := by simp
  generalize w6.alloc (.cells #[.int .i64 0, .int .i64 1, .int .i64 11, .bool true, .bool false, .bool false] 32) = w7 at *
  clear O6
  generalize hbx : w6.heap.size = bx at *
  have XK : Hid (∀ W, Kpt (fun i => i < w.heap.size ∨ (bx ≤ i ∧ i < w7.heap.size)) w7 W → Six W bx 0 ⟨0, 1, 11, true, false, false⟩) := fun W k => X7.out.of_eq (k.block bx (Or.inr ⟨Nat.le_refl _, hb7⟩))
  have FIN : Hid (∀ W l, On (fun i => i < w.heap.size ∨ (bx ≤ i ∧ i < w7.heap.size)) w7 W p 2 l → Below w.heap.size w W) := fun W l o => (On.less KB.out o (fun i hi => Or.inl hi)).kpt.toBelow
  obtain ⟨Q, hQ⟩ : ∃ Q, Q = (fun i => i < w.heap.size ∨ (bx ≤ i ∧ i < w7.heap.size)) := ⟨_, rfl⟩
  rw [← hQ] at O7 XK FIN
  clear hQ KB X7
  refine (trans_any 3 (by omega) (by omega) _).mono ?_
  rintro e w8 ⟨rfl, hb⟩
  have O8 : Hid (On Q w7 w8 p 2 [tr 1, tr 2]) := O7.out.below hb
  clear hb O7
  go_wp2_with fail
  refine (O8.out.fill_at 0 3 13 true false false _ _ E3.out W5.out).mono ?_
  rintro e w9 ⟨rfl, hO⟩
  have O9 : Hid (On Q w7 w9 p 2 [tr 3, tr 1]) := hO
  clear hO O8
  go_wp2_with fail
  refine (O9.out.peek_at 0 2 _ _ _ W6.out).mono ?_
  rintro e w10 ⟨rfl, hb⟩
  have O10 : Hid (On Q w7 w10 p 2 [tr 3, tr 1]) := O9.out.below hb
  clear hb O9
  go_wp2_with fail
  have O11 : Hid (On Q w7 (w10.alloc (.cells #[.int .i64 0, .int .i64 0, .int .i64 0, .bool false, .bool false, .bool false] 32)).drew p 2 [tr 3, tr 1]) := O10.out.below ((below_new _ _).drew)
  generalize (w10.alloc (.cells #[.int .i64 0, .int .i64 0, .int .i64 0, .bool false, .bool false, .bool false] 32)) = w11 at *
  clear O10
  have hq := eq_run 0 1 11 0 1 11 true false false true false false
  rw [eqT_self] at hq
  have BS : Hid (∀ W : World, Own 0 (W.alloc (.cells #[.int .i64 0, .int .i64 3, .int .i64 13, .bool true, .bool false, .bool false, .int .i64 0, .int .i64 1, .int .i64 11, .bool true, .bool false, .bool false] 32)) (.slice (some ⟨W.heap.size, 0, none⟩) 2 2) [tr 3, tr 1]) := fun W => Own.of_blk (l := [tr 3, tr 1]) (Nat.zero_le _) (blk_new W _ 32) (by simp) (by unfold maxLen; simp) (by rfl) (by rfl)
  go_region_held3 (fun W => W.cell? ⟨bx, 0, none⟩ = some (.int .i64 0) ∧ W.cell? ⟨bx, 1, none⟩ = some (.int .i64 1) ∧ W.cell? ⟨bx, 2, none⟩ = some (.int .i64 11) ∧ W.cell? ⟨bx, 3, none⟩ = some (.bool true) ∧ W.cell? ⟨bx, 4, none⟩ = some (.bool false) ∧ W.cell? ⟨bx, 5, none⟩ = some (.bool false))
    (first | exact (XK.out _ O16.out.kpt).sx | exact (XK.out _ O15.out.kpt).sx | exact (XK.out _ (O15.out.below (below_new _ _)).kpt).sx | exact (XK.out _ O14.out.kpt).sx | exact (XK.out _ O13.out.kpt).sx | exact (XK.out _ O12.out.kpt).sx | exact (XK.out _ O11.out.kpt).sx)
    (first
      | (go_at_call 25; refine (trans_any 1 (by omega) (by omega) _).mono ?_; rintro e w12 ⟨rfl, hb⟩; have O12 : Hid (On Q w7 w12 p 2 [tr 3, tr 1]) := O11.out.below hb; clear O11 hb)
      | (go_at_call 11; refine O12.out.all.mono ?_; rintro e w13 ⟨va, rfl, oa, hb⟩; have O13 : Hid (On Q w7 w13 p 2 [tr 3, tr 1]) := O12.out.below hb; have A13 : Hid (Own w12.heap.size w13 va [tr 3, tr 1]) := oa; clear O12 hb oa)
      | (go_at_call 25; refine (trans_any 3 (by omega) (by omega) _).mono ?_; rintro e w14 ⟨rfl, hb⟩; have O14 : Hid (On Q w7 w14 p 2 [tr 3, tr 1]) := O13.out.below hb; have A14 : Hid (Own w12.heap.size w14 va [tr 3, tr 1]) := A13.out.below hb; clear O13 A13 hb)
      | (go_at_call 25; refine (trans_any 1 (by omega) (by omega) _).mono ?_; rintro e w15 ⟨rfl, hb⟩; have O15 : Hid (On Q w7 w15 p 2 [tr 3, tr 1]) := O14.out.below hb; have A15 : Hid (Own w12.heap.size w15 va [tr 3, tr 1]) := A14.out.below hb; clear O14 A14 hb)
      | (go_at_call 12; refine (same_any (A15.out.below (below_new w15 _)) (BS.out w15) (by simp)).mono ?_; rintro e w16 ⟨rfl, hb⟩; have O16 : Hid (On Q w7 w16 p 2 [tr 3, tr 1]) := (O15.out.below (below_new w15 _)).below hb; clear hb))
  go_wp2
  go_ret
  exact ⟨rfl, FIN.out _ _ O16.out⟩
end Go.Proofs.Ytkgmdalekakgpaa
