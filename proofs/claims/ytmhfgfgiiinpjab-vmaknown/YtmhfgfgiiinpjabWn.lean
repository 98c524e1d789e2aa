/- The statements' two and works: no condition. -/
import Derived.Test.YtmhfgfgiiinpjabWm
namespace Go.Proofs.Ytmhfgfgiiinpjab.V
open Go.ChangeShapes Go.WideShapes Go.ChangeAt Go.RowKit
set_option linter.unusedVariables false
set_option maxRecDepth 8192

theorem litn (w : World) (l : List Rg) (ty : TypeId) (cs : Array Value) (h : cs.toList = rcs l) : Rn (w.alloc (.cells cs ty)) (some ⟨w.heap.size, 0, none⟩) l := by
  refine Or.inr ⟨w.heap.size, 0, rfl, by simp, fun i hi => ?_⟩
  have q := rcs_get l i hi
  rw [← h] at q
  refine ⟨?_, ?_, ?_⟩
  · rw [World.cell?_alloc_new w cs ty, Nat.zero_add, ← Array.getElem?_toList]; exact q.1
  · rw [World.cell?_alloc_new w cs ty, Nat.zero_add, ← Array.getElem?_toList]; exact q.2.1
  · rw [World.cell?_alloc_new w cs ty, Nat.zero_add, ← Array.getElem?_toList]; exact q.2.2
def tw : List Rg := [⟨5, 3, 1⟩, ⟨10, 2, 3⟩]
theorem two_ok (w : World) : Calls Try.prog 5 #[] w fun e w' => ∃ b, e = .returned (.slice (some ⟨b, 0, none⟩) 2 2) ∧ Rn w' (some ⟨b, 0, none⟩) tw ∧ Below w.heap.size w w' := by
  have HL : Hid (Rn (w.alloc (.cells #[.int .i64 5, .int .i64 3, .int .u8 1, .int .i64 10, .int .i64 2, .int .u8 3] 26)) (some ⟨w.heap.size, 0, none⟩) tw) := litn w tw _ _ rfl
  go_enter Try.func5, Try.ntmps5
  go_wp2
  go_ret
  exact ⟨w.heap.size, rfl, HL.out, below1 w _⟩
theorem pu_tw : puV tw ⟨8, 2, 1⟩ = ([⟨5, 5, 1⟩, ⟨10, 2, 3⟩], 0) := by decide
theorem cu_tw : cuV tw 6 5 = ([⟨5, 1, 1⟩, ⟨11, 1, 3⟩], 0) := by decide
theorem pr_tw : prV tw 6 1 3 = ([⟨5, 1, 1⟩, ⟨6, 1, 3⟩, ⟨7, 1, 1⟩, ⟨10, 2, 3⟩], 0) := by decide
theorem tw_may : May tw := chk_may.1 (by decide)
theorem ga_tw : GaS tw 4 3 100 12 true 0 := by
  have := (gp_gas (l := tw) (n := 4) (f := 3) (t := 100) tw_may (by omega) (by omega) (by omega) (by omega)).1
  have e : gp 4 3 (btw tw 3 1048576) = 12 := by decide
  rw [e] at this
  exact this (by omega)
theorem tw_wf : ∀ r ∈ tw, wfR r := fun r hr => (tw_may.2.rs.ok r hr).wf
theorem tw_ri {w : World} {b : Nat} (h : Rn w (some ⟨b, 0, none⟩) tw) : Ri w (some ⟨b, 0, none⟩) 2 tw := ⟨h, by decide, tw_wf⟩
/-- A list that a call answered, as it is read. -/
theorem An.read {w : World} {a : List Rg} {x : Int} {e : Ending} {w' : World} (h : An w (a, x) e w') : ∃ ao cap, e = .returned (.tuple #[.slice ao a.length cap, .int .i64 x]) ∧ Rn w' ao a ∧ a.length ≤ cap ∧ Below w.heap.size w w' := by
  obtain ⟨v, h1, h2, h3⟩ := h
  obtain ⟨ao, cap, rfl, hr, _⟩ := h2.rn
  refine ⟨ao, cap, h1, hr, ?_, h3⟩
  rcases h2.form with ⟨e, q⟩ | ⟨g, c, e, _, _, hc, _⟩
  · rw [show a.length = 0 by simp only at q; rw [q]; rfl]; exact Nat.zero_le _
  · cases e; exact hc
set_option maxHeartbeats 2000000 in
theorem works_ok (w : World) : Calls Try.prog 11 #[] w fun e w' => e = .returned (.bool true) ∧ Below w.heap.size w w' := by
  have CT : Hid (∀ W, Calls Try.prog 5 #[] W fun e w' => ∃ b, e = .returned (.slice (some ⟨b, 0, none⟩) 2 2) ∧ Rn w' (some ⟨b, 0, none⟩) tw ∧ Below W.heap.size W w') := two_ok
  have CP : Hid (∀ W b, Rn W (some ⟨b, 0, none⟩) tw → Calls Try.prog 7 #[.slice (some ⟨b, 0, none⟩) 2 2, .agg #[.int .i64 8, .int .i64 2, .int .u8 1]] W (An W ([⟨5, 5, 1⟩, ⟨10, 2, 3⟩], 0))) := fun W b hR => by have := Put_ok (tw_ri hR) ⟨8, 2, 1⟩ (by unfold wfR; decide); rw [pu_tw] at this; exact this
  have CC : Hid (∀ W b, Rn W (some ⟨b, 0, none⟩) tw → Calls Try.prog 8 #[.slice (some ⟨b, 0, none⟩) 2 2, .agg #[.int .i64 6, .int .i64 5]] W (An W ([⟨5, 1, 1⟩, ⟨11, 1, 3⟩], 0))) := fun W b hR => by have := Cut_ok (tw_ri hR) 6 5 (by omega); rw [cu_tw] at this; exact this
  have CR : Hid (∀ W b, Rn W (some ⟨b, 0, none⟩) tw → Calls Try.prog 9 #[.slice (some ⟨b, 0, none⟩) 2 2, .agg #[.int .i64 6, .int .i64 1], .int .u8 3] W (An W ([⟨5, 1, 1⟩, ⟨6, 1, 3⟩, ⟨7, 1, 1⟩, ⟨10, 2, 3⟩], 0))) := fun W b hR => by have := Protect_ok (tw_ri hR) 6 1 3 (by unfold wfR; decide); rw [pr_tw] at this; exact this
  have CG : Hid (∀ W b, Rn W (some ⟨b, 0, none⟩) tw → Calls Try.prog 10 #[.slice (some ⟨b, 0, none⟩) 2 2, .int .i64 4, .int .i64 3, .int .i64 100] W fun e w' => e = .returned (.tuple #[.int .i64 12, .bool true, .int .i64 0]) ∧ Below W.heap.size W w') := fun W b hR => (Gap_ok (tw_ri hR) 4 3 100).mono (by
    rintro e w' ⟨p, is, e', rfl, hg, hb⟩
    obtain ⟨rfl, rfl, rfl⟩ := hg.uniq ga_tw
    exact ⟨rfl, hb⟩)
  have CS : Hid (∀ W a c b (l : List Rg) (n m : Nat), l.length = n → n ≤ 4 → Rn W a l → Rn W (some ⟨b, 0, none⟩) l → Calls Try.prog 12 #[.slice a n c, .slice (some ⟨b, 0, none⟩) n m] W fun e w' => e = .returned (.bool true) ∧ Below W.heap.size W w') := fun W a c b l n m hn h4 h1 h2 => by
    have := same_ok (ca := c) (cb := m) h1 h2 (by omega)
    rw [decide_eq_true rfl, hn] at this
    exact this
  go_enter Try.func11, Try.ntmps11
  go_wp2_with fail
  refine (CT.out _).mono ?_
  rintro e w1 ⟨g1, rfl, r1, b1⟩
  have HB1 : Hid (Below w.heap.size w w1) := b1
  have HR1 : Hid (Rn w1 (some ⟨g1, 0, none⟩) tw) := r1
  clear r1 b1
  go_wp2_with fail
  refine (CP.out _ _ HR1.out).mono ?_
  intro e w2 hA
  obtain ⟨a2, c2, rfl, r2, _, b2⟩ := hA.read
  have HB2 : Hid (Below w.heap.size w w2) := bs HB1.out b2
  have HR2 : Hid (Rn w2 a2 [⟨5, 5, 1⟩, ⟨10, 2, 3⟩]) := r2
  clear r2 b2 hA HR1
  go_wp2_with fail
  refine (CT.out _).mono ?_
  rintro e w3 ⟨g3, rfl, r3, b3⟩
  have HB3 : Hid (Below w.heap.size w w3) := bs HB2.out b3
  have HR3 : Hid (Rn w3 (some ⟨g3, 0, none⟩) tw) := r3
  have HR2' : Hid (Rn w3 a2 [⟨5, 5, 1⟩, ⟨10, 2, 3⟩]) := HR2.out.below b3
  clear r3 b3 HR2
  go_wp2_with fail
  refine (CC.out _ _ HR3.out).mono ?_
  intro e w4 hA
  obtain ⟨a4, c4, rfl, r4, _, b4⟩ := hA.read
  have HB4 : Hid (Below w.heap.size w w4) := bs HB3.out b4
  have HR4 : Hid (Rn w4 a4 [⟨5, 1, 1⟩, ⟨11, 1, 3⟩]) := r4
  have HR2 : Hid (Rn w4 a2 [⟨5, 5, 1⟩, ⟨10, 2, 3⟩]) := HR2'.out.below b4
  clear r4 b4 hA HR3 HR2'
  go_wp2_with fail
  refine (CT.out _).mono ?_
  rintro e w5 ⟨g5, rfl, r5, b5⟩
  have HB5 : Hid (Below w.heap.size w w5) := bs HB4.out b5
  have HR5 : Hid (Rn w5 (some ⟨g5, 0, none⟩) tw) := r5
  have HR4' : Hid (Rn w5 a4 [⟨5, 1, 1⟩, ⟨11, 1, 3⟩]) := HR4.out.below b5
  have HR2' : Hid (Rn w5 a2 [⟨5, 5, 1⟩, ⟨10, 2, 3⟩]) := HR2.out.below b5
  clear r5 b5 HR2 HR4
  go_wp2_with fail
  refine (CR.out _ _ HR5.out).mono ?_
  intro e w6 hA
  obtain ⟨a6, c6, rfl, r6, _, b6⟩ := hA.read
  have HB6 : Hid (Below w.heap.size w w6) := bs HB5.out b6
  have HR6 : Hid (Rn w6 a6 [⟨5, 1, 1⟩, ⟨6, 1, 3⟩, ⟨7, 1, 1⟩, ⟨10, 2, 3⟩]) := r6
  have HR4 : Hid (Rn w6 a4 [⟨5, 1, 1⟩, ⟨11, 1, 3⟩]) := HR4'.out.below b6
  have HR2 : Hid (Rn w6 a2 [⟨5, 5, 1⟩, ⟨10, 2, 3⟩]) := HR2'.out.below b6
  clear r6 b6 hA HR5 HR2' HR4'
  go_wp2_with fail
  refine (CT.out _).mono ?_
  rintro e w7 ⟨g7, rfl, r7, b7⟩
  have HB7 : Hid (Below w.heap.size w w7) := bs HB6.out b7
  have HR7 : Hid (Rn w7 (some ⟨g7, 0, none⟩) tw) := r7
  have HX : Hid (∀ W, Below w7.heap.size w7 W → Rn W a2 [⟨5, 5, 1⟩, ⟨10, 2, 3⟩] ∧ Rn W a4 [⟨5, 1, 1⟩, ⟨11, 1, 3⟩] ∧ Rn W a6 [⟨5, 1, 1⟩, ⟨6, 1, 3⟩, ⟨7, 1, 1⟩, ⟨10, 2, 3⟩]) := fun W q => ⟨(HR2.out.below b7).below q, (HR4.out.below b7).below q, (HR6.out.below b7).below q⟩
  clear r7 b7 HR2 HR4 HR6
  go_wp2_with fail
  refine (CG.out _ _ HR7.out).mono ?_
  rintro e w8 ⟨rfl, b8⟩
  have HB8 : Hid (Below w.heap.size w w8) := bs HB7.out b8
  have HX8 : Hid (∀ W, Below w8.heap.size w8 W → Rn W a2 [⟨5, 5, 1⟩, ⟨10, 2, 3⟩] ∧ Rn W a4 [⟨5, 1, 1⟩, ⟨11, 1, 3⟩] ∧ Rn W a6 [⟨5, 1, 1⟩, ⟨6, 1, 3⟩, ⟨7, 1, 1⟩, ⟨10, 2, 3⟩]) := fun W q => HX.out W (bs b8 q)
  clear b8 HX HR7
  go_wp2_with fail
  refine (CS.out _ _ _ _ [⟨5, 5, 1⟩, ⟨10, 2, 3⟩] _ _ rfl (by decide) (HX8.out _ (below1 _ _)).1 (litn w8 _ _ _ rfl)).mono ?_
  rintro e w9 ⟨rfl, b9⟩
  have HB9 : Hid (Below w8.heap.size w8 w9) := bs (below1 _ _) b9
  clear b9
  go_wp2_with fail
  refine (CS.out _ _ _ _ [⟨5, 1, 1⟩, ⟨11, 1, 3⟩] _ _ rfl (by decide) (HX8.out _ (bal HB9.out _)).2.1 (litn w9 _ _ _ rfl)).mono ?_
  rintro e wA ⟨rfl, bA⟩
  have HBA : Hid (Below w8.heap.size w8 wA) := bs (bal HB9.out _) bA
  clear bA
  go_wp2_with fail
  refine (CS.out _ _ _ _ [⟨5, 1, 1⟩, ⟨6, 1, 3⟩, ⟨7, 1, 1⟩, ⟨10, 2, 3⟩] _ _ rfl (by decide) (HX8.out _ (bal HBA.out _)).2.2 (litn wA _ _ _ rfl)).mono ?_
  rintro e wB ⟨rfl, bB⟩
  have HBB : Hid (Below w.heap.size w wB) := bs HB8.out (bs (bal HBA.out _) bB)
  clear bB
  go_wp2
  go_ret
  exact ⟨rfl, HBB.out⟩
end Go.Proofs.Ytmhfgfgiiinpjab.V
