/- VmaGaps walked: Gap answers as the document's; no condition but the size of what can be handed in. -/
import Derived.Test.YtmhfgfgiiinpjaaXj
import Derived.Test.YtmhfgfgiiinpjaaXg
import Derived.Test.YtmhfgfgiiinpjaaWn
namespace Go.Proofs.Ytmhfgfgiiinpjaa.V
open Go.ChangeShapes Go.WideShapes Go.ChangeAt Go.RowKit
set_option linter.unusedVariables false
set_option maxRecDepth 8192

theorem Rn.head5 {w : World} {g : Nat} {l : List Rg} (h : Rn w (some ⟨g, 0, none⟩) (l ++ sp5)) : Rn w (some ⟨g, 0, none⟩) l := by
  have := h.take l.length
  rwa [List.take_left] at this
set_option maxHeartbeats 4000000 in
theorem gaps_any {w : World} {ao : Option Addr} {cap : Nat} {l : List Rg} (h : Ri w ao cap l) (hl : l.length * 24 ≤ 140737488351232) (n f t : Int) :
    Calls Try.prog 5 #[.slice ao l.length cap, .int .i64 n, .agg #[.int .i64 f, .int .i64 t]] w fun e w' => e = .returned (.bool true) ∧ Below w.heap.size w w' := by
  have CW : Hid (∀ W, Calls Try.prog 21 #[] W fun e w' => e = .returned (.bool true) ∧ Below W.heap.size W w') := works_ok
  have HB : Hid (∀ o : Obj, Below w.heap.size w (w.alloc o)) := fun o => below1 w o
  have HL : Hid (∀ W, Below w.heap.size w W → Ri W ao cap l) := fun W hW => h.below hW
  have hwf : Hid (∀ r ∈ l, wfR r) := h.wf
  have CSp : Hid (∀ W, Below w.heap.size w W → Calls Try.prog 9 #[.slice ao l.length cap] W fun e w' => ∃ g c, e = .returned (.slice (some ⟨g, 0, none⟩) l.length c) ∧ Rn w' (some ⟨g, 0, none⟩) (l ++ sp5) ∧ l.length + 5 ≤ c ∧ Below W.heap.size W w') := fun W hW => spare_ok (h.below hW).rn hl
  have CK : Hid (∀ W g c, Rn W (some ⟨g, 0, none⟩) (l ++ sp5) → l.length + 5 ≤ c → Rn W ao l → Calls Try.prog 20 #[.slice (some ⟨g, 0, none⟩) l.length c, .slice ao l.length cap] W fun e w' => e = .returned (.bool true) ∧ Below W.heap.size W w') := fun W g c h1 h2 h3 => kept_ok h1 h2 h3 (by omega)
  have CG : Hid (∀ W b c, Ri W b c l → Calls Try.prog 28 #[.slice b l.length c, .int .i64 n, .int .i64 f, .int .i64 t] W (Ga W l n f t)) := fun W b c hk => Gap_ok hk n f t
  have CGr : Hid (∀ W b c, Ri W b c l → Calls Try.prog 29 #[.slice b l.length c, .int .i64 n, .int .i64 f, .int .i64 t] W (Ga W l n f t)) := fun W b c hk => Gap_r hk n f t
  clear h hl
  go_enter Try.func5, Try.ntmps5
  go_wp2_with fail
  refine (CSp.out _ (HB.out _)).mono ?_
  rintro e w1 ⟨g, c, rfl, r1, hc5, b1⟩
  have z (i) := cell_at w #[.int .i64 f, .int .i64 t] 48 b1 i
  have HX1 : Hid (∀ W, Below w1.heap.size w1 W → Rn W (some ⟨g, 0, none⟩) (l ++ sp5) ∧ W.cell? ⟨w.heap.size, 0, none⟩ = some (.int .i64 f) ∧ W.cell? ⟨w.heap.size, 1, none⟩ = some (.int .i64 t)) := fun W q => ⟨r1.below q, (q.cell (World.block_lt_of_cell? w1 _ (z 0))).trans (z 0), (q.cell (World.block_lt_of_cell? w1 _ (z 1))).trans (z 1)⟩
  have HB1 : Hid (Below w.heap.size w w1) := bs (HB.out _) b1
  clear r1 b1 z
  obtain ⟨_, z0, z1⟩ := HX1.out w1 (Below.refl _ _)
  go_wp2_with fail
  refine (CG.out _ _ _ ⟨(HX1.out _ (Below.refl _ _)).1.head5, by omega, hwf.out⟩).mono ?_
  rintro e w2 ⟨p, is, e1, rfl, hg1, b2⟩
  have HB2 : Hid (Below w1.heap.size w1 w2) := b2
  have HG1 : Hid (GaS l n f t p is e1) := hg1
  clear b2 hg1 z0 z1
  obtain ⟨_, z0, z1⟩ := HX1.out w2 HB2.out
  go_wp2_with fail
  refine (CGr.out _ _ _ (HL.out _ (bs HB1.out HB2.out))).mono ?_
  rintro e w3 ⟨p', is', e1', rfl, hg2, b3⟩
  obtain ⟨rfl, rfl, rfl⟩ := hg2.uniq HG1.out
  have HB3 : Hid (Below w1.heap.size w1 w3) := bs HB2.out b3
  clear b3 hg2 z0 z1
  cases is'
  all_goals
    go_wp2_with fail
    refine (CK.out _ _ _ (HX1.out _ HB3.out).1 hc5 (HL.out _ (bs HB1.out HB3.out)).rn).mono ?_
    rintro e w4 ⟨rfl, b4⟩
    have HB4 : Hid (Below w1.heap.size w1 w4) := bs HB3.out b4
    clear b4
    go_wp2_with fail
    refine (CW.out _).mono ?_
    rintro e w5 ⟨rfl, b5⟩
    have HB5 : Hid (Below w.heap.size w w5) := bs HB1.out (bs HB4.out b5)
    clear b5
    go_wp2
    go_ret
    exact ⟨rfl, HB5.out⟩
end Go.Proofs.Ytmhfgfgiiinpjaa.V
