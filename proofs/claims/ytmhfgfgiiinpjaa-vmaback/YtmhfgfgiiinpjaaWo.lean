/- VmaBack walked: what was put in and is cut out again is what was there; no condition. -/
import Derived.Test.YtmhfgfgiiinpjaaWn
namespace Go.Proofs.Ytmhfgfgiiinpjaa.V
open Go.ChangeShapes Go.WideShapes Go.ChangeAt Go.RowKit
set_option linter.unusedVariables false
set_option maxRecDepth 8192

theorem May.wf {l : List Rg} (h : May l) : ∀ r ∈ l, wfR r := fun r hr => (h.2.rs.ok r hr).wf
set_option maxHeartbeats 2000000 in
theorem back_any {w : World} {ao : Option Addr} {cap : Nat} {l : List Rg} (h : Ri w ao cap l) (p n m at_ : Int) (hw : wfR ⟨p, n, m⟩) :
    Calls Try.prog 7 #[.slice ao l.length cap, .agg #[.int .i64 p, .int .i64 n, .int .u8 m, .int .i64 at_]] w fun e w' => e = .returned (.bool true) ∧ Below w.heap.size w w' := by
  have CP : Hid (∀ W, Below w.heap.size w W → Calls Try.prog 12 #[.slice ao l.length cap, .agg #[.int .i64 p, .int .i64 n, .int .u8 m]] W (An W (puV l ⟨p, n, m⟩))) := fun W hW => Put_ok (h.below hW) ⟨p, n, m⟩ hw
  have CW : Hid (∀ W, Calls Try.prog 21 #[] W fun e w' => e = .returned (.bool true) ∧ Below W.heap.size W w') := works_ok
  have HB : Hid (∀ o : Obj, Below w.heap.size w (w.alloc o)) := fun o => below1 w o
  obtain ⟨a, x, hp⟩ : ∃ a x, puV l ⟨p, n, m⟩ = (a, x) := ⟨_, _, rfl⟩
  rw [hp] at CP
  by_cases hx : x = 0
  case' neg => have hx' : (x == 0) = false := by simpa using hx
  case' pos =>
    subst hx
    obtain ⟨hc, hr⟩ := back hp
    obtain ⟨hM, _, _, hMa, _⟩ := puV_get hp
    simp only at hc hr
    have CC : Hid (∀ W b c, Rn W b a → a.length ≤ c → Calls Try.prog 16 #[.slice b a.length c, .agg #[.int .i64 p, .int .i64 n]] W (An W (l, 0))) := fun W b c hR hle => by have := Cut_ok (⟨hR, hle, hMa.wf⟩ : Ri W b c a) p n hw.1; rw [hc] at this; exact this
    have CR : Hid (∀ W b c, Rn W b a → a.length ≤ c → Calls Try.prog 18 #[.slice b a.length c, .agg #[.int .i64 p, .int .i64 n], .int .u8 m] W (An W (a, 0))) := fun W b c hR hle => by have := Protect_ok (⟨hR, hle, hMa.wf⟩ : Ri W b c a) p n m hw; rw [hr] at this; exact this
    have CS : Hid (∀ W b c d (l : List Rg) (g : Nat), l.length ≤ 1024 → Rn W b l → Rn W d l → Calls Try.prog 14 #[.slice b l.length c, .slice d l.length g] W fun e w' => e = .returned (.bool true) ∧ Below W.heap.size W w') := fun W b c d l g hl h1 h2 => by
      have := same_ok (ca := c) (cb := g) h1 h2 (by omega)
      rw [decide_eq_true rfl] at this
      exact this
    have hl1 : l.length ≤ 1024 := hM.1
    have hl2 : a.length ≤ 1024 := hMa.1
    have HL : Hid (∀ W, Below w.heap.size w W → Rn W ao l) := fun W hW => h.rn.below hW
    clear hc hr hM hMa
  all_goals
    clear h hw hp
    go_enter Try.func7, Try.ntmps7
    go_wp2_with fail
    refine (CW.out _).mono ?_
    rintro e w1 ⟨rfl, b1⟩
    have HX1 : Hid (∀ W, Below w1.heap.size w1 W → W.cell? ⟨w.heap.size, 0, none⟩ = some (.int .i64 p) ∧ W.cell? ⟨w.heap.size, 1, none⟩ = some (.int .i64 n) ∧ W.cell? ⟨w.heap.size, 2, none⟩ = some (.int .u8 m)) := fun W q => by
      have z (i) := cell_at w #[.int .i64 p, .int .i64 n, .int .u8 m, .int .i64 at_] 24 (bs b1 q) i
      exact ⟨z 0, z 1, z 2⟩
    have HB1 : Hid (Below w.heap.size w w1) := bs (HB.out _) b1
    obtain ⟨z0, z1, z2⟩ := HX1.out w1 (Below.refl _ _)
    clear b1
    go_wp2_with fail
    refine (CP.out _ (bal HB1.out _)).mono ?_
    intro e w2 hA
    obtain ⟨a2, c2, rfl, r2, l2, b2⟩ := hA.read
    have HB2 : Hid (Below w.heap.size w w2) := bs (bal HB1.out _) b2
    have HX2 : Hid (∀ W, Below w2.heap.size w2 W → W.cell? ⟨w.heap.size, 0, none⟩ = some (.int .i64 p) ∧ W.cell? ⟨w.heap.size, 1, none⟩ = some (.int .i64 n) ∧ W.cell? ⟨w.heap.size, 2, none⟩ = some (.int .u8 m)) := fun W q => HX1.out W (bs (below1 _ _) (bs b2 q))
    have HR2 : Hid (Rn w2 a2 a) := r2
    clear hA r2 b2 z0 z1 z2
  rotate_left
  · go_wp2
    go_ret
    exact ⟨rfl, HB2.out⟩
  · obtain ⟨z0, z1, z2⟩ := HX2.out w2 (Below.refl _ _)
    go_wp2_with fail
    refine (CC.out _ _ _ HR2.out l2).mono ?_
    intro e w3 hA
    obtain ⟨a3, c3, rfl, r3, l3, b3⟩ := hA.read
    have HB3 : Hid (Below w.heap.size w w3) := bs HB2.out b3
    have HR3 : Hid (Rn w3 a3 l) := r3
    have HR2' : Hid (Rn w3 a2 a) := HR2.out.below b3
    clear z0 z1 z2
    obtain ⟨z0, z1, z2⟩ := HX2.out w3 b3
    clear hA r3 b3 HR2
    go_wp2_with fail
    refine (CR.out _ _ _ HR2'.out l2).mono ?_
    intro e w4 hA
    obtain ⟨a4, c4, rfl, r4, l4, b4⟩ := hA.read
    have HB4 : Hid (Below w.heap.size w w4) := bs HB3.out b4
    have HR4 : Hid (Rn w4 a4 a) := r4
    have HR2 : Hid (Rn w4 a2 a) := HR2'.out.below b4
    have HR3' : Hid (Rn w4 a3 l) := HR3.out.below b4
    clear hA r4 b4 HR3 HR2' z0 z1 z2
    go_wp2_with fail
    refine (CS.out _ _ _ _ l _ hl1 HR3'.out (HL.out _ HB4.out)).mono ?_
    rintro e w5 ⟨rfl, b5⟩
    have HB5 : Hid (Below w.heap.size w w5) := bs HB4.out b5
    have HR4' : Hid (Rn w5 a4 a) := HR4.out.below b5
    have HR2' : Hid (Rn w5 a2 a) := HR2.out.below b5
    clear b5
    go_wp2_with fail
    refine (CS.out _ _ _ _ a _ hl2 HR4'.out HR2'.out).mono ?_
    rintro e w6 ⟨rfl, b6⟩
    have HB6 : Hid (Below w.heap.size w w6) := bs HB5.out b6
    clear b6
    go_wp2
    go_ret
    exact ⟨rfl, HB6.out⟩
end Go.Proofs.Ytmhfgfgiiinpjaa.V
