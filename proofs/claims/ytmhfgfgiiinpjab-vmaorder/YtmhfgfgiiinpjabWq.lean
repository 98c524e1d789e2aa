/- VmaOrder walked: what is done to pages that have nothing together may be done in either order; no condition. -/
import Derived.Test.YtmhfgfgiiinpjabWn
import Derived.Deep.DeepCutAuto
namespace Go.Proofs.Ytmhfgfgiiinpjab.V
open Go.ChangeShapes Go.WideShapes Go.ChangeAt Go.RowKit
set_option linter.unusedVariables false
set_option maxRecDepth 8192

theorem May.wf {l : List Rg} (h : May l) : ∀ r ∈ l, wfR r := fun r hr => (h.2.rs.ok r hr).wf
/-- A region in a box, or an ask's first three cells; pages in a box. -/
def B3 (W : World) (b : Nat) (p n m : Int) : Prop := W.cell? ⟨b, 0, none⟩ = some (.int .i64 p) ∧ W.cell? ⟨b, 1, none⟩ = some (.int .i64 n) ∧ W.cell? ⟨b, 2, none⟩ = some (.int .u8 m)
def B2 (W : World) (b : Nat) (p n : Int) : Prop := W.cell? ⟨b, 0, none⟩ = some (.int .i64 p) ∧ W.cell? ⟨b, 1, none⟩ = some (.int .i64 n)
theorem cell_keep {W W' : World} (k : Below W.heap.size W W') {a : Addr} {v : Value} (h : W.cell? a = some v) : W'.cell? a = some v := (k.cell (World.block_lt_of_cell? W _ h)).trans h
theorem B3.below {W W' : World} {b : Nat} {p n m : Int} (h : B3 W b p n m) (k : Below W.heap.size W W') : B3 W' b p n m := ⟨cell_keep k h.1, cell_keep k h.2.1, cell_keep k h.2.2⟩
theorem B2.below {W W' : World} {b : Nat} {p n : Int} (h : B2 W b p n) (k : Below W.heap.size W W') : B2 W' b p n := ⟨cell_keep k h.1, cell_keep k h.2⟩
theorem apart_ok (p n m a p' n' m' a' : Int) (w : World) (h1 : pgs p n) (h2 : pgs p' n') : Calls Try.prog 13 #[.agg #[.int .i64 p, .int .i64 n, .int .u8 m, .int .i64 a], .agg #[.int .i64 p', .int .i64 n', .int .u8 m', .int .i64 a']] w fun e w' => e = .returned (.bool (decide (p + n ≤ p' ∨ p' + n' ≤ p))) ∧ Below w.heap.size w w' := by
  unfold pgs at h1 h2
  obtain ⟨g1, g2, g3, g4⟩ := h1
  obtain ⟨k1, k2, k3, k4⟩ := h2
  have HB : Hid (Below w.heap.size w ((w.alloc (.cells #[.int .i64 p, .int .i64 n, .int .u8 m, .int .i64 a] 40)).alloc (.cells #[.int .i64 p', .int .i64 n', .int .u8 m', .int .i64 a'] 40))) := below2 w _ _
  by_cases hc : p + n ≤ p'
  · have hd : decide (p + n ≤ p') = true := decide_eq_true hc
    have HF : Hid (decide (p + n ≤ p' ∨ p' + n' ≤ p) = true) := decide_eq_true (Or.inl hc)
    rw [HF.out]
    go_enter Try.func13, Try.ntmps13
    go_wp2
    go_ret
    exact ⟨rfl, HB.out⟩
  · have hd : decide (p + n ≤ p') = false := decide_eq_false hc
    have HF : Hid (decide (p + n ≤ p' ∨ p' + n' ≤ p) = decide (p' + n' ≤ p)) := by rw [decide_eq_decide]; exact ⟨fun q => q.resolve_left hc, Or.inr⟩
    rw [HF.out]
    go_enter Try.func13, Try.ntmps13
    go_wp2
    go_ret
    exact ⟨rfl, HB.out⟩
theorem two_a (w : World) (p n m : Int) : B3 ((w.alloc (.cells #[.int .i64 p, .int .i64 n, .int .u8 m] 26)).alloc (.cells #[.int .i64 p, .int .i64 n] 34)).drew w.heap.size p n m ∧ B2 ((w.alloc (.cells #[.int .i64 p, .int .i64 n, .int .u8 m] 26)).alloc (.cells #[.int .i64 p, .int .i64 n] 34)).drew (w.heap.size + 1) p n ∧ Below w.heap.size w ((w.alloc (.cells #[.int .i64 p, .int .i64 n, .int .u8 m] 26)).alloc (.cells #[.int .i64 p, .int .i64 n] 34)).drew := by
  have a (i) := cell_at w #[.int .i64 p, .int .i64 n, .int .u8 m] 26 ((below1 (w.alloc (.cells #[.int .i64 p, .int .i64 n, .int .u8 m] 26)) (.cells #[.int .i64 p, .int .i64 n] 34)).drew) i
  have b (i) := cell_at (w.alloc (.cells #[.int .i64 p, .int .i64 n, .int .u8 m] 26)) #[.int .i64 p, .int .i64 n] 34 ((Below.refl _ _).drew) i
  rw [World.size_alloc] at b
  exact ⟨⟨a 0, a 1, a 2⟩, ⟨b 0, b 1⟩, (below2 w _ _).drew⟩
theorem two_b (w : World) (p n m : Int) : B3 ((w.alloc (.cells #[.int .i64 p, .int .i64 n] 34)).alloc (.cells #[.int .i64 p, .int .i64 n, .int .u8 m] 26)).drew (w.heap.size + 1) p n m ∧ B2 ((w.alloc (.cells #[.int .i64 p, .int .i64 n] 34)).alloc (.cells #[.int .i64 p, .int .i64 n, .int .u8 m] 26)).drew w.heap.size p n ∧ Below w.heap.size w ((w.alloc (.cells #[.int .i64 p, .int .i64 n] 34)).alloc (.cells #[.int .i64 p, .int .i64 n, .int .u8 m] 26)).drew := by
  have a (i) := cell_at w #[.int .i64 p, .int .i64 n] 34 ((below1 (w.alloc (.cells #[.int .i64 p, .int .i64 n] 34)) (.cells #[.int .i64 p, .int .i64 n, .int .u8 m] 26)).drew) i
  have b (i) := cell_at (w.alloc (.cells #[.int .i64 p, .int .i64 n] 34)) #[.int .i64 p, .int .i64 n, .int .u8 m] 26 ((Below.refl _ _).drew) i
  rw [World.size_alloc] at b
  exact ⟨⟨b 0, b 1, b 2⟩, ⟨a 0, a 1⟩, (below2 w _ _).drew⟩
/-- What lies in the boxes of the statement's own. -/
structure Xs (W : World) (bx by_ g7 g8 g9 g10 : Nat) (p n m a p' n' m' a' : Int) : Prop where
  x : B3 W bx p n m
  x3 : W.cell? ⟨bx, 3, none⟩ = some (.int .i64 a)
  y : B3 W by_ p' n' m'
  y3 : W.cell? ⟨by_, 3, none⟩ = some (.int .i64 a')
  r : B3 W g7 p n m
  s : B2 W g8 p n
  q : B3 W g9 p' n' m'
  t : B2 W g10 p' n'
theorem Xs.below {W W' : World} {bx by_ g7 g8 g9 g10 : Nat} {p n m a p' n' m' a' : Int} (h : Xs W bx by_ g7 g8 g9 g10 p n m a p' n' m' a') (k : Below W.heap.size W W') : Xs W' bx by_ g7 g8 g9 g10 p n m a p' n' m' a' := ⟨h.x.below k, cell_keep k h.x3, h.y.below k, cell_keep k h.y3, h.r.below k, h.s.below k, h.q.below k, h.t.below k⟩
set_option maxHeartbeats 4000000 in
theorem order_any {w : World} {ao : Option Addr} {cap : Nat} {l : List Rg} (h : Ri w ao cap l) (p n m a p' n' m' a' : Int) (hw : wfR ⟨p, n, m⟩) (hw' : wfR ⟨p', n', m'⟩) :
    Calls Try.prog 4 #[.slice ao l.length cap, .agg #[.int .i64 p, .int .i64 n, .int .u8 m, .int .i64 a], .agg #[.int .i64 p', .int .i64 n', .int .u8 m', .int .i64 a']] w fun e w' => e = .returned (.bool true) ∧ Below w.heap.size w w' := by
  have CW : Hid (∀ W, Calls Try.prog 11 #[] W fun e w' => e = .returned (.bool true) ∧ Below W.heap.size W w') := works_ok
  have HB : Hid (∀ o1 o2 : Obj, Below w.heap.size w ((w.alloc o1).alloc o2)) := fun o1 o2 => below2 w o1 o2
  have CC : Hid (∀ W b c (k : List Rg), Ri W b c k → Calls Try.prog 8 #[.slice b k.length c, .agg #[.int .i64 p, .int .i64 n]] W (An W (cuV k p n))) := fun W b c k hk => Cut_ok hk p n hw.1
  have CC' : Hid (∀ W b c (k : List Rg), Ri W b c k → Calls Try.prog 8 #[.slice b k.length c, .agg #[.int .i64 p', .int .i64 n']] W (An W (cuV k p' n'))) := fun W b c k hk => Cut_ok hk p' n' hw'.1
  have CR : Hid (∀ W b c (k : List Rg), Ri W b c k → Calls Try.prog 9 #[.slice b k.length c, .agg #[.int .i64 p, .int .i64 n], .int .u8 m] W (An W (prV k p n m))) := fun W b c k hk => Protect_ok hk p n m hw
  have CR' : Hid (∀ W b c (k : List Rg), Ri W b c k → Calls Try.prog 9 #[.slice b k.length c, .agg #[.int .i64 p, .int .i64 n], .int .u8 m'] W (An W (prV k p n m'))) := fun W b c k hk => Protect_ok hk p n m' ⟨hw.1, hw.2.1, hw'.2.2⟩
  have CP : Hid (∀ W b c (k : List Rg), Ri W b c k → Calls Try.prog 7 #[.slice b k.length c, .agg #[.int .i64 p, .int .i64 n, .int .u8 m]] W (An W (puV k ⟨p, n, m⟩))) := fun W b c k hk => Put_ok hk ⟨p, n, m⟩ hw
  have CP' : Hid (∀ W b c (k : List Rg), Ri W b c k → Calls Try.prog 7 #[.slice b k.length c, .agg #[.int .i64 p', .int .i64 n', .int .u8 m']] W (An W (puV k ⟨p', n', m'⟩))) := fun W b c k hk => Put_ok hk ⟨p', n', m'⟩ hw'
  have CS : Hid (∀ W b c d (l : List Rg) (g : Nat), l.length ≤ 1024 → Rn W b l → Rn W d l → Calls Try.prog 12 #[.slice b l.length c, .slice d l.length g] W fun e w' => e = .returned (.bool true) ∧ Below W.heap.size W w') := fun W b c d l g hl h1 h2 => by
    have := same_ok (ca := c) (cb := g) h1 h2 (by omega)
    rw [decide_eq_true rfl] at this
    exact this
  have CA : Hid (∀ W, pgs p n → pgs p' n' → Calls Try.prog 13 #[.agg #[.int .i64 p, .int .i64 n, .int .u8 m, .int .i64 a], .agg #[.int .i64 p', .int .i64 n', .int .u8 m', .int .i64 a']] W fun e w' => e = .returned (.bool (decide (p + n ≤ p' ∨ p' + n' ≤ p))) ∧ Below W.heap.size W w') := fun W h1 h2 => apart_ok p n m a p' n' m' a' W h1 h2
  have HL : Hid (∀ W, Below w.heap.size w W → Ri W ao cap l) := fun W hW => h.below hW
  clear h hw hw'
  go_enter Try.func4, Try.ntmps4
  go_wp2_with fail
  refine (CW.out _).mono ?_
  rintro e w1 ⟨rfl, b1⟩
  have z (i) := cell_at w #[.int .i64 p, .int .i64 n, .int .u8 m, .int .i64 a] 40 (bs (below1 _ _) b1) i
  have y (i) := cell_at (w.alloc (.cells #[.int .i64 p, .int .i64 n, .int .u8 m, .int .i64 a] 40)) #[.int .i64 p', .int .i64 n', .int .u8 m', .int .i64 a'] 40 b1 i
  rw [World.size_alloc] at y
  have HX1 : Hid (B3 w1 w.heap.size p n m ∧ w1.cell? ⟨w.heap.size, 3, none⟩ = some (.int .i64 a) ∧ B3 w1 (w.heap.size + 1) p' n' m' ∧ w1.cell? ⟨w.heap.size + 1, 3, none⟩ = some (.int .i64 a')) := ⟨⟨z 0, z 1, z 2⟩, z 3, ⟨y 0, y 1, y 2⟩, y 3⟩
  have HB1 : Hid (Below w.heap.size w w1) := bs (HB.out _ _) b1
  clear b1 z y
  have hS1 := HX1.out.1
  unfold B3 at hS1
  go_upto_region 3 with fail
  go_cut [7, 8] from 27 (fun t7 t8 wx => ∃ g7 g8, t7 = .pointer (some ⟨g7, 0, none⟩) ∧ t8 = .pointer (some ⟨g8, 0, none⟩) ∧ B3 wx g7 p n m ∧ B2 wx g8 p n ∧ Below w1.heap.size w1 wx)
  case first =>
    go_region_held3 (fun W => W.cell? ⟨w.heap.size, 0, none⟩ = some (.int .i64 p) ∧ W.cell? ⟨w.heap.size, 1, none⟩ = some (.int .i64 n) ∧ W.cell? ⟨w.heap.size, 2, none⟩ = some (.int .u8 m)) (first | exact hS1 | exact HX1.out.1.below ((below1 _ _)) | exact HX1.out.1.below ((below1 _ _).drew) | exact HX1.out.1.below ((below2 _ _ _)) | exact HX1.out.1.below ((below2 _ _ _).drew)) (fail)
    all_goals (go_wp2_with fail; go_meet)
    all_goals first
      | exact ⟨_, _, rfl, rfl, (two_a w1 p n m).1, (two_a w1 p n m).2.1, (two_a w1 p n m).2.2⟩
      | exact ⟨_, _, rfl, rfl, (two_b w1 p n m).1, (two_b w1 p n m).2.1, (two_b w1 p n m).2.2⟩
  case rest =>
    obtain ⟨wx, rfl⟩ : ∃ wx, wx = wc := ⟨_, rfl⟩
    obtain ⟨g7, g8, rfl, rfl, h7, h8, b2⟩ := hcut
    have HB2 : Hid (Below w.heap.size w wx) := bs HB1.out b2
    have HX2 : Hid (B3 wx w.heap.size p n m ∧ wx.cell? ⟨w.heap.size, 3, none⟩ = some (.int .i64 a) ∧ B3 wx (w.heap.size + 1) p' n' m' ∧ wx.cell? ⟨w.heap.size + 1, 3, none⟩ = some (.int .i64 a') ∧ B3 wx g7 p n m ∧ B2 wx g8 p n) := ⟨HX1.out.1.below b2, cell_keep b2 HX1.out.2.1, HX1.out.2.2.1.below b2, cell_keep b2 HX1.out.2.2.2, h7, h8⟩
    clear hS1 b2 h7 h8 HX1
    have hS1 := HX2.out.2.2.1
    unfold B3 at hS1
    go_upto_region 4 with fail
    go_cut [9, 10] from 39 (fun t9 t10 wy => ∃ g9 g10, t9 = .pointer (some ⟨g9, 0, none⟩) ∧ t10 = .pointer (some ⟨g10, 0, none⟩) ∧ B3 wy g9 p' n' m' ∧ B2 wy g10 p' n' ∧ Below wx.heap.size wx wy)
    case first =>
      go_region_held3 (fun W => W.cell? ⟨w.heap.size + 1, 0, none⟩ = some (.int .i64 p') ∧ W.cell? ⟨w.heap.size + 1, 1, none⟩ = some (.int .i64 n') ∧ W.cell? ⟨w.heap.size + 1, 2, none⟩ = some (.int .u8 m')) (first | exact hS1 | exact HX2.out.2.2.1.below ((below1 _ _)) | exact HX2.out.2.2.1.below ((below1 _ _).drew) | exact HX2.out.2.2.1.below ((below2 _ _ _)) | exact HX2.out.2.2.1.below ((below2 _ _ _).drew)) (fail)
      all_goals (go_wp2_with fail; go_meet)
      all_goals first
        | exact ⟨_, _, rfl, rfl, (two_a wx p' n' m').1, (two_a wx p' n' m').2.1, (two_a wx p' n' m').2.2⟩
        | exact ⟨_, _, rfl, rfl, (two_b wx p' n' m').1, (two_b wx p' n' m').2.1, (two_b wx p' n' m').2.2⟩
    case rest =>
      obtain ⟨wy, rfl⟩ : ∃ wy, wy = wc := ⟨_, rfl⟩
      obtain ⟨g9, g10, rfl, rfl, h9, h10, b3⟩ := hcut
      have HB4 : Hid (Below w.heap.size w wy) := bs HB2.out b3
      have HX : Hid (∀ W, Below wy.heap.size wy W → Xs W w.heap.size (w.heap.size + 1) g7 g8 g9 g10 p n m a p' n' m' a') := fun W q => Xs.below ⟨HX2.out.1.below b3, cell_keep b3 HX2.out.2.1, HX2.out.2.2.1.below b3, cell_keep b3 HX2.out.2.2.2.1, HX2.out.2.2.2.2.1.below b3, HX2.out.2.2.2.2.2.below b3, h9, h10⟩ q
      clear hS1 b3 h9 h10 HX2
      have HBy : Hid (Below wy.heap.size wy wy) := Below.refl _ _
      have HLy : Hid (∀ W, Below wy.heap.size wy W → Ri W ao cap l) := fun W q => HL.out W (bs HB4.out q)
      clear HL CW HB HB1 HB2
      obtain ⟨a1, e1, hc⟩ : ∃ a1 e1, cuV l p n = (a1, e1) := ⟨_, _, rfl⟩
      have hz := HX.out wy (Below.refl _ _)
      obtain ⟨z1, z2⟩ := hz.s
      clear hz
      go_wp2_with fail
      refine (CC.out _ _ _ l (HLy.out _ HBy.out)).mono ?_
      intro e w5 hA
      rw [hc] at hA
      obtain ⟨b1, c1, rfl, r1, l1, k1⟩ := hA.read
      have HB1 : Hid (Below wy.heap.size wy w5) := bs HBy.out k1
      have HR1 : Hid (∀ W, Below w5.heap.size w5 W → Rn W b1 a1) := fun W q => r1.below q
      clear hA r1
      clear z1 z2
      go_upto_if 58 with fail
      go_cut [11, 12, 13, 14] from 57 (fun t11 t12 t13 t14 wx => Below wy.heap.size wy wx)
      case first =>
        by_cases he : e1 = 0
        case neg =>
          have he' : (e1 == 0) = false := by simpa using he
          go_wp2_with fail
          go_meet
          exact HB1.out
        case pos =>
          subst he
          have h2 := cut_twice hc
          have hM := (cuV_get hc).2.2.1
          have hlen := hM.1
          have HM : Hid (May a1) := hM
          obtain ⟨z1, z2⟩ := (HX.out w5 HB1.out).s
          clear hM
          skip
          go_wp2_with fail
          refine (CC.out _ _ _ a1 ⟨HR1.out _ (Below.refl _ _), l1, HM.out.wf⟩).mono ?_
          intro e w6 hA
          rw [h2] at hA
          obtain ⟨b2, c2, rfl, r2, l2, k2⟩ := hA.read
          have HB2 : Hid (Below wy.heap.size wy w6) := bs HB1.out k2
          have HR2 : Hid (∀ W, Below w6.heap.size w6 W → Rn W b2 a1) := fun W q => r2.below q
          clear hA r2
          clear z1 z2
          go_wp2_with fail
          refine (CS.out _ _ _ _ a1 _ hlen (HR1.out _ k2) (HR2.out _ (Below.refl _ _))).mono ?_
          rintro e w7 ⟨rfl, k7⟩
          have HB7 : Hid (Below wy.heap.size wy w7) := bs HB2.out k7
          clear k7
          go_wp2_with fail
          go_meet
          exact HB7.out
      case rest =>
        obtain ⟨wz, rfl⟩ : ∃ wz, wz = wc := ⟨_, rfl⟩
        have HB3 : Hid (Below wy.heap.size wy wz) := hcut
        clear hcut HB1 HR1 l1 k1 hc
        obtain ⟨a2, e2, hp⟩ : ∃ a2 e2, prV l p n m = (a2, e2) := ⟨_, _, rfl⟩
        obtain ⟨d2, f2, hq⟩ : ∃ d2 f2, prV l p n m' = (d2, f2) := ⟨_, _, rfl⟩
        have hz := HX.out wz HB3.out
        obtain ⟨z1, z2⟩ := hz.s
        have z3 := hz.x.2.2
        clear hz
        go_wp2_with fail
        refine (CR.out _ _ _ l (HLy.out _ HB3.out)).mono ?_
        intro e w8 hA
        rw [hp] at hA
        obtain ⟨b8, c8, rfl, r8, l8, k8⟩ := hA.read
        have HB8 : Hid (Below wy.heap.size wy w8) := bs HB3.out k8
        have HR8 : Hid (∀ W, Below w8.heap.size w8 W → Rn W b8 a2) := fun W q => r8.below q
        clear hA r8
        clear z1 z2 z3
        have hz := HX.out w8 HB8.out
        obtain ⟨z1, z2⟩ := hz.s
        have z3 := hz.y.2.2
        clear hz
        go_wp2_with fail
        refine (CR'.out _ _ _ l (HLy.out _ HB8.out)).mono ?_
        intro e w9 hA
        rw [hq] at hA
        obtain ⟨b9, c9, rfl, r9, l9, k9⟩ := hA.read
        have HB9 : Hid (Below wy.heap.size wy w9) := bs HB8.out k9
        have HR9 : Hid (∀ W, Below w9.heap.size w9 W → Rn W b9 d2) := fun W q => r9.below q
        clear hA r9
        clear z1 z2 z3
        have HR8' : Hid (∀ W, Below w9.heap.size w9 W → Rn W b8 a2) := fun W q => HR8.out W (bs k9 q)
        clear HR8
        go_upto_region 12 with fail
        go_cut [94] from 89 to 95 (fun t94 wx => t94 = .bool (decide (e2 = 0 ∧ f2 = 0)) ∧ wx = w9)
        case first =>
          by_cases he : e2 = 0
          · have he' : (e2 == 0) = true := by simpa using he
            by_cases hf : f2 = 0
            · have hf' : (f2 == 0) = true := by simpa using hf
              have HD : Hid (decide (e2 = 0 ∧ f2 = 0) = true) := decide_eq_true ⟨he, hf⟩
              subst he hf
              go_wp2_with fail
              go_meet
              exact ⟨by rw [HD.out], rfl⟩
            · have hf' : (f2 == 0) = false := by simpa using hf
              have HD : Hid (decide (e2 = 0 ∧ f2 = 0) = false) := decide_eq_false (fun q => hf q.2)
              subst he
              go_wp2_with fail
              go_meet
              exact ⟨by rw [HD.out], rfl⟩
          · have he' : (e2 == 0) = false := by simpa using he
            have HD : Hid (decide (e2 = 0 ∧ f2 = 0) = false) := decide_eq_false (fun q => he q.1)
            go_wp2_with fail
            go_meet
            exact ⟨by rw [HD.out], rfl⟩
        case rest =>
        obtain ⟨rfl, hwc⟩ := hcut
        obtain rfl := hwc.symm
        go_upto_if 94 with fail
        go_cut [11, 12, 15, 16, 17, 18, 19, 20] from 89 (fun t11 t12 t15 t16 t17 t18 t19 t20 wx => Below wy.heap.size wy wx)
        case first =>
          by_cases hee : e2 = 0 ∧ f2 = 0
          case neg =>
            rw [decide_eq_false hee]
            go_wp2_with fail
            go_meet
            exact HB9.out
          case pos =>
              rw [decide_eq_true hee]
              obtain ⟨rfl, rfl⟩ := hee
              have h1 := protect_last hp hq
              have h2 := protect_last hp hp
              have HM : Hid (May a2) := (prV_get hp).2.2.2.1
              have hl1 := HM.out.1
              have hl2 : d2.length ≤ 1024 := (prV_get hq).2.2.2.1.1
              have hz := HX.out w9 HB9.out
              obtain ⟨z1, z2⟩ := hz.s
              have z3 := hz.y.2.2
              clear hp hq
              clear hz
              go_wp2_with fail
              refine (CR'.out _ _ _ a2 ⟨HR8'.out _ (Below.refl _ _), l8, HM.out.wf⟩).mono ?_
              intro e wA hA
              rw [h1] at hA
              obtain ⟨bA, cA, rfl, rA, lA, kA⟩ := hA.read
              have HBA : Hid (Below wy.heap.size wy wA) := bs HB9.out kA
              have HRA : Hid (∀ W, Below wA.heap.size wA W → Rn W bA d2) := fun W q => rA.below q
              clear hA rA
              clear z1 z2 z3
              have hz := HX.out wA HBA.out
              obtain ⟨z1, z2⟩ := hz.s
              have z3 := hz.x.2.2
              clear hz
              go_wp2_with fail
              refine (CR.out _ _ _ a2 ⟨HR8'.out _ kA, l8, HM.out.wf⟩).mono ?_
              intro e wB hA
              rw [h2] at hA
              obtain ⟨bB, cB, rfl, rB, lB, kB⟩ := hA.read
              have HBB : Hid (Below wy.heap.size wy wB) := bs HBA.out kB
              have HRB : Hid (∀ W, Below wB.heap.size wB W → Rn W bB a2) := fun W q => rB.below q
              clear hA rB
              clear z1 z2 z3
              go_wp2_with fail
              refine (CS.out _ _ _ _ d2 _ hl2 (HRA.out _ kB) (HR9.out _ (bs kA kB))).mono ?_
              rintro e wC ⟨rfl, kC⟩
              have HBC : Hid (Below wy.heap.size wy wC) := bs HBB.out kC
              go_wp2_with fail
              refine (CS.out _ _ _ _ a2 _ hl1 (HRB.out _ kC) (HR8'.out _ (bs (bs kA kB) kC))).mono ?_
              rintro e wD ⟨rfl, kD⟩
              have HBD : Hid (Below wy.heap.size wy wD) := bs HBC.out kD
              clear kC kD
              go_wp2_with fail
              go_meet
              exact HBD.out
        case rest =>
          obtain ⟨wv, rfl⟩ : ∃ wv, wv = wc := ⟨_, rfl⟩
          have HB5 : Hid (Below wy.heap.size wy wv) := hcut
          clear hcut HB3 HB8 HB9 HR8' HR9 l8 l9 k8 k9 hp hq
          obtain ⟨a3, e3, hp⟩ : ∃ a3 e3, puV l ⟨p, n, m⟩ = (a3, e3) := ⟨_, _, rfl⟩
          obtain ⟨d3, f3, hq⟩ : ∃ d3 f3, puV l ⟨p', n', m'⟩ = (d3, f3) := ⟨_, _, rfl⟩
          have hz := HX.out wv HB5.out
          obtain ⟨z1, z2, z3⟩ := hz.r
          clear hz
          go_wp2_with fail
          refine (CP.out _ _ _ l (HLy.out _ HB5.out)).mono ?_
          intro e wE hA
          rw [hp] at hA
          obtain ⟨bE, cE, rfl, rE, lE, kE⟩ := hA.read
          have HBE : Hid (Below wy.heap.size wy wE) := bs HB5.out kE
          have HRE : Hid (∀ W, Below wE.heap.size wE W → Rn W bE a3) := fun W q => rE.below q
          clear hA rE
          clear z1 z2 z3
          have hz := HX.out wE HBE.out
          obtain ⟨z1, z2, z3⟩ := hz.q
          clear hz
          go_wp2_with fail
          refine (CP'.out _ _ _ l (HLy.out _ HBE.out)).mono ?_
          intro e wF hA
          rw [hq] at hA
          obtain ⟨bF, cF, rfl, rF, lF, kF⟩ := hA.read
          have HBF : Hid (Below wy.heap.size wy wF) := bs HBE.out kF
          have HRF : Hid (∀ W, Below wF.heap.size wF W → Rn W bF d3) := fun W q => rF.below q
          clear hA rF
          clear z1 z2 z3
          have HRE' : Hid (∀ W, Below wF.heap.size wF W → Rn W bE a3) := fun W q => HRE.out W (bs kF q)
          have HBf : Hid (Below w.heap.size w wF) := bs HB4.out HBF.out
          clear HRE kE kF
          by_cases he : e3 = 0
          case neg =>
            have he' : (e3 == 0) = false := by simpa using he
            go_wp2
            go_ret
            exact ⟨rfl, HBf.out⟩
          case pos =>
            subst he
            by_cases hf : f3 = 0
            case neg =>
              have hf' : (f3 == 0) = false := by simpa using hf
              go_wp2
              go_ret
              exact ⟨rfl, HBf.out⟩
            case pos =>
              subst hf
              have HO : Hid (pgs p n ∧ pgs p' n') := ⟨(puV_get hp).2.1.pg, (puV_get hq).2.1.pg⟩
              have HMa : Hid (May a3) := (puV_get hp).2.2.2.1
              have HMd : Hid (May d3) := (puV_get hq).2.2.2.1
              have hz := HX.out wF HBF.out
              obtain ⟨x0, x1, x2⟩ := hz.x
              obtain ⟨y0, y1, y2⟩ := hz.y
              have x3 := hz.x3
              have y3 := hz.y3
              clear hz
              go_wp2_with fail
              refine (CA.out _ HO.out.1 HO.out.2).mono ?_
              rintro e wG ⟨rfl, kG⟩
              have HBG : Hid (Below wy.heap.size wy wG) := bs HBF.out kG
              have HBg : Hid (Below w.heap.size w wG) := bs HB4.out HBG.out
              clear x0 x1 x2 x3 y0 y1 y2 y3
              by_cases hap : p + n ≤ p' ∨ p' + n' ≤ p
              case neg =>
                rw [decide_eq_false hap]
                go_wp2
                go_ret
                exact ⟨rfl, HBg.out⟩
              case pos =>
                rw [decide_eq_true hap]
                by_cases hlen : 900 < l.length
                case pos =>
                  have hd : decide ((900 : Int) < (l.length : Int)) = true := by simp; omega
                  go_wp2
                  go_ret
                  exact ⟨rfl, HBg.out⟩
                case neg =>
                  have hd : decide ((900 : Int) < (l.length : Int)) = false := by simp; omega
                  obtain ⟨c, q1, q2, q3, q4, q5, q6⟩ := put_both hp hq hap (by omega)
                  simp only at q3 q4 q5 q6
                  have HMc : Hid (May c) := (puV_get q1).2.2.2.1
                  have hlc := HMc.out.1
                  have hll : l.length ≤ 1024 := by omega
                  have HREg : Hid (∀ W, Below wG.heap.size wG W → Rn W bE a3) := fun W q => HRE'.out W (bs kG q)
                  have HRFg : Hid (∀ W, Below wG.heap.size wG W → Rn W bF d3) := fun W q => HRF.out W (bs kG q)
                  clear HRE' HRF kG hp hq hap HO
                  obtain ⟨z1, z2, z3⟩ := (HX.out wG HBG.out).q
                  skip
                  go_wp2_with fail
                  refine (CP'.out _ _ _ a3 ⟨HREg.out _ (Below.refl _ _), lE, HMa.out.wf⟩).mono ?_
                  intro e wH hA
                  rw [q1] at hA
                  obtain ⟨bH, cH, rfl, rH, lH, kH⟩ := hA.read
                  have HBH : Hid (Below wy.heap.size wy wH) := bs HBG.out kH
                  have HRH : Hid (∀ W, Below wH.heap.size wH W → Rn W bH c) := fun W q => rH.below q
                  clear hA rH
                  clear z1 z2 z3
                  obtain ⟨z1, z2, z3⟩ := (HX.out wH HBH.out).r
                  skip
                  go_wp2_with fail
                  refine (CP.out _ _ _ d3 ⟨HRFg.out _ kH, lF, HMd.out.wf⟩).mono ?_
                  intro e wI hA
                  rw [q2] at hA
                  obtain ⟨bI, cI, rfl, rI, lI, kI⟩ := hA.read
                  have HBI : Hid (Below wy.heap.size wy wI) := bs HBH.out kI
                  have HRI : Hid (∀ W, Below wI.heap.size wI W → Rn W bI c) := fun W q => rI.below q
                  clear hA rI
                  clear z1 z2 z3 HREg HRFg
                  go_wp2_with fail
                  refine (CS.out _ _ _ _ c _ hlc (HRH.out _ kI) (HRI.out _ (Below.refl _ _))).mono ?_
                  rintro e wJ ⟨rfl, kJ⟩
                  have HBJ : Hid (Below wy.heap.size wy wJ) := bs HBI.out kJ
                  have HRJ : Hid (∀ W, Below wJ.heap.size wJ W → Rn W bH c) := fun W q => HRH.out W (bs kI (bs kJ q))
                  clear HRH HRI kI kJ kH
                  obtain ⟨z1, z2⟩ := (HX.out wJ HBJ.out).s
                  skip
                  go_wp2_with fail
                  refine (CC.out _ _ _ c ⟨HRJ.out _ (Below.refl _ _), lH, HMc.out.wf⟩).mono ?_
                  intro e wK hA
                  rw [q3] at hA
                  obtain ⟨bK, cK, rfl, rK, lK, kK⟩ := hA.read
                  have HBK : Hid (Below wy.heap.size wy wK) := bs HBJ.out kK
                  have HRK : Hid (∀ W, Below wK.heap.size wK W → Rn W bK d3) := fun W q => rK.below q
                  clear hA rK
                  clear z1 z2
                  obtain ⟨z1, z2⟩ := (HX.out wK HBK.out).t
                  skip
                  go_wp2_with fail
                  refine (CC'.out _ _ _ c ⟨HRJ.out _ kK, lH, HMc.out.wf⟩).mono ?_
                  intro e wL hA
                  rw [q4] at hA
                  obtain ⟨bL, cL, rfl, rL, lL, kL⟩ := hA.read
                  have HBL : Hid (Below wy.heap.size wy wL) := bs HBK.out kL
                  have HRL : Hid (∀ W, Below wL.heap.size wL W → Rn W bL a3) := fun W q => rL.below q
                  clear hA rL
                  clear z1 z2
                  obtain ⟨z1, z2⟩ := (HX.out wL HBL.out).t
                  skip
                  go_wp2_with fail
                  refine (CC'.out _ _ _ d3 ⟨HRK.out _ kL, lK, HMd.out.wf⟩).mono ?_
                  intro e wM hA
                  rw [q6] at hA
                  obtain ⟨bM, cM, rfl, rM, lM, kM⟩ := hA.read
                  have HBM : Hid (Below wy.heap.size wy wM) := bs HBL.out kM
                  have HRM : Hid (∀ W, Below wM.heap.size wM W → Rn W bM l) := fun W q => rM.below q
                  clear hA rM
                  clear z1 z2
                  obtain ⟨z1, z2⟩ := (HX.out wM HBM.out).s
                  skip
                  go_wp2_with fail
                  refine (CC.out _ _ _ a3 ⟨HRL.out _ kM, lL, HMa.out.wf⟩).mono ?_
                  intro e wN hA
                  rw [q5] at hA
                  obtain ⟨bN, cN, rfl, rN, lN, kN⟩ := hA.read
                  have HBN : Hid (Below wy.heap.size wy wN) := bs HBM.out kN
                  have HRN : Hid (∀ W, Below wN.heap.size wN W → Rn W bN l) := fun W q => rN.below q
                  clear hA rN
                  clear z1 z2
                  go_wp2_with fail
                  refine (CS.out _ _ _ _ l _ hll (HRM.out _ kN) (HRN.out _ (Below.refl _ _))).mono ?_
                  rintro e wO ⟨rfl, kO⟩
                  have HBO : Hid (Below wy.heap.size wy wO) := bs HBN.out kO
                  go_wp2_with fail
                  refine (CS.out _ _ _ _ l _ hll (HRM.out _ (bs kN kO)) (HLy.out _ HBO.out).rn).mono ?_
                  rintro e wP ⟨rfl, kP⟩
                  have HBP : Hid (Below w.heap.size w wP) := bs HB4.out (bs HBO.out kP)
                  clear kO kP
                  go_wp2
                  go_ret
                  exact ⟨rfl, HBP.out⟩
end Go.Proofs.Ytmhfgfgiiinpjab.V
