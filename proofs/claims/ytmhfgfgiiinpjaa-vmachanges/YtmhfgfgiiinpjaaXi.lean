/- VmaChanges walked: Check, Put, Cut, Protect answer as the document's; what is handed in stays; no condition but the size of what can be handed in. -/
import Derived.Test.YtmhfgfgiiinpjaaXf
import Derived.Test.YtmhfgfgiiinpjaaXh
import Derived.Test.YtmhfgfgiiinpjaaWn
import Derived.Deep.DeepCutAuto
namespace Go.Proofs.Ytmhfgfgiiinpjaa.V
open Go.ChangeShapes Go.WideShapes Go.ChangeAt Go.RowKit
set_option linter.unusedVariables false
set_option maxRecDepth 8192

theorem ans_len (l : List Rg) : (ans l).1.length ≤ 1024 := by
  unfold ans
  split
  · exact Nat.zero_le _
  · show l.length ≤ 1024
    omega
theorem puV_1024 (l : List Rg) (r : Rg) : (puV l r).1.length ≤ 1024 := by
  unfold puV
  split
  · exact Nat.zero_le _
  · split
    · exact Nat.zero_le _
    · split
      · exact Nat.zero_le _
      · exact ans_len _
theorem cuV_1024 (l : List Rg) (s n : Int) : (cuV l s n).1.length ≤ 1024 := by
  unfold cuV
  split
  · exact Nat.zero_le _
  · split
    · exact Nat.zero_le _
    · exact ans_len _
theorem prV_1024 (l : List Rg) (s n m : Int) : (prV l s n m).1.length ≤ 1024 := by
  unfold prV
  split
  · exact Nat.zero_le _
  · split
    · exact Nat.zero_le _
    · split
      · exact Nat.zero_le _
      · exact ans_len _
/-- A region in a box, or an ask's first three cells; pages in a box. -/
def B3 (W : World) (b : Nat) (p n m : Int) : Prop := W.cell? ⟨b, 0, none⟩ = some (.int .i64 p) ∧ W.cell? ⟨b, 1, none⟩ = some (.int .i64 n) ∧ W.cell? ⟨b, 2, none⟩ = some (.int .u8 m)
def B2 (W : World) (b : Nat) (p n : Int) : Prop := W.cell? ⟨b, 0, none⟩ = some (.int .i64 p) ∧ W.cell? ⟨b, 1, none⟩ = some (.int .i64 n)
theorem cell_keep {W W' : World} (k : Below W.heap.size W W') {a : Addr} {v : Value} (h : W.cell? a = some v) : W'.cell? a = some v := (k.cell (World.block_lt_of_cell? W _ h)).trans h
theorem B3.below {W W' : World} {b : Nat} {p n m : Int} (h : B3 W b p n m) (k : Below W.heap.size W W') : B3 W' b p n m := ⟨cell_keep k h.1, cell_keep k h.2.1, cell_keep k h.2.2⟩
theorem B2.below {W W' : World} {b : Nat} {p n : Int} (h : B2 W b p n) (k : Below W.heap.size W W') : B2 W' b p n := ⟨cell_keep k h.1, cell_keep k h.2⟩
theorem two_a (w : World) (p n m : Int) : B3 ((w.alloc (.cells #[.int .i64 p, .int .i64 n, .int .u8 m] 29)).alloc (.cells #[.int .i64 p, .int .i64 n] 31)).drew w.heap.size p n m ∧ B2 ((w.alloc (.cells #[.int .i64 p, .int .i64 n, .int .u8 m] 29)).alloc (.cells #[.int .i64 p, .int .i64 n] 31)).drew (w.heap.size + 1) p n ∧ Below w.heap.size w ((w.alloc (.cells #[.int .i64 p, .int .i64 n, .int .u8 m] 29)).alloc (.cells #[.int .i64 p, .int .i64 n] 31)).drew := by
  have a (i) := cell_at w #[.int .i64 p, .int .i64 n, .int .u8 m] 29 ((below1 (w.alloc (.cells #[.int .i64 p, .int .i64 n, .int .u8 m] 29)) (.cells #[.int .i64 p, .int .i64 n] 31)).drew) i
  have b (i) := cell_at (w.alloc (.cells #[.int .i64 p, .int .i64 n, .int .u8 m] 29)) #[.int .i64 p, .int .i64 n] 31 ((Below.refl _ _).drew) i
  rw [World.size_alloc] at b
  exact ⟨⟨a 0, a 1, a 2⟩, ⟨b 0, b 1⟩, (below2 w _ _).drew⟩
theorem two_b (w : World) (p n m : Int) : B3 ((w.alloc (.cells #[.int .i64 p, .int .i64 n] 31)).alloc (.cells #[.int .i64 p, .int .i64 n, .int .u8 m] 29)).drew (w.heap.size + 1) p n m ∧ B2 ((w.alloc (.cells #[.int .i64 p, .int .i64 n] 31)).alloc (.cells #[.int .i64 p, .int .i64 n, .int .u8 m] 29)).drew w.heap.size p n ∧ Below w.heap.size w ((w.alloc (.cells #[.int .i64 p, .int .i64 n] 31)).alloc (.cells #[.int .i64 p, .int .i64 n, .int .u8 m] 29)).drew := by
  have a (i) := cell_at w #[.int .i64 p, .int .i64 n] 31 ((below1 (w.alloc (.cells #[.int .i64 p, .int .i64 n] 31)) (.cells #[.int .i64 p, .int .i64 n, .int .u8 m] 29)).drew) i
  have b (i) := cell_at (w.alloc (.cells #[.int .i64 p, .int .i64 n] 31)) #[.int .i64 p, .int .i64 n, .int .u8 m] 29 ((Below.refl _ _).drew) i
  rw [World.size_alloc] at b
  exact ⟨⟨b 0, b 1, b 2⟩, ⟨a 0, a 1⟩, (below2 w _ _).drew⟩
theorem Rn.head5 {w : World} {g : Nat} {l : List Rg} (h : Rn w (some ⟨g, 0, none⟩) (l ++ sp5)) : Rn w (some ⟨g, 0, none⟩) l := by
  have := h.take l.length
  rwa [List.take_left] at this
/-- What stays through the statement's calls. -/
structure Cs (W : World) (g c : Nat) (ao : Option Addr) (cap : Nat) (l : List Rg) (bx g6 g7 : Nat) (p n m : Int) : Prop where
  inn : Rn W (some ⟨g, 0, none⟩) (l ++ sp5)
  l : Ri W ao cap l
  x : B3 W bx p n m
  r : B3 W g6 p n m
  s : B2 W g7 p n
theorem Cs.below {W W' : World} {g c : Nat} {ao : Option Addr} {cap : Nat} {l : List Rg} {bx g6 g7 : Nat} {p n m : Int} (h : Cs W g c ao cap l bx g6 g7 p n m) (k : Below W.heap.size W W') : Cs W' g c ao cap l bx g6 g7 p n m := ⟨h.inn.below k, h.l.below k, h.x.below k, h.r.below k, h.s.below k⟩
theorem An.base {w w1 : World} {a : List Rg × Int} {e : Ending} {w' : World} (h : An w1 a e w') (k : Below w.heap.size w w1) : ∃ v, e = .returned (.tuple #[v, .int .i64 a.2]) ∧ Rw w' w.heap.size v a.1 ∧ Below w1.heap.size w1 w' := by
  obtain ⟨v, h1, h2, h3⟩ := h
  exact ⟨v, h1, h2.mono k.size, h3⟩
set_option maxHeartbeats 4000000 in
theorem changes_any {w : World} {ao : Option Addr} {cap : Nat} {l : List Rg} (h : Ri w ao cap l) (hl : l.length * 24 ≤ 140737488351232) (p n m a : Int) (hw : wfR ⟨p, n, m⟩) :
    Calls Try.prog 3 #[.slice ao l.length cap, .agg #[.int .i64 p, .int .i64 n, .int .u8 m, .int .i64 a]] w fun e w' => e = .returned (.bool true) ∧ Below w.heap.size w w' := by
  have CW : Hid (∀ W, Calls Try.prog 21 #[] W fun e w' => e = .returned (.bool true) ∧ Below W.heap.size W w') := works_ok
  have HB : Hid (∀ o : Obj, Below w.heap.size w (w.alloc o)) := fun o => below1 w o
  have HL : Hid (∀ W, Below w.heap.size w W → Ri W ao cap l) := fun W hW => h.below hW
  have hwf : Hid (∀ r ∈ l, wfR r) := h.wf
  have CSp : Hid (∀ W, Below w.heap.size w W → Calls Try.prog 9 #[.slice ao l.length cap] W fun e w' => ∃ g c, e = .returned (.slice (some ⟨g, 0, none⟩) l.length c) ∧ Rn w' (some ⟨g, 0, none⟩) (l ++ sp5) ∧ l.length + 5 ≤ c ∧ Below W.heap.size W w') := fun W hW => spare_ok (h.below hW).rn hl
  have CK : Hid (∀ W g c, Rn W (some ⟨g, 0, none⟩) (l ++ sp5) → l.length + 5 ≤ c → Rn W ao l → Calls Try.prog 20 #[.slice (some ⟨g, 0, none⟩) l.length c, .slice ao l.length cap] W fun e w' => e = .returned (.bool true) ∧ Below W.heap.size W w') := fun W g c h1 h2 h3 => kept_ok h1 h2 h3 (by omega)
  have CC : Hid (∀ W b c, Ri W b c l → Calls Try.prog 10 #[.slice b l.length c] W fun e w' => e = .returned (.int .i64 (chk l)) ∧ Below W.heap.size W w') := fun W b c hk => hk.check
  have CCr : Hid (∀ W b c, Ri W b c l → Calls Try.prog 11 #[.slice b l.length c] W fun e w' => e = .returned (.int .i64 (chk l)) ∧ Below W.heap.size W w') := fun W b c hk => hk.check_r
  have CP : Hid (∀ W b c, Ri W b c l → Calls Try.prog 12 #[.slice b l.length c, .agg #[.int .i64 p, .int .i64 n, .int .u8 m]] W (An W (puV l ⟨p, n, m⟩))) := fun W b c hk => Put_ok hk ⟨p, n, m⟩ hw
  have CPr : Hid (∀ W b c, Ri W b c l → Calls Try.prog 13 #[.slice b l.length c, .agg #[.int .i64 p, .int .i64 n, .int .u8 m]] W (An W (puV l ⟨p, n, m⟩))) := fun W b c hk => Put_r hk ⟨p, n, m⟩ hw
  have CT : Hid (∀ W b c, Ri W b c l → Calls Try.prog 16 #[.slice b l.length c, .agg #[.int .i64 p, .int .i64 n]] W (An W (cuV l p n))) := fun W b c hk => Cut_ok hk p n hw.1
  have CTr : Hid (∀ W b c, Ri W b c l → Calls Try.prog 17 #[.slice b l.length c, .agg #[.int .i64 p, .int .i64 n]] W (An W (cuV l p n))) := fun W b c hk => Cut_r hk p n hw.1
  have CR : Hid (∀ W b c, Ri W b c l → Calls Try.prog 18 #[.slice b l.length c, .agg #[.int .i64 p, .int .i64 n], .int .u8 m] W (An W (prV l p n m))) := fun W b c hk => Protect_ok hk p n m hw
  have CRr : Hid (∀ W b c, Ri W b c l → Calls Try.prog 19 #[.slice b l.length c, .agg #[.int .i64 p, .int .i64 n], .int .u8 m] W (An W (prV l p n m))) := fun W b c hk => Protect_r hk p n m hw
  have CS : Hid (∀ W b c d (k : List Rg) (g : Nat), k.length ≤ 1024 → Rn W b k → Rn W d k → Calls Try.prog 14 #[.slice b k.length c, .slice d k.length g] W fun e w' => e = .returned (.bool true) ∧ Below W.heap.size W w') := fun W b c d k g hl h1 h2 => by
    have := same_ok (ca := c) (cb := g) h1 h2 (by omega)
    rw [decide_eq_true rfl] at this
    exact this
  have CSp2 : Hid (∀ W v B (k : List Rg), Rw W B v k → B ≤ W.heap.size → k.length ≤ 1024 → Calls Try.prog 15 #[v] W fun e w' => e = .returned (.tuple #[]) ∧ Below B W w') := fun W v B k h1 h2 h3 => spoil_ok h1 h2 h3
  have hp1 : (puV l ⟨p, n, m⟩).1.length ≤ 1024 := puV_1024 _ _
  have hp2 : (cuV l p n).1.length ≤ 1024 := cuV_1024 _ _ _
  have hp3 : (prV l p n m).1.length ≤ 1024 := prV_1024 _ _ _ _
  clear h hl hw
  generalize puV l ⟨p, n, m⟩ = A1 at *
  generalize cuV l p n = A2 at *
  generalize prV l p n m = A3 at *
  obtain ⟨a1, x1⟩ := A1
  obtain ⟨a2, x2⟩ := A2
  obtain ⟨a3, x3⟩ := A3
  simp only at hp1 hp2 hp3
  generalize chk l = cc at *
  go_enter Try.func3, Try.ntmps3
  go_wp2_with fail
  refine (CSp.out _ (HB.out _)).mono ?_
  rintro e w1 ⟨g, c, rfl, r1, hc5, b1⟩
  have z (i) := cell_at w #[.int .i64 p, .int .i64 n, .int .u8 m, .int .i64 a] 24 b1 i
  have HX1 : Hid (∀ W, Below w1.heap.size w1 W → Rn W (some ⟨g, 0, none⟩) (l ++ sp5) ∧ B3 W w.heap.size p n m) := fun W q => ⟨r1.below q, B3.below (W := w1) (b := w.heap.size) ⟨z 0, z 1, z 2⟩ q⟩
  have HB1 : Hid (Below w.heap.size w w1) := bs (HB.out _) b1
  clear r1 b1 z
  go_wp2_with fail
  refine (CC.out _ _ _ ⟨(HX1.out _ (Below.refl _ _)).1.head5, by omega, hwf.out⟩).mono ?_
  rintro e w2 ⟨rfl, b2⟩
  have HB2 : Hid (Below w1.heap.size w1 w2) := b2
  clear b2
  go_wp2_with fail
  refine (CCr.out _ _ _ (HL.out _ (bs HB1.out HB2.out))).mono ?_
  rintro e w3 ⟨rfl, b3⟩
  have HB3 : Hid (Below w1.heap.size w1 w3) := bs HB2.out b3
  clear b3
  have hS1 := (HX1.out w3 HB3.out).2
  unfold B3 at hS1
  have HS1 : Hid (∀ W, Below w3.heap.size w3 W → B3 W w.heap.size p n m) := fun W q => (HX1.out W (bs HB3.out q)).2
  go_upto_region 4 with fail
  go_cut [6, 7] from 19 (fun t6 t7 wx => ∃ g6 g7, t6 = .pointer (some ⟨g6, 0, none⟩) ∧ t7 = .pointer (some ⟨g7, 0, none⟩) ∧ B3 wx g6 p n m ∧ B2 wx g7 p n ∧ Below w3.heap.size w3 wx)
  case first =>
    go_region_held3 (fun W => W.cell? ⟨w.heap.size, 0, none⟩ = some (.int .i64 p) ∧ W.cell? ⟨w.heap.size, 1, none⟩ = some (.int .i64 n) ∧ W.cell? ⟨w.heap.size, 2, none⟩ = some (.int .u8 m)) (first | exact hS1 | exact HS1.out _ ((below1 _ _)) | exact HS1.out _ ((below1 _ _).drew) | exact HS1.out _ ((below2 _ _ _)) | exact HS1.out _ ((below2 _ _ _).drew)) (fail)
    all_goals (go_wp2_with fail; go_meet)
    all_goals first
      | exact ⟨_, _, rfl, rfl, (two_a w3 p n m).1, (two_a w3 p n m).2.1, (two_a w3 p n m).2.2⟩
      | exact ⟨_, _, rfl, rfl, (two_b w3 p n m).1, (two_b w3 p n m).2.1, (two_b w3 p n m).2.2⟩
  case rest =>
    obtain ⟨wz, rfl⟩ : ∃ wz, wz = wc := ⟨_, rfl⟩
    obtain ⟨g6, g7, rfl, rfl, q6, q7, b4⟩ := hcut
    have HX : Hid (∀ W, Below wz.heap.size wz W → Cs W g c ao cap l w.heap.size g6 g7 p n m) := fun W q => Cs.below ⟨(HX1.out _ (bs HB3.out b4)).1, HL.out _ (bs HB1.out (bs HB3.out b4)), (HX1.out _ (bs HB3.out b4)).2, q6, q7⟩ q
    have HBz : Hid (Below w.heap.size w wz) := bs HB1.out (bs HB3.out b4)
    have HIn : Hid (∀ W, Below wz.heap.size wz W → Ri W (some ⟨g, 0, none⟩) c l) := fun W q => ⟨(HX.out W q).inn.head5, by omega, hwf.out⟩
    have HBs : Hid (Below wz.heap.size wz wz) := Below.refl _ _
    clear hS1 HS1 q6 q7 b4 HB2 HB3 HB1 HX1 HL
    have hz := HX.out wz HBs.out
    obtain ⟨z0, z1, z2⟩ := hz.r
    clear hz
    go_wp2_with fail
    refine (CP.out _ _ _ (HIn.out _ HBs.out)).mono ?_
    intro e u1 hA
    obtain ⟨va1, rfl, r1, k1⟩ := hA.base HBs.out
    obtain ⟨aa1, ca1, rfl, rn1⟩ := r1.as
    have HBa1 : Hid (Below wz.heap.size wz u1) := bs HBs.out k1
    have HRw1 : Hid (∀ W, Below u1.heap.size u1 W → Rw W wz.heap.size (.slice aa1 a1.length ca1) a1) := fun W q => r1.below q
    have HRn1 : Hid (∀ W, Below u1.heap.size u1 W → Rn W aa1 a1) := fun W q => rn1.below q
    clear hA r1 k1 rn1 z0 z1 z2
    have hz := HX.out u1 HBa1.out
    obtain ⟨z0, z1, z2⟩ := hz.r
    clear hz
    go_wp2_with fail
    refine (CPr.out _ _ _ (HX.out u1 HBa1.out).l).mono ?_
    intro e y1 hA
    obtain ⟨vb1, rfl, r1, k1⟩ := hA.base HBa1.out
    obtain ⟨ab1, cb1, rfl, rn1⟩ := r1.as
    have HBb1 : Hid (Below wz.heap.size wz y1) := bs HBa1.out k1
    clear z0 z1 z2
    go_wp2_with fail
    refine (CS.out _ _ _ _ a1 _ hp1 (HRn1.out _ k1) rn1).mono ?_
    rintro e t1 ⟨rfl, kk1⟩
    have HBc1 : Hid (Below wz.heap.size wz t1) := bs HBb1.out kk1
    have HRv1 : Hid (Rw t1 wz.heap.size (.slice aa1 a1.length ca1) a1) := HRw1.out _ (bs k1 kk1)
    clear hA r1 k1 kk1 rn1 HRw1 HRn1
    go_wp2_with fail
    refine (CSp2.out _ _ _ a1 HRv1.out HBc1.out.size hp1).mono ?_
    rintro e o1 ⟨rfl, kk1⟩
    have HBs1 : Hid (Below wz.heap.size wz o1) := HBc1.out.trans kk1
    clear kk1 HRv1 HBc1 HBb1 HBa1
    have hz := HX.out o1 HBs1.out
    obtain ⟨z0, z1⟩ := hz.s
    clear hz
    go_wp2_with fail
    refine (CT.out _ _ _ (HIn.out _ HBs1.out)).mono ?_
    intro e u2 hA
    obtain ⟨va2, rfl, r2, k2⟩ := hA.base HBs1.out
    obtain ⟨aa2, ca2, rfl, rn2⟩ := r2.as
    have HBa2 : Hid (Below wz.heap.size wz u2) := bs HBs1.out k2
    have HRw2 : Hid (∀ W, Below u2.heap.size u2 W → Rw W wz.heap.size (.slice aa2 a2.length ca2) a2) := fun W q => r2.below q
    have HRn2 : Hid (∀ W, Below u2.heap.size u2 W → Rn W aa2 a2) := fun W q => rn2.below q
    clear hA r2 k2 rn2 z0 z1
    have hz := HX.out u2 HBa2.out
    obtain ⟨z0, z1⟩ := hz.s
    clear hz
    go_wp2_with fail
    refine (CTr.out _ _ _ (HX.out u2 HBa2.out).l).mono ?_
    intro e y2 hA
    obtain ⟨vb2, rfl, r2, k2⟩ := hA.base HBa2.out
    obtain ⟨ab2, cb2, rfl, rn2⟩ := r2.as
    have HBb2 : Hid (Below wz.heap.size wz y2) := bs HBa2.out k2
    clear z0 z1
    go_wp2_with fail
    refine (CS.out _ _ _ _ a2 _ hp2 (HRn2.out _ k2) rn2).mono ?_
    rintro e t2 ⟨rfl, kk2⟩
    have HBc2 : Hid (Below wz.heap.size wz t2) := bs HBb2.out kk2
    have HRv2 : Hid (Rw t2 wz.heap.size (.slice aa2 a2.length ca2) a2) := HRw2.out _ (bs k2 kk2)
    clear hA r2 k2 kk2 rn2 HRw2 HRn2
    go_wp2_with fail
    refine (CSp2.out _ _ _ a2 HRv2.out HBc2.out.size hp2).mono ?_
    rintro e o2 ⟨rfl, kk2⟩
    have HBs2 : Hid (Below wz.heap.size wz o2) := HBc2.out.trans kk2
    clear kk2 HRv2 HBc2 HBb2 HBa2
    have hz := HX.out o2 HBs2.out
    obtain ⟨z0, z1⟩ := hz.s
    have z2 := hz.x.2.2
    clear hz
    go_wp2_with fail
    refine (CR.out _ _ _ (HIn.out _ HBs2.out)).mono ?_
    intro e u3 hA
    obtain ⟨va3, rfl, r3, k3⟩ := hA.base HBs2.out
    obtain ⟨aa3, ca3, rfl, rn3⟩ := r3.as
    have HBa3 : Hid (Below wz.heap.size wz u3) := bs HBs2.out k3
    have HRw3 : Hid (∀ W, Below u3.heap.size u3 W → Rw W wz.heap.size (.slice aa3 a3.length ca3) a3) := fun W q => r3.below q
    have HRn3 : Hid (∀ W, Below u3.heap.size u3 W → Rn W aa3 a3) := fun W q => rn3.below q
    clear hA r3 k3 rn3 z0 z1 z2
    have hz := HX.out u3 HBa3.out
    obtain ⟨z0, z1⟩ := hz.s
    have z2 := hz.x.2.2
    clear hz
    go_wp2_with fail
    refine (CRr.out _ _ _ (HX.out u3 HBa3.out).l).mono ?_
    intro e y3 hA
    obtain ⟨vb3, rfl, r3, k3⟩ := hA.base HBa3.out
    obtain ⟨ab3, cb3, rfl, rn3⟩ := r3.as
    have HBb3 : Hid (Below wz.heap.size wz y3) := bs HBa3.out k3
    clear z0 z1 z2
    go_wp2_with fail
    refine (CS.out _ _ _ _ a3 _ hp3 (HRn3.out _ k3) rn3).mono ?_
    rintro e t3 ⟨rfl, kk3⟩
    have HBc3 : Hid (Below wz.heap.size wz t3) := bs HBb3.out kk3
    have HRv3 : Hid (Rw t3 wz.heap.size (.slice aa3 a3.length ca3) a3) := HRw3.out _ (bs k3 kk3)
    clear hA r3 k3 kk3 rn3 HRw3 HRn3
    go_wp2_with fail
    refine (CSp2.out _ _ _ a3 HRv3.out HBc3.out.size hp3).mono ?_
    rintro e o3 ⟨rfl, kk3⟩
    have HBs3 : Hid (Below wz.heap.size wz o3) := HBc3.out.trans kk3
    clear kk3 HRv3 HBc3 HBb3 HBa3
    go_wp2_with fail
    refine (CK.out _ _ _ (HX.out _ HBs3.out).inn hc5 (HX.out _ HBs3.out).l.rn).mono ?_
    rintro e wA ⟨rfl, kA⟩
    have HBA : Hid (Below wz.heap.size wz wA) := bs HBs3.out kA
    clear kA
    go_wp2_with fail
    refine (CW.out _).mono ?_
    rintro e wB ⟨rfl, kB⟩
    have HBB : Hid (Below w.heap.size w wB) := bs HBz.out (bs HBA.out kB)
    clear kB
    go_wp2
    go_ret
    exact ⟨rfl, HBB.out⟩
end Go.Proofs.Ytmhfgfgiiinpjaa.V
