/- done: one call, done to both rings; no condition but both rings of one row, and a call that can be read. -/
import Derived.Test.YtimeoinmepfpnaaTa
namespace Go.Proofs.Ytimeoinmepfpnaa.Ri
open Go.ChangeShapes Go.WideShapes Go.ChangeAt Go.RowKit
set_option linter.unusedVariables false
set_option maxRecDepth 8192

set_option maxHeartbeats 4000000 in
theorem done_ok {B0 : Nat} {w : World} {p g s : Nat} {v : Value} {L : List Int} (h : Wn B0 w p g s v L) (y : Dv) (hy : Dok B0 w y) :
    Calls Try.prog 12 #[.pointer (some ⟨p, 0, none⟩), .pointer (some ⟨s, 0, none⟩), .agg #[.int .i64 y.k, .int .i64 y.id, .slice y.ao y.T.length y.cap, .bool y.rest]] w fun e w' => Dn B0 w p s e w' := by
  have hmf : ∀ (fn : Fn) (first cap : Array Value) (w : World), (Instr.makeFunc fn first cap).run Try.prog w = .ok (.func fn first cap) w := fun _ _ _ _ => rfl
  have CK : Hid (∀ w, Calls Try.prog 17 #[.int .i64 y.k, .int .i64 3] w fun e w' => e = .returned (.int .i64 (y.k % 3)) ∧ w' = w) := fun w => Within_any y.k 3 (by omega) (by omega) hy.k0 hy.k1 w
  obtain ⟨w0, hw0⟩ : ∃ w0, w0 = w.alloc (.cells #[.int .i64 y.k, .int .i64 y.id, .slice y.ao y.T.length y.cap, .bool y.rest] 32) := ⟨_, rfl⟩
  have hb0 : Below w.heap.size w w0 := by rw [hw0]; exact below1 _ _
  have HX0 : Hid (Below w.heap.size w w0) := hb0
  have HX : Hid (Blk w0 w.heap.size 32 [.int .i64 y.k, .int .i64 y.id, .slice y.ao y.T.length y.cap, .bool y.rest]) := by rw [hw0]; exact blk_new w [_, _, _, _] 32
  have HW : Hid (Wn B0 w0 p g s v L) := h.below hb0
  have HY : Hid (Dok B0 w0 y) := hy.below (hb0.mono h.b0)
  have HB : Hid (Below B0 w w0) := hb0.mono h.b0
  have x0 : w0.cell? ⟨w.heap.size, 0, none⟩ = some (.int .i64 y.k) := HX.out.cell 0
  have x1 : w0.cell? ⟨w.heap.size, 1, none⟩ = some (.int .i64 y.id) := HX.out.cell 1
  have x2 : w0.cell? ⟨w.heap.size, 2, none⟩ = some (.slice y.ao y.T.length y.cap) := HX.out.cell 2
  have x3 : w0.cell? ⟨w.heap.size, 3, none⟩ = some (.bool y.rest) := HX.out.cell 3
  have hbx : w.heap.size < w0.heap.size := HX.out.lt
  have HH : Hid (Wn B0 w p g s v L) := h
  have hfx : Hid (w.heap.size ≠ p ∧ w.heap.size ≠ g ∧ ∀ i, Sv s v i → i ≠ w.heap.size) := ⟨by have := h.rx.pl; omega, by have := h.rx.gl; omega, fun i hi => by have := h.rr.lt i hi; omega⟩
  have hk : y.k % 3 = 0 ∨ y.k % 3 = 1 ∨ y.k % 3 = 2 := by omega
  -- Add, Remove
  have A1 : Hid (∀ W, Below w0.heap.size w0 W → Calls Try.prog 10 #[.pointer (some ⟨p, 0, none⟩), .int .i64 y.id] W fun e w1 => ∃ L1 er, e = .returned (.int .i64 er) ∧ AdS L y.id L1 er ∧ Tn W p g L1 w1 ∧ Below w0.heap.size w0 W) := fun W hW => (Add_ok (HW.out.rx.below hW) y.id hy.i1).mono fun e w1 ⟨L1, er, a, b, c⟩ => ⟨L1, er, a, b, c, hW⟩
  have A2 : Hid (∀ W w1 L1 er, (AdS L y.id L1 er ∧ Tn W p g L1 w1 ∧ Below w0.heap.size w0 W) → Calls Try.prog 11 #[.pointer (some ⟨s, 0, none⟩), .int .i64 y.id] w1 fun e w2 => e = .returned (.int .i64 er) ∧ ∃ g' v', Wn B0 w2 p g' s v' L1 ∧ Below B0 W w2 ∧ w2.cell? ⟨w.heap.size, 1, none⟩ = some (.int .i64 y.id)) := fun W w1 L1 er ⟨ha, ht, hW⟩ => (rAdd_ok ((HW.out.below hW).mid ht) y.id hy.i1).mono fun e w2 ⟨L2, e2, a, b, c⟩ => by
    obtain ⟨rfl, rfl⟩ := ha.uniq b
    obtain ⟨g', v', q1, q2⟩ := (HW.out.below hW).both ht (Below.refl _ _) c
    exact ⟨a, g', v', q1, (HW.out.below hW).ch_to q2, ((HX.out.below hW).ch q2 (fun q => by rcases q with (q | q) | q; exact hfx.out.1 q; exact hfx.out.2.1 q; exact hfx.out.2.2 _ q rfl)).cell 1⟩
  have B1 : Hid (∀ W, Below w0.heap.size w0 W → Calls Try.prog 20 #[.pointer (some ⟨p, 0, none⟩), .int .i64 y.id] W fun e w1 => ∃ L1 er, e = .returned (.int .i64 er) ∧ RmS L y.id L1 er ∧ Tn W p g L1 w1 ∧ Below w0.heap.size w0 W) := fun W hW => (Remove_ok (HW.out.rx.below hW) y.id).mono fun e w1 ⟨L1, er, a, b, c⟩ => ⟨L1, er, a, b, c, hW⟩
  have B2 : Hid (∀ W w1 L1 er, (RmS L y.id L1 er ∧ Tn W p g L1 w1 ∧ Below w0.heap.size w0 W) → Calls Try.prog 30 #[.pointer (some ⟨s, 0, none⟩), .int .i64 y.id] w1 fun e w2 => e = .returned (.int .i64 er) ∧ ∃ g' v', Wn B0 w2 p g' s v' L1 ∧ Below B0 W w2 ∧ w2.cell? ⟨w.heap.size, 1, none⟩ = some (.int .i64 y.id)) := fun W w1 L1 er ⟨ha, ht, hW⟩ => (rRemove_ok ((HW.out.below hW).mid ht) y.id).mono fun e w2 ⟨L2, e2, a, b, c⟩ => by
    obtain ⟨rfl, rfl⟩ := ha.uniq b
    obtain ⟨g', v', q1, q2⟩ := (HW.out.below hW).both ht (Below.refl _ _) c
    exact ⟨a, g', v', q1, (HW.out.below hW).ch_to q2, ((HX.out.below hW).ch q2 (fun q => by rcases q with (q | q) | q; exact hfx.out.1 q; exact hfx.out.2.1 q; exact hfx.out.2.2 _ q rfl)).cell 1⟩
  have KX : Hid (∀ W L1 w1, Tn W p g L1 w1 → Below w0.heap.size w0 W → w1.cell? ⟨w.heap.size, 1, none⟩ = some (.int .i64 y.id)) := fun W L1 w1 ⟨g', _, k, _⟩ hW => ((HX.out.below hW).ch k (fun q => by rcases q with q | q; exact hfx.out.1 q; exact hfx.out.2.1 q)).cell 1
  have HDN : Hid (∀ W w2 g' v' L1, Below w0.heap.size w0 W → Wn B0 w2 p g' s v' L1 → Below B0 W w2 → ∃ g' v' L', Wn B0 w2 p g' s v' L' ∧ Below B0 w w2) := fun W w2 g' v' L1 hW q1 q2 => ⟨g', v', L1, q1, (HB.out.trans (hW.mono HW.out.b0)).trans q2⟩
  have HW0 : Hid (w0 = w.alloc (.cells #[.int .i64 y.k, .int .i64 y.id, .slice y.ao y.T.length y.cap, .bool y.rest] 32)) := hw0
  clear h hy hb0 hw0
  rcases hk with hk | hk | hk
  · go_enter Try.func12, Try.ntmps12
    go_wp2_with fail
    rw [← HW0.out]
    refine (CK.out _).mono ?_
    rintro e w' ⟨rfl, hw⟩
    obtain rfl := hw.symm
    rw [hk]
    go_wp2_with fail
    go_region_held3 (fun W => W.cell? ⟨w.heap.size, 1, none⟩ = some (.int .i64 y.id)) (first | exact x1 | exact cx1 | exact cx2 | go_keep)
      ((first | (go_at_call 10; refine (A1.out _ (by first | exact (Below.refl _ _).drew | exact Below.refl _ _)).mono ?_; rintro e w1 ⟨L1, er, rfl, hp⟩; have HP : Hid _ := hp; have cx1 : w1.cell? ⟨w.heap.size, 1, none⟩ = some (.int .i64 y.id) := KX.out _ _ _ hp.2.1 hp.2.2; clear hp) | (go_at_call 11; refine (A2.out _ _ _ _ HP.out).mono ?_; rintro e w2 ⟨rfl, g', v', q1, q2, cx2⟩; have HQ : Hid _ := HDN.out _ _ _ _ _ HP.out.2.2 q1 q2; clear q1 q2)))
    go_wp2
    go_ret
    exact ⟨rfl, HQ.out⟩
  · go_enter Try.func12, Try.ntmps12
    go_wp2_with fail
    rw [← HW0.out]
    refine (CK.out _).mono ?_
    rintro e w' ⟨rfl, hw⟩
    obtain rfl := hw.symm
    rw [hk]
    go_wp2_with fail
    go_region_held3 (fun W => W.cell? ⟨w.heap.size, 1, none⟩ = some (.int .i64 y.id)) (first | exact x1 | exact cx1 | exact cx2 | go_keep)
      ((first | (go_at_call 20; refine (B1.out _ (by first | exact (Below.refl _ _).drew | exact Below.refl _ _)).mono ?_; rintro e w1 ⟨L1, er, rfl, hp⟩; have HP : Hid _ := hp; have cx1 : w1.cell? ⟨w.heap.size, 1, none⟩ = some (.int .i64 y.id) := KX.out _ _ _ hp.2.1 hp.2.2; clear hp) | (go_at_call 30; refine (B2.out _ _ _ _ HP.out).mono ?_; rintro e w2 ⟨rfl, g', v', q1, q2, cx2⟩; have HQ : Hid _ := HDN.out _ _ _ _ _ HP.out.2.2 q1 q2; clear q1 q2)))
    go_wp2
    go_ret
    exact ⟨rfl, HQ.out⟩
  · go_enter Try.func12, Try.ntmps12
    go_wp2_with fail
    rw [← HW0.out]
    refine (CK.out _).mono ?_
    rintro e w' ⟨rfl, hw⟩
    obtain rfl := hw.symm
    rw [hk]
    clear A1 A2 B1 B2 KX HDN
    go_wp2_with fail
    obtain ⟨w1, hw1⟩ : ∃ w1, w1 = w0.alloc (.cells #[.int .i64 y.k, .int .i64 y.id, .slice y.ao y.T.length y.cap, .bool y.rest, .slice none 0 0] 50) := ⟨_, rfl⟩
    have HW1 : Hid (w1 = w0.alloc (.cells #[.int .i64 y.k, .int .i64 y.id, .slice y.ao y.T.length y.cap, .bool y.rest, .slice none 0 0] 50)) := hw1
    have hb1 : Below w0.heap.size w0 w1 := by rw [hw1]; exact below1 _ _
    have hB0 := HW.out.b0
    have hak : Ak B0 w1.heap.size w0.heap.size y w1 [] := by
      refine ⟨⟨.slice none 0 0, by rw [hw1]; exact blk_new w0 [_, _, _, _, _] 50, Own.nil _, fun z q => by cases q⟩, HY.out.bs.below (hb1.mono hB0)⟩
    have ha1 : w0.heap.size < w1.heap.size := by rw [hw1]; simp
    have hpw := HW.out.rx.pl
    have hgw := HW.out.rx.gl
    have U := us_asked B0 w1.heap.size w0.heap.size p y HY.out.le (by omega) hB0 HW.out.bp (by omega) ha1
    have CN0 := Next_z U rfl (HW.out.rx.below hb1) hak (by omega) (by omega) y.id
    obtain ⟨R, hR⟩ : ∃ R, R = nxt (tell y.T y.rest) y.id L [] := ⟨_, rfl⟩
    obtain ⟨idv, hid⟩ : ∃ i : Int, i = R.1.getD 0 := ⟨_, rfl⟩
    obtain ⟨kv, hkv⟩ : ∃ i : Int, i = (R.2.1 : Nat) := ⟨_, rfl⟩
    obtain ⟨erv, her⟩ : ∃ i : Int, i = (if R.1.isSome then 0 else 190) := ⟨_, rfl⟩
    have HRL : Hid (R.2.2.2.length ≤ 100000) := by
      have := nx_len (bits := y.T) (rest := y.rest) (pin := y.id) (2 * L.length + 1) L [] 0
      have hl := HW.out.rx.ok.le
      rw [hR]
      unfold Hid nxt
      simp only [List.length_nil] at this
      omega
    rw [← hR] at CN0
    have HRN : Hid (∀ W, Rr W s v L → Bs B0 W y.ao y.T → B0 ≤ W.heap.size → Calls Try.prog 31 #[.pointer (some ⟨s, 0, none⟩), .int .i64 y.id, .slice y.ao y.T.length y.cap, .bool y.rest] W fun e w' => ∃ va, e = .returned (.tuple #[.int .i64 idv, .int .i64 kv, va, .int .i64 erv]) ∧ Own w' va R.2.2.2 ∧ Tr W s v R.2.2.1 w') := fun W q1 q2 q3 => by
      have := rNext_ok q1 y.id q2 HY.out.le (cap := y.cap) (rest := y.rest) q3 HW.out.bv
      rw [← hR] at this
      unfold RN at this
      rw [hid, hkv, her]
      exact this
    have CN : Hid (Calls Try.prog 18 #[.pointer (some ⟨p, 0, none⟩), .int .i64 y.id, .func (.func 21) #[.pointer (some ⟨w0.heap.size, 0, none⟩)] #[]] w1 fun e w' => e = .returned (.tuple #[.int .i64 idv, .int .i64 kv, .int .i64 erv]) ∧ Nx R (fun w l => Ak B0 w1.heap.size w0.heap.size y w l) (fun k => k = w0.heap.size) p g w1.heap.size w1 w') := by
      rw [hid, hkv, her]
      exact CN0
    have HB1 : Hid (Below w0.heap.size w0 w1) := hb1
    clear CN0 hR U hak hb1 hw1 hid hkv her
    rw [← HW1.out]
    go_wp2_with fail
    refine CN.out.mono ?_
    rintro e w2 ⟨rfl, x2', ak2, c2⟩
    have rr2 : Rr w2 s v L := (HW.out.rr.below HB1.out).ch c2 (fun i hi q => by have := HW.out.ap i hi; have := HW.out.rr.lt i hi; rcases q with q | q | q <;> omega)
    have CR : Hid (Calls _ _ _ _ _) := HRN.out w2 rr2 ak2.2 (by have := c2.size; omega)
    have H2 : Hid (Rx w2 p g R.2.2.1 ∧ Ak B0 w1.heap.size w0.heap.size y w2 R.2.2.2 ∧ Ch (fun k => k = p ∨ k = w0.heap.size ∨ w1.heap.size ≤ k) w1 w2) := ⟨x2', ak2, c2⟩
    have d1 : w2.cell? ⟨w.heap.size, 1, none⟩ = some (.int .i64 y.id) := ((HX.out.below HB1.out).ch c2 (fun q => by have := hfx.out; rcases q with q | q | q <;> omega)).cell 1
    have d2 : w2.cell? ⟨w.heap.size, 2, none⟩ = some (.slice y.ao y.T.length y.cap) := ((HX.out.below HB1.out).ch c2 (fun q => by have := hfx.out; rcases q with q | q | q <;> omega)).cell 2
    have d3 : w2.cell? ⟨w.heap.size, 3, none⟩ = some (.bool y.rest) := ((HX.out.below HB1.out).ch c2 (fun q => by have := hfx.out; rcases q with q | q | q <;> omega)).cell 3
    clear CN x2' ak2 c2 rr2 HRN
    go_wp2_with fail
    refine CR.out.mono ?_
    rintro e w3 ⟨va, rfl, o3, t3⟩
    have HO : Hid (Own w3 va R.2.2.2) := o3
    have hTn : Tn w p g R.2.2.1 w2 := ⟨g, H2.out.1, ((Ch.below ((HX0.out.trans (HB1.out.mono HX0.out.size))) : Ch (Two p g) w w1).trans H2.out.2.2 (fun _ q => q) (fun i q => by rcases q with q | q | q; exact Or.inl (Or.inl q); exact Or.inr (by have := HX0.out.size; omega); exact Or.inr (by have := HX0.out.size; have := HB1.out.size; omega))), Or.inl rfl⟩
    obtain ⟨v3, r3, k3, n3⟩ := id t3
    obtain ⟨⟨u2, b2, o2, n2⟩, _⟩ := H2.out.2.1
    have hsv := HW.out.rr.lt
    have hszz := HB1.out.size
    have d4 : w3.cell? ⟨w0.heap.size, 4, none⟩ = some u2 := (b2.ch k3 (fun q => by have := hsv _ q; omega)).cell 4
    have HO2 : Hid (Own w3 u2 R.2.2.2) := o2.ch k3 (fun z hz q => by have := n2 z hz; have := hsv z q; omega)
    obtain ⟨g4, v4, q1, q2⟩ := HH.out.both hTn (Below.refl _ _) t3
    have HQ : Hid (∃ g' v' L', Wn B0 w3 p g' s v' L' ∧ Below B0 w w3) := ⟨g4, v4, _, q1, HH.out.ch_to q2⟩
    have CE : Hid (Calls _ _ _ _ _) := EqInts_any HRL.out HO2.out.lst HO.out.lst
    clear CR o3 hTn r3 k3 n3 b2 o2 n2 q1 q2 t3 hsv
    go_wp2_with fail
    refine CE.out.mono ?_
    rintro e w4 ⟨rfl, b4⟩
    obtain ⟨g5, v5, L5, q1, q2⟩ := HQ.out
    have HQ4 : Hid (∃ g' v' L', Wn B0 w4 p g' s v' L' ∧ Below B0 w w4) := ⟨g5, v5, L5, q1.below b4, q2.trans (b4.mono q1.b0)⟩
    clear CE b4 q1 q2 HQ
    go_wp2
    go_ret
    exact ⟨rfl, HQ4.out⟩
end Go.Proofs.Ytimeoinmepfpnaa.Ri
