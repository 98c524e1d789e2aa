/- What Image of package pool gives back and leaves, by the uses of the frames alone; no condition but those that each theorem names. -/
import Derived.Test.YtdempgjhjcjklaaGreatVPd
namespace Go.Proofs.YtdempgjhjcjklaaGreat.P
open B Go.ChangeShapes Go.WideShapes Go.ChangeAt Go.RowKit
set_option linter.unusedVariables false
set_option maxRecDepth 8192

/-- The image's frames. -/
def imgL (P : Par) (a m : Nat) : List Int := (List.range m).map fun t => (fm P 0 (a + t) : Int)
theorem imgL_len (P : Par) (a m : Nat) : (imgL P a m).length = m := by simp [imgL]
theorem imgL_succ (P : Par) (a m : Nat) : imgL P a (m + 1) = imgL P a m ++ [(fm P 0 (a + m) : Int)] := by simp [imgL, List.range_succ]
/-- How many have which use where m of the image's are marked. -/
def cnm (cn : Nat → Nat) (m : Nat) : Nat → Nat := fun u => if u = 0 then cn 0 - m else if u = 1 then cn 1 + m else cn u
theorem cnm_zero (cn : Nat → Nat) (u : Nat) : cnm cn 0 u = cn u := by
  unfold cnm
  split
  · rename_i e; rw [e]; rfl
  · split
    · rename_i e; rw [e]; rfl
    · rfl
theorem cnm_succ (cn : Nat → Nat) (m : Nat) : put (put (cnm cn m) 1 (cnm cn m 1 + 1)) 0 (cnm cn m 0 - 1) = cnm cn (m + 1) := by
  funext u
  unfold put cnm
  by_cases e : u = 0
  · subst e
    simp
    omega
  · by_cases e1 : u = 1
    · subst e1
      simp
      omega
    · simp [e, e1]
theorem Image_nop {w : World} {q : Option Addr} (hN : NoP w q) : Calls Tryz.prog 11 #[.pointer q] w fun e w' => e = .returned (.tuple #[.slice none 0 0, .int .i64 1]) ∧ w' = w := by
  have C1 : Hid (Calls _ _ _ _ _) := made_nop hN
  clear hN
  go_enter Tryz.func11, Tryz.ntmps11
  go_wp2_with (go_at_call 44; refine C1.out.mono ?_; rintro e w' ⟨rfl, rfl⟩)
  go_ret2
  exact ⟨rfl, rfl⟩
theorem Image_taken {w : World} {F : Nat → Prop} {p : Nat} {P : Par} {us : Us} (h : Po w F p P us) (h1 : 0 < cU us 1 4096) : Calls Tryz.prog 11 #[.pointer (some ⟨p, 0, none⟩)] w fun e w' => e = .returned (.tuple #[.slice none 0 0, .int .i64 91]) ∧ w' = w := by
  obtain ⟨ga, b, cap, G, bp, L, tk, cn, g1, g2, g3⟩ := h.me
  have C1 : Hid (Calls _ _ _ _ _) := made_p g1
  have c1 := g1.cc 1 (by omega)
  have e1 : cn 1 = cU us 1 4096 := by rw [g2.cn 1]; exact if_neg (by omega)
  rw [e1] at c1
  generalize cU us 1 4096 = x at *
  clear h g1 g2 g3 e1
  have i1 : (0 : Int) < (x : Int) := by omega
  go_enter Tryz.func11, Tryz.ntmps11
  go_wp2_with (go_at_call 44; refine C1.out.mono ?_; rintro e w' ⟨rfl, h⟩; obtain rfl := h.symm)
  go_ret2
  exact ⟨rfl, rfl⟩
set_option maxHeartbeats 1000000 in
theorem Image_mem {w : World} {F : Nat → Prop} {p : Nat} {P : Par} {us : Us} (h : Po w F p P us) (h1 : cU us 1 4096 = 0) (hx : ∀ a, ¬ Nx (opn P us 0) P.o a) : Calls Tryz.prog 11 #[.pointer (some ⟨p, 0, none⟩)] w fun e w' => e = .returned (.tuple #[.slice none 0 0, .int .i64 4]) ∧ Below w.heap.size w w' := by
  obtain ⟨ga, b, cap, G, bp, L, tk, cn, g1, g2, g3⟩ := h.me
  have hP := h.ok
  have hk1 := hP.k1
  have ho3 := hP.o3
  have C1 : Hid (Calls _ _ _ _ _) := made_p g1
  have c1 := g1.cc 1 (by omega)
  have e1 : cn 1 = cU us 1 4096 := by rw [g2.cn 1]; exact if_neg (by omega)
  rw [e1, h1] at c1
  have c2 := g1.c1
  have c3 := g1.col (i := 0) (by omega)
  have c4 := g1.cb 0 (by omega)
  have c5 := g1.co
  have hf : P.f 0 < 16 := Nat.lt_of_lt_of_le (hP.fC 0 (by omega)) hP.C2
  have he : ∀ i, P.o ≤ i → i ≤ 6 → L 0 i = [] := by
    rcases take_case (L 0) P.o with q | ⟨k, a, r, q1, q2, q3, q4⟩
    · exact q
    · exact absurd (st_nx (g2.st 0 (by omega)) q1 q2 q3 q4) (hx a)
  have CT : Hid (∀ n, Calls Tryz.prog 45 #[.pointer (some ⟨bp 0, 0, none⟩), .int .i64 P.o] (w.drewN n) fun e w' => e = .returned (.tuple #[.int .i64 0, .int .i64 90]) ∧ w' = w.drewN n) := fun n =>
    B.Take_none ((g1.bu 0 (by omega)).below (below_of (grown_drewN w n none) _ (Nat.le_refl _) (by simp))) P.o (by omega) he
  clear h g1 g2 g3 e1 he hx
  generalize P.f 0 = f at *
  have i4 : (0 : Int) ≤ (f : Int) := by omega
  have i5 : (f : Int) < 16 := by omega
  have i6 : (0 : Int) < (P.k : Int) := by omega
  go_enter Tryz.func11, Tryz.ntmps11
  go_wp2_with (go_at_call 44; refine C1.out.mono ?_; rintro e w' ⟨rfl, h⟩; obtain rfl := h.symm)
  go_quiet ((go_at_call 45; exact Calls.quiet_of_same (CT.out _)))
  go_wp2
  go_ret2
  exact ⟨rfl, below_of (grown_drewN w _ none) _ (Nat.le_refl _) (by simp)⟩
/-- What stays of a pool where the image is marked. -/
theorem Pq.image {P : Par} (hP : P.Ok) {us : Us} {L : Nat → Nat → List Nat} {tk : Nat → Nat → Option Nat} {cn : Nat → Nat} (h : Pq P us L tk cn) {a k : Nat} {r : List Nat} (ho : P.o ≤ k) (hk : k ≤ 6) (he : ∀ j, P.o ≤ j → j < k → L 0 j = []) (hL : L 0 k = a :: r) :
    Pq P (mkI P us a (2 ^ P.o)) (put L 0 (tkL (L 0) P.o k a)) (put tk 0 (pt (tk 0) a (some P.o))) (cnm cn (2 ^ P.o)) ∧ Room P us a (2 ^ P.o) ∧ 2 ^ P.o ≤ cn 0 := by
  have hk0 : 0 < P.k := hP.k1
  obtain ⟨s1, s2, s3, s4, s5, s6⟩ := (h.st 0 hk0).take ho hk he hL
  have hr := room_of s2 s3
  have hsf := sf_one (us := us) (us' := mkI P us a (2 ^ P.o)) (fre_mk hP hr (Nat.le_refl _)) hk0 (fun m hm hne => fre_mk_other hP us a _ hm hne)
  have h0 : cn 0 = sf P us P.k := h.cn 0
  refine ⟨⟨fun j hj => ?_, fun j x v hj hx hv h2 => ?_, fun v => ?_⟩, hr, by omega⟩
  · by_cases e : j = 0
    · subst e
      rw [put_same, put_same, opn_image hP us s3]
      exact s1
    · rw [put_other _ _ _ _ e, put_other _ _ _ _ e, opn_mk_other hP us a _ hj e]
      exact h.st j hj
  · have hx2 : us (fm P j x) = some v := by
      by_cases q : ∃ t, t < 2 ^ P.o ∧ fm P j x = fm P 0 (a + t)
      · obtain ⟨t, q1, q2⟩ := q
        rw [q2, mkI_in us a q1] at hv
        cases hv
        omega
      · rw [mkI_out us a _ (fun t ht z => q ⟨t, ht, z⟩)] at hv
        exact hv
    have ht := h.t0 j x v hj hx hx2 h2
    by_cases e : j = 0
    · subst e
      rw [put_same]
      unfold pt
      rw [if_neg]
      · exact ht
      · intro q
        subst q
        rw [s5] at ht
        cases ht
    · rw [put_other _ _ _ _ e]
      exact ht
  · unfold cnm cN
    by_cases e : v = 0
    · rw [if_pos e, if_pos e, h0]
      omega
    · rw [if_neg e, if_neg e, cU_mk hP hr v (Nat.le_refl _)]
      by_cases e1 : v = 1
      · subst e1
        rw [if_pos rfl, if_pos rfl, h.cn 1]
        rfl
      · rw [if_neg e1, if_neg e1, Nat.add_zero, h.cn v]
        exact if_neg e
/-- Image: the block at a is taken. -/
def Imd (P : Par) (us : Us) (a : Nat) (us' : Us) : Prop := Nx (opn P us 0) P.o a ∧ us' = mkI P us a (2 ^ P.o)
theorem Kp.more {A : Nat → Prop} {W w w' : World} {row : Option Nat} (h : Kp A A W w) (g : w.grownBy w' row) (hr : ∀ k, row = some k → W.heap.size ≤ k) : Kp A A W w' :=
  ⟨g.os.trans h.os, g.tape.trans h.tape, g.output.trans h.output, Nat.le_trans h.size g.size, fun k hk hn => (g.block k (Nat.lt_of_lt_of_le hk h.size) (fun e => by have := hr k e.symm; omega)).trans (h.block k hk hn), fun _ h => Or.inl h⟩
theorem pow_o {o : Nat} (h : o ≤ 3) : 1 ≤ 2 ^ o ∧ 2 ^ o ≤ 8 ∧ IntKind.i64.wrap ((2 : Int) ^ o) = ((2 ^ o : Nat) : Int) := by
  rcases (show o = 0 ∨ o = 1 ∨ o = 2 ∨ o = 3 by omega) with rfl | rfl | rfl | rfl <;> exact ⟨by decide, by decide, rfl⟩
set_option maxHeartbeats 2000000 in
theorem Image_p {w : World} {F : Nat → Prop} {p : Nat} {P : Par} {us : Us} (h : Po w F p P us) (h1 : cU us 1 4096 = 0) (a0 : Nat) (hx : Nx (opn P us 0) P.o a0) :
    Calls Tryz.prog 11 #[.pointer (some ⟨p, 0, none⟩)] w fun e w' => ∃ v F', e = .returned (.tuple #[v, .int .i64 0]) ∧ Is w' w.heap.size v (imgL P a0 (2 ^ P.o)) ∧ (∀ k, v.ownBlock = some k → ¬ F' k) ∧ Po w' F' p P (mkI P us a0 (2 ^ P.o)) ∧ Kp F F' w w' := by
  obtain ⟨ga, b, cap, G, bp, L, tk, cn, g1, g2, g3⟩ := h.me
  have hP := h.ok
  have hk1 := hP.k1
  have ho3 := hP.o3
  rcases take_case (L 0) P.o with q | ⟨k, a, r, q1, q2, q3, q4⟩
  · exact absurd hx (st_no_nx (g2.st 0 (by omega)) q a0)
  obtain rfl : a0 = a := hx.uniq (st_nx (g2.st 0 (by omega)) q1 q2 q3 q4)
  obtain ⟨hq, hr, hle⟩ := g2.image hP q1 q2 q3 q4
  have hrle := hr.le
  have hN2 := hP.N2
  have C1 : Hid (Calls Tryz.prog 44 #[.pointer (some ⟨p, 0, none⟩)] w _) := made_p g1
  have c1 := g1.cc 1 (by omega)
  have e1 : cn 1 = cU us 1 4096 := by rw [g2.cn 1]; exact if_neg (by omega)
  rw [e1, h1] at c1
  have c2 := g1.c1
  have c3 := g1.col (i := 0) (by omega)
  have c4 := g1.cb 0 (by omega)
  have c5 := g1.co
  have hf : P.f 0 < 16 := Nat.lt_of_lt_of_le (hP.fC 0 (by omega)) hP.C2
  obtain ⟨p1, p2, p3⟩ := pow_o ho3
  have CT : Hid (∀ W, Below w.heap.size w W → Calls Tryz.prog 45 #[.pointer (some ⟨bp 0, 0, none⟩), .int .i64 P.o] W fun e w' => e = .returned (.tuple #[.int .i64 (a0 : Nat), .int .i64 0]) ∧ ∃ G', Bu w' G' (bp 0) (tkL (L 0) P.o k a0) (pt (tk 0) a0 (some P.o)) ∧ Kp (G 0) G' W w') := fun W hW =>
    B.Take_ok ((g1.below hW).bu 0 (by omega)) (st_len (g2.st 0 (by omega)) hP.N2) P.o k a0 r q1 q2 q3 q4 (by omega)
  have HP1 : Hid (∀ W, Below w.heap.size w W → Pp W P.k p ga b cap G bp P L tk us cn) := fun W hW => g1.below hW
  have HPost : Hid (∀ W G', Pp W P.k p ga b cap (put G 0 G') bp P (put L 0 (tkL (L 0) P.o k a0)) (put tk 0 (pt (tk 0) a0 (some P.o))) (mkI P us a0 (2 ^ P.o)) (cnm cn (2 ^ P.o)) → Po W (foot P.k p ga b (put G 0 G')) p P (mkI P us a0 (2 ^ P.o))) := fun W G' hW =>
    ⟨hP, h.va.image hP h1 hr, ga, b, cap, _, bp, _, _, _, hW, hq, fun _ => Iff.rfl⟩
  have CM : Hid (∀ W G' m, m < 2 ^ P.o → Pp W P.k p ga b cap (put G 0 G') bp P (put L 0 (tkL (L 0) P.o k a0)) (put tk 0 (pt (tk 0) a0 (some P.o))) (mkI P us a0 m) (cnm cn m) → Calls Tryz.prog 46 #[.pointer (some ⟨p, 0, none⟩), .int .i64 (P.f 0), .int .i64 (a0 + m : Nat), .int .u8 1] W fun e w' => e = .returned (.int .i64 (fm P 0 (a0 + m) : Nat)) ∧ Pp w' P.k p ga b cap (put G 0 G') bp P (put L 0 (tkL (L 0) P.o k a0)) (put tk 0 (pt (tk 0) a0 (some P.o))) (mkI P us a0 (m + 1)) (cnm cn (m + 1)) ∧ Kp (fun k => k = p ∨ k = b) (fun k => k = p ∨ k = b) W w') := fun W G' m hm hW => by
    have := mark_p hW hP 0 (a0 + m) 1 (by omega) (by omega) (by omega) (by omega) (by show 1 ≤ cnm cn m 0; unfold cnm; simp; omega) (fun v => by
      have h2 := cN_le hP us v
      have h3 := cN_le hP us 0
      have h4 := cN_le hP us 1
      rw [← g2.cn] at h2 h3 h4
      unfold cnm
      split
      · omega
      · split <;> omega)
    rw [cnm_succ] at this
    exact this
  have HFT : Hid (∀ x, F x ↔ foot P.k p ga b G x) := g3
  obtain ⟨i0, hi0, hz0, hz1, hz2⟩ := info_parts B.Tryz.infoI
  have HI : Hid (0 < P.k) := hk1
  have HC0 : Hid (∀ W G', Pp W P.k p ga b cap (put G 0 G') bp P (put L 0 (tkL (L 0) P.o k a0)) (put tk 0 (pt (tk 0) a0 (some P.o))) us cn → Pp W P.k p ga b cap (put G 0 G') bp P (put L 0 (tkL (L 0) P.o k a0)) (put tk 0 (pt (tk 0) a0 (some P.o))) (mkI P us a0 0) (cnm cn 0)) := fun W G' hW => by
    rw [show cnm cn 0 = cn from funext (cnm_zero cn)]
    exact hW
  clear h g1 g2 g3 e1 hq q1 q2 q3 q4 hr hx h1 hle
  generalize 2 ^ P.o = S at *
  obtain ⟨f, hfe⟩ : ∃ f, P.f 0 = f := ⟨_, rfl⟩
  have HFE : Hid (P.f 0 = f) := hfe
  rw [hfe] at hf c3 c4 CM
  clear hfe
  have i4 : (0 : Int) ≤ (f : Int) := by omega
  have i5 : (f : Int) < 16 := by omega
  have i6 : (0 : Int) < (P.k : Int) := by omega
  go_enter Tryz.func11, Tryz.ntmps11
  go_wp2_with (go_at_call 44; refine C1.out.mono ?_; rintro e w' ⟨rfl, h⟩; obtain rfl := h.symm)
  go_region_held3 (fun W => W.cell? ⟨p, 2 + f, none⟩ = some (.pointer (some ⟨bp 0, 0, none⟩)) ∧ W.cell? ⟨p, 18, none⟩ = some (.int .i64 P.o))
    (first | exact ⟨c4, c5⟩ | exact HS1.out)
    ((go_at_call 45; refine (CT.out _ (by first | exact (Below.refl _ _).drew | exact Below.refl _ _)).mono ?_; rintro e w1 ⟨rfl, G1, hB1, hK1⟩; have HP2 : Hid (Pp w1 P.k p ga b cap (put G 0 G1) bp P (put L 0 (tkL (L 0) P.o k a0)) (put tk 0 (pt (tk 0) a0 (some P.o))) us cn) := (HP1.out _ (by first | exact (Below.refl _ _).drew | exact Below.refl _ _)).buddy 0 HI.out hK1 hB1; have HS1 : Hid (w1.cell? ⟨p, 2 + f, none⟩ = some (.pointer (some ⟨bp 0, 0, none⟩)) ∧ w1.cell? ⟨p, 18, none⟩ = some (.int .i64 P.o)) := ⟨by rw [← HFE.out]; exact HP2.out.cb 0 HI.out, HP2.out.co⟩; have HK2 : Hid (Kp F (foot P.k p ga b (put G 0 G1)) _ w1) := (below_kp (by first | exact (Below.refl _ _).drew | exact Below.refl _ _)).trans (Kp.of_foot (foot_kp HI.out hK1) HFT.out (fun _ => Iff.rfl)); clear hB1 hK1))
  clear HS1 c1 c2 c3 c4 c5 CT HP1 C1
  have c5 := HP2.out.co
  have HPW : Hid (p < w1.heap.size ∧ b < w1.heap.size) := ⟨HP2.out.lt, HP2.out.mp.lt⟩
  have HC1 := HC0.out w1 G1 HP2.out
  have HP3 : Hid (Pp w1 P.k p ga b cap (put G 0 G1) bp P (put L 0 (tkL (L 0) P.o k a0)) (put tk 0 (pt (tk 0) a0 (some P.o))) (mkI P us a0 0) (cnm cn 0)) := HC1
  have HFL : Hid (∀ x, foot P.k p ga b (put G 0 G1) x → x < w1.heap.size) := HP2.out.flt
  clear HC1 HC0 HP2
  go_wp2
  go_loopw [7, 45] (fun v z wr => ∃ (m : Nat) (vv : Value), vv = v ∧ m ≤ S ∧ z = .int .i64 m ∧ Is wr w1.heap.size v (imgL P a0 m) ∧ Pp wr P.k p ga b cap (put G 0 G1) bp P (put L 0 (tkL (L 0) P.o k a0)) (put tk 0 (pt (tk 0) a0 (some P.o))) (mkI P us a0 m) (cnm cn m) ∧ Kp (fun k => k = p ∨ k = b) (fun k => k = p ∨ k = b) w1 wr) (fun _ z _ => S - (iv z).toNat)
  case atStart => exact ⟨0, _, rfl, by omega, rfl, Is.nil _ _, HP3.out, Kp.refl _ _⟩
  case round =>
    obtain ⟨m, v, hvv, hm, rfl, hI, hq, hK⟩ := hrel
    subst hvv
    have HI2 : Hid (Is wr w1.heap.size v (imgL P a0 m)) := hI
    have HK3 : Hid (Kp (fun k => k = p ∨ k = b) (fun k => k = p ∨ k = b) w1 wr) := hK
    have HP4 : Hid (Pp wr P.k p ga b cap (put G 0 G1) bp P (put L 0 (tkL (L 0) P.o k a0)) (put tk 0 (pt (tk 0) a0 (some P.o))) (mkI P us a0 m) (cnm cn m)) := hq
    clear hI hq hK
    by_cases hlt : m < S
    · have CM2 : Hid (Calls _ _ _ _ _) := CM.out wr G1 m hlt HP4.out
      have HFS : Hid (imgL P a0 (m + 1) = imgL P a0 m ++ [(fm P 0 (a0 + m) : Int)]) := imgL_succ P a0 m
      have hlen := imgL_len P a0 m
      have hjI : (m : Int) < (S : Int) := by omega
      have hsum : IntKind.i64.wrap ((a0 : Int) + (m : Int)) = ((a0 + m : Nat) : Int) := by rw [show ((a0 : Int) + (m : Int)) = ((a0 + m : Nat) : Int) by simp]; exact IntWalk.i64_in _ (by omega)
      go_wp2_with fail
      refine CM2.out.mono ?_
      rintro e w2 ⟨rfl, hP5, hK5⟩
      have HI3 : Hid (Is w2 w1.heap.size v (imgL P a0 m)) := HI2.out.of_eq (fun c hc => hK5.block c (HI2.out.lt c hc).2 (by
        have h1 := (HI2.out.lt c hc).1
        have h2 := HPW.out
        rintro (q | q) <;> omega))
      have HK5 : Hid (Kp (fun k => k = p ∨ k = b) (fun k => k = p ∨ k = b) w1 w2) := HK3.out.trans hK5
      have HP5 : Hid (Pp w2 P.k p ga b cap (put G 0 G1) bp P (put L 0 (tkL (L 0) P.o k a0)) (put tk 0 (pt (tk 0) a0 (some P.o))) (mkI P us a0 (m + 1)) (cnm cn (m + 1))) := hP5
      have hsz := HK5.out.size
      clear hP5 hK5 CM2 HI2 HK3 HP4
      go_wp2_with (at_builtin; refine wpList_append_own _ rfl (.tmp 48) (.tmp 55) 25 rfl w1.heap.size 3 i0 _ 1 8 Tryz.underlying25 hi0 hz0 hz1 hz2 rfl (by decide) _ (imgL P a0 m).length _ rfl (HI3.out.alloc _) ⟨w2.heap.size, 0, none⟩ 1 1 [.int .i64 (fm P 0 (a0 + m) : Nat)] rfl rfl (cell_one_new _ _ _) (by intro u hu; simp at hu; subst hu; rfl) (by unfold maxLen; omega) (by omega) (by simp; omega) ?_; intro v2 w3 o2 gr2 nil2)
      go_roundw
      case rel =>
        have hg : w2.grownBy w3 v.ownBlock := (World.grownBy_alloc _ _ _).trans gr2
        refine ⟨m + 1, _, rfl, by omega, by go_num, by rw [HFS.out]; exact is_snoc o2, HP5.out.of_eq hg.size (fun x hx => hg.block x (Nat.lt_of_lt_of_le (HFL.out x hx) hsz) (fun e => ?_)), Kp.more HK5.out hg (fun t ht => (HI3.out.lt t ht).1)⟩
        have h1 := (HI3.out.lt x e.symm).1
        have h2 := HFL.out x hx
        omega
      case measure => simp [iv]; omega
    · obtain rfl : m = S := by omega
      have HF : Hid (Kp F (foot P.k p ga b (put G 0 G1)) _ wr) := HK2.out.trans (Kp.wide HK3.out (by rintro x (rfl | rfl); exact Or.inl rfl; exact Or.inr (Or.inr (Or.inl rfl))))
      go_wp2
      go_ret2
      refine ⟨_, _, rfl, HI2.out.less HK2.out.size, fun k hk hf => ?_, HPost.out _ _ HP4.out, HF.out⟩
      have h1 := (HI2.out.lt k hk).1
      have h2 := HFL.out k hf
      omega
end Go.Proofs.YtdempgjhjcjklaaGreat.P
