/- The statement TlbPlays's own 'done': a call, of both TLBs, is answered alike and leaves both alike. -/
import Derived.Test.YtkgmdalekakgpaaOc
import Derived.Deep.QuietTactic
import Derived.Deep.RegionHeld3
namespace Go.Proofs.Ytkgmdalekakgpaa
open Go.ChangeShapes Go.WideShapes Go.ChangeAt Go.RowKit
set_option linter.unusedVariables false
set_option linter.unusedSimpArgs false

set_option maxRecDepth 100000 in
set_option maxHeartbeats 4000000 in
theorem done_any {A : Ans} {T R : Option Addr} {S : (Nat → Prop) → World → World → List Tr → List Tr → Prop} (OO : Orc A T R S) {P : Nat → Prop} {w0 w : World} {l : List Tr} (h : S P w0 w l l) (K : Int) (x : Tr) (hk0 : -9223372036854775808 ≤ K) (hk1 : K < 9223372036854775808) :
    Calls Try.prog 10 #[.pointer T, .pointer R, .agg #[.int .i64 K, .int .i64 x.a, .int .i64 x.p, .int .i64 x.f, .bool x.r, .bool x.w, .bool x.d]] w fun e w' => e = .returned (.bool true) ∧ ∃ l', S P w0 w' l' l' := by
  have O : Hid (Orc A T R S) := OO
  have S1 : Hid (S (fun i => P i ∨ (w.heap.size ≤ i ∧ i < (w.alloc (.cells #[.int .i64 K, .int .i64 x.a, .int .i64 x.p, .int .i64 x.f, .bool x.r, .bool x.w, .bool x.d] 34)).heap.size)) (w.alloc (.cells #[.int .i64 K, .int .i64 x.a, .int .i64 x.p, .int .i64 x.f, .bool x.r, .bool x.w, .bool x.d] 34)) (w.alloc (.cells #[.int .i64 K, .int .i64 x.a, .int .i64 x.p, .int .i64 x.f, .bool x.r, .bool x.w, .bool x.d] 34)) l l) := OO.more h (below_new _ _)
  have KB : Hid (Kpt P w0 (w.alloc (.cells #[.int .i64 K, .int .i64 x.a, .int .i64 x.p, .int .i64 x.f, .bool x.r, .bool x.w, .bool x.d] 34))) := (OO.kpt h).below (below_new _ _)
  have hb0 : w.heap.size < (w.alloc (.cells #[.int .i64 K, .int .i64 x.a, .int .i64 x.p, .int .i64 x.f, .bool x.r, .bool x.w, .bool x.d] 34)).heap.size := by simp
  have HBX : Hid (Blk (w.alloc (.cells #[.int .i64 K, .int .i64 x.a, .int .i64 x.p, .int .i64 x.f, .bool x.r, .bool x.w, .bool x.d] 34)) w.heap.size 34 [.int .i64 K, .int .i64 x.a, .int .i64 x.p, .int .i64 x.f, .bool x.r, .bool x.w, .bool x.d]) := blk_new w _ 34
  have CK : Hid (∀ W, Calls Try.prog 15 #[.int .i64 K, .int .i64 7] W fun e w' => e = .returned (.int .i64 (K % 7)) ∧ w' = W) := fun W => kind_any K 7 (by omega) (by omega) hk0 hk1 W
  have hr : K % 7 = 0 ∨ K % 7 = 1 ∨ K % 7 = 2 ∨ K % 7 = 3 ∨ K % 7 = 4 ∨ K % 7 = 5 ∨ K % 7 = 6 := by omega
  clear h OO hk0 hk1
  go_enter Try.func10, Try.ntmps10
  go_upto_region 1 with fail
  generalize w.alloc (.cells #[.int .i64 K, .int .i64 x.a, .int .i64 x.p, .int .i64 x.f, .bool x.r, .bool x.w, .bool x.d] 34) = W0 at *
  generalize w.heap.size = b0 at *
  have XK : Hid (∀ W, Kpt (fun i => P i ∨ (b0 ≤ i ∧ i < W0.heap.size)) W0 W → Blk W b0 34 [.int .i64 K, .int .i64 x.a, .int .i64 x.p, .int .i64 x.f, .bool x.r, .bool x.w, .bool x.d]) := fun W k => HBX.out.of_eq (k.block b0 (Or.inr ⟨Nat.le_refl _, hb0⟩))
  have FIN : Hid (∀ W l m, S (fun i => P i ∨ (b0 ≤ i ∧ i < W0.heap.size)) W0 W l m → S P w0 W l m) := fun W l m s => O.out.less KB.out s (fun i hi => Or.inl hi)
  have HPQ : Hid (∀ i, P i → (fun i => P i ∨ (b0 ≤ i ∧ i < W0.heap.size)) i) := fun i hi => Or.inl hi
  obtain ⟨Q, hQ⟩ : ∃ Q, Q = (fun i => P i ∨ (b0 ≤ i ∧ i < W0.heap.size)) := ⟨_, rfl⟩
  rw [← hQ] at S1 XK FIN HPQ
  clear hQ HBX KB hb0
  have d0 := (XK.out W0 (O.out.kpt S1.out)).cell 0
  have d1 := (XK.out W0 (O.out.kpt S1.out)).cell 1
  have d2 := (XK.out W0 (O.out.kpt S1.out)).cell 2
  simp at d0 d1 d2
  go_quiet (fail)
  have S2 : Hid (S Q W0 (W0.drewN nq) l l) := O.out.below S1.out (below_drewN _ _ _)
  clear d0 d1 d2 S1
  have d0 := (XK.out _ (O.out.kpt S2.out)).cell 0
  have d1 := (XK.out _ (O.out.kpt S2.out)).cell 1
  have d2 := (XK.out _ (O.out.kpt S2.out)).cell 2
  have d3 := (XK.out _ (O.out.kpt S2.out)).cell 3
  have d4 := (XK.out _ (O.out.kpt S2.out)).cell 4
  have d5 := (XK.out _ (O.out.kpt S2.out)).cell 5
  have d6 := (XK.out _ (O.out.kpt S2.out)).cell 6
  simp only [List.getElem?_cons_zero, List.getElem?_cons_succ] at d0 d1 d2 d3 d4 d5 d6
  generalize W0.drewN nq = W1 at *
  go_wp2_with fail
  refine (CK.out _).mono ?_
  rintro e w' ⟨rfl, rfl⟩
  clear CK
  have ht : ∀ b : Bool, (b == b) = true := fun b => by simp
  have hi : ∀ i : Int, (i == i) = true := fun i => by simp
  rcases hr with hr | hr | hr | hr | hr | hr | hr
  · rw [hr]
    clear hr d0 d1 d2 d3 d4 d5 d6
    obtain ⟨X, bb, er, hpa⟩ : ∃ X bb er, A.pA x.a x.p l = (X, bb, er) := ⟨_, _, _, rfl⟩
    have C1 : Hid (Calls _ _ _ _ _) := O.out.find1 S2.out x.a x.p
    have C2 : Hid (∀ {P w0 W l'}, S P w0 W l' l → Calls Try.prog 29 #[.pointer R, .int .i64 x.a, .int .i64 x.p] W fun e w' => e = .returned (.tuple #[.agg #[.int .i64 X.a, .int .i64 X.p, .int .i64 X.f, .bool X.r, .bool X.w, .bool X.d], .bool bb, .int .i64 er]) ∧ S P w0 w' l' (A.fL x.a x.p l)) := fun s => by
      have := O.out.find2 s x.a x.p
      rw [hpa] at this
      exact this
    rw [hpa] at C1
    clear hpa
    have h1 := ht bb
    have h2 := hi er
    have hq := eq_run X.a X.p X.f X.a X.p X.f X.r X.w X.d X.r X.w X.d
    rw [eqT_self] at hq
    clear ht hi
    go_wp2_with fail
    refine C1.out.mono ?_
    rintro e w1 ⟨rfl, s1⟩
    have S3 : Hid (S Q W0 w1 (A.fL x.a x.p l) l) := s1
    clear s1 C1 S2
    go_wp2_with fail
    have S4 : Hid (S (fun i => Q i ∨ (w1.heap.size ≤ i ∧ i < (w1.alloc (.cells #[.int .i64 X.a, .int .i64 X.p, .int .i64 X.f, .bool X.r, .bool X.w, .bool X.d] 32)).heap.size)) (w1.alloc (.cells #[.int .i64 X.a, .int .i64 X.p, .int .i64 X.f, .bool X.r, .bool X.w, .bool X.d] 32)) (w1.alloc (.cells #[.int .i64 X.a, .int .i64 X.p, .int .i64 X.f, .bool X.r, .bool X.w, .bool X.d] 32)) (A.fL x.a x.p l) l) := O.out.more S3.out (below_new _ _)
    have KB : Hid (Kpt P w0 (w1.alloc (.cells #[.int .i64 X.a, .int .i64 X.p, .int .i64 X.f, .bool X.r, .bool X.w, .bool X.d] 32))) := (O.out.kpt (FIN.out _ _ _ S3.out)).below (below_new _ _)
    have X4 : Hid (Six (w1.alloc (.cells #[.int .i64 X.a, .int .i64 X.p, .int .i64 X.f, .bool X.r, .bool X.w, .bool X.d] 32)) w1.heap.size 0 X) := six_new w1 X 32
    have hb4 : w1.heap.size < (w1.alloc (.cells #[.int .i64 X.a, .int .i64 X.p, .int .i64 X.f, .bool X.r, .bool X.w, .bool X.d] 32)).heap.size := by simp
    generalize w1.alloc (.cells #[.int .i64 X.a, .int .i64 X.p, .int .i64 X.f, .bool X.r, .bool X.w, .bool X.d] 32) = w4 at *
    generalize w1.heap.size = b4 at *
    refine (C2.out S4.out).mono ?_
    rintro e w5 ⟨rfl, s5⟩
    have HE : Hid (∃ l', S P w0 (w5.alloc (.cells #[.int .i64 X.a, .int .i64 X.p, .int .i64 X.f, .bool X.r, .bool X.w, .bool X.d] 32)) l' l') := ⟨_, O.out.below (O.out.less KB.out s5 (fun i hi => Or.inl (HPQ.out i hi))) (below_new _ _)⟩
    have kk := O.out.kpt s5
    have hb5 : b4 < w5.heap.size := Nat.lt_of_lt_of_le hb4 kk.size
    obtain ⟨y0, y1, y2, y3, y4, y5⟩ := X4.out.of_eq (kk.block b4 (Or.inr ⟨Nat.le_refl _, hb4⟩))
    clear s5 kk C2 S4 S3 X4 KB hb4
    go_wp2
    go_ret
    exact ⟨rfl, HE.out⟩
  · rw [hr]
    clear hr d0 d1 d2 d3 d4 d5 d6
    obtain ⟨X, bb, er, hpa⟩ : ∃ X bb er, A.pA x.a x.p l = (X, bb, er) := ⟨_, _, _, rfl⟩
    have C1 : Hid (Calls _ _ _ _ _) := O.out.peek1 S2.out x.a x.p
    have C2 : Hid (∀ {P w0 W l'}, S P w0 W l' l → Calls Try.prog 30 #[.pointer R, .int .i64 x.a, .int .i64 x.p] W fun e w' => e = .returned (.tuple #[.agg #[.int .i64 X.a, .int .i64 X.p, .int .i64 X.f, .bool X.r, .bool X.w, .bool X.d], .bool bb, .int .i64 er]) ∧ S P w0 w' l' l) := fun s => by
      have := O.out.peek2 s x.a x.p
      rw [hpa] at this
      exact this
    rw [hpa] at C1
    clear hpa
    have h1 := ht bb
    have h2 := hi er
    have hq := eq_run X.a X.p X.f X.a X.p X.f X.r X.w X.d X.r X.w X.d
    rw [eqT_self] at hq
    clear ht hi
    go_wp2_with fail
    refine C1.out.mono ?_
    rintro e w1 ⟨rfl, s1⟩
    have S3 : Hid (S Q W0 w1 l l) := s1
    clear s1 C1 S2
    go_wp2_with fail
    have S4 : Hid (S (fun i => Q i ∨ (w1.heap.size ≤ i ∧ i < (w1.alloc (.cells #[.int .i64 X.a, .int .i64 X.p, .int .i64 X.f, .bool X.r, .bool X.w, .bool X.d] 32)).heap.size)) (w1.alloc (.cells #[.int .i64 X.a, .int .i64 X.p, .int .i64 X.f, .bool X.r, .bool X.w, .bool X.d] 32)) (w1.alloc (.cells #[.int .i64 X.a, .int .i64 X.p, .int .i64 X.f, .bool X.r, .bool X.w, .bool X.d] 32)) l l) := O.out.more S3.out (below_new _ _)
    have KB : Hid (Kpt P w0 (w1.alloc (.cells #[.int .i64 X.a, .int .i64 X.p, .int .i64 X.f, .bool X.r, .bool X.w, .bool X.d] 32))) := (O.out.kpt (FIN.out _ _ _ S3.out)).below (below_new _ _)
    have X4 : Hid (Six (w1.alloc (.cells #[.int .i64 X.a, .int .i64 X.p, .int .i64 X.f, .bool X.r, .bool X.w, .bool X.d] 32)) w1.heap.size 0 X) := six_new w1 X 32
    have hb4 : w1.heap.size < (w1.alloc (.cells #[.int .i64 X.a, .int .i64 X.p, .int .i64 X.f, .bool X.r, .bool X.w, .bool X.d] 32)).heap.size := by simp
    generalize w1.alloc (.cells #[.int .i64 X.a, .int .i64 X.p, .int .i64 X.f, .bool X.r, .bool X.w, .bool X.d] 32) = w4 at *
    generalize w1.heap.size = b4 at *
    refine (C2.out S4.out).mono ?_
    rintro e w5 ⟨rfl, s5⟩
    have HE : Hid (∃ l', S P w0 (w5.alloc (.cells #[.int .i64 X.a, .int .i64 X.p, .int .i64 X.f, .bool X.r, .bool X.w, .bool X.d] 32)) l' l') := ⟨_, O.out.below (O.out.less KB.out s5 (fun i hi => Or.inl (HPQ.out i hi))) (below_new _ _)⟩
    have kk := O.out.kpt s5
    have hb5 : b4 < w5.heap.size := Nat.lt_of_lt_of_le hb4 kk.size
    obtain ⟨y0, y1, y2, y3, y4, y5⟩ := X4.out.of_eq (kk.block b4 (Or.inr ⟨Nat.le_refl _, hb4⟩))
    clear s5 kk C2 S4 S3 X4 KB hb4
    go_wp2
    go_ret
    exact ⟨rfl, HE.out⟩
  · rw [hr]
    clear hr
    have C1 : Hid (∀ W l', S Q W0 W l' l → l' = l → Calls Try.prog 18 #[.pointer T, .agg #[.int .i64 x.a, .int .i64 x.p, .int .i64 x.f, .bool x.r, .bool x.w, .bool x.d]] W fun e w' => e = .returned (.int .i64 (A.xA x)) ∧ S Q W0 w' (A.xL x l) l) := fun W l' s e => by
      subst e
      exact O.out.fill1 s x
    have C2 : Hid (∀ W, S Q W0 W (A.xL x l) l → Calls Try.prog 31 #[.pointer R, .agg #[.int .i64 x.a, .int .i64 x.p, .int .i64 x.f, .bool x.r, .bool x.w, .bool x.d]] W fun e w' => e = .returned (.int .i64 (A.xA x)) ∧ S Q W0 w' (A.xL x l) (A.xL x l)) := fun W s => O.out.fill2 s x
    have h2 := hi (A.xA x)
    have CE : Hid (∀ W, Kpt Q W0 W → (W.cell? ⟨b0, 1, none⟩ = some (.int .i64 x.a) ∧ W.cell? ⟨b0, 2, none⟩ = some (.int .i64 x.p) ∧ W.cell? ⟨b0, 3, none⟩ = some (.int .i64 x.f) ∧ W.cell? ⟨b0, 4, none⟩ = some (.bool x.r) ∧ W.cell? ⟨b0, 5, none⟩ = some (.bool x.w) ∧ W.cell? ⟨b0, 6, none⟩ = some (.bool x.d))) := fun W k => ⟨(XK.out W k).cell 1, (XK.out W k).cell 2, (XK.out W k).cell 3, (XK.out W k).cell 4, (XK.out W k).cell 5, (XK.out W k).cell 6⟩
    clear d0 d1 d2 d3 d4 d5 d6
    go_wp2_with fail
    have S3 : Hid (S Q W0 w'.drew l l) := O.out.below S2.out (below_drew _ _)
    go_region_held3 (fun W => W.cell? ⟨b0, 1, none⟩ = some (.int .i64 x.a) ∧ W.cell? ⟨b0, 2, none⟩ = some (.int .i64 x.p) ∧ W.cell? ⟨b0, 3, none⟩ = some (.int .i64 x.f) ∧ W.cell? ⟨b0, 4, none⟩ = some (.bool x.r) ∧ W.cell? ⟨b0, 5, none⟩ = some (.bool x.w) ∧ W.cell? ⟨b0, 6, none⟩ = some (.bool x.d))
      (first | exact CE.out _ (O.out.kpt S5.out) | exact CE.out _ (O.out.kpt S4.out) | exact CE.out _ (O.out.kpt S3.out))
      (first
        | (go_at_call 18; refine (C1.out _ _ S3.out rfl).mono ?_; rintro e w4 ⟨rfl, s4⟩; have S4 : Hid (S Q W0 w4 (A.xL x l) l) := s4; clear s4)
        | (go_at_call 31; refine (C2.out _ S4.out).mono ?_; rintro e w5 ⟨rfl, s5⟩; have S5 : Hid (S Q W0 w5 (A.xL x l) (A.xL x l)) := s5; clear s5))
    go_wp2
    go_ret
    exact ⟨rfl, _, FIN.out _ _ _ S5.out⟩
  · rw [hr]
    clear hr d0 d1 d2 d3 d4 d5 d6
    obtain ⟨bb, er, hpa⟩ : ∃ bb er, A.mA x.a x.p l = (bb, er) := ⟨_, _, rfl⟩
    have C1 : Hid (Calls _ _ _ _ _) := O.out.mark1 S2.out x.a x.p
    have C2 : Hid (∀ W l', S Q W0 W l' l → Calls Try.prog 32 #[.pointer R, .int .i64 x.a, .int .i64 x.p] W fun e w' => e = .returned (.tuple #[.bool bb, .int .i64 er]) ∧ S Q W0 w' l' (A.mL x.a x.p l)) := fun W l' s => by
      have := O.out.mark2 s x.a x.p
      rw [hpa] at this
      exact this
    rw [hpa] at C1
    clear hpa
    have h1 := ht bb
    have h2 := hi er
    clear ht hi
    go_wp2_with fail
    refine C1.out.mono ?_
    rintro e w1 ⟨rfl, s1⟩
    have S3 : Hid (S Q W0 w1 (A.mL x.a x.p l) l) := s1
    clear s1 C1 S2
    go_wp2_with fail
    refine (C2.out _ _ S3.out).mono ?_
    rintro e w5 ⟨rfl, s5⟩
    have HE : Hid (∃ l', S P w0 w5 l' l') := ⟨_, FIN.out _ _ _ s5⟩
    clear s5 C2 S3
    go_wp2
    go_ret
    exact ⟨rfl, HE.out⟩
  · rw [hr]
    clear hr d0 d1 d2 d3 d4 d5 d6
    obtain ⟨bb, er, hpa⟩ : ∃ bb er, A.mA x.a x.p l = (bb, er) := ⟨_, _, rfl⟩
    have C1 : Hid (Calls _ _ _ _ _) := O.out.drop1 S2.out x.a x.p
    have C2 : Hid (∀ W l', S Q W0 W l' l → Calls Try.prog 33 #[.pointer R, .int .i64 x.a, .int .i64 x.p] W fun e w' => e = .returned (.tuple #[.bool bb, .int .i64 er]) ∧ S Q W0 w' l' (A.dL x.a x.p l)) := fun W l' s => by
      have := O.out.drop2 s x.a x.p
      rw [hpa] at this
      exact this
    rw [hpa] at C1
    clear hpa
    have h1 := ht bb
    have h2 := hi er
    clear ht hi
    go_wp2_with fail
    refine C1.out.mono ?_
    rintro e w1 ⟨rfl, s1⟩
    have S3 : Hid (S Q W0 w1 (A.dL x.a x.p l) l) := s1
    clear s1 C1 S2
    go_wp2_with fail
    refine (C2.out _ _ S3.out).mono ?_
    rintro e w5 ⟨rfl, s5⟩
    have HE : Hid (∃ l', S P w0 w5 l' l') := ⟨_, FIN.out _ _ _ s5⟩
    clear s5 C2 S3
    go_wp2
    go_ret
    exact ⟨rfl, HE.out⟩
  · rw [hr]
    clear hr d0 d1 d2 d3 d4 d5 d6
    obtain ⟨bb, er, hpa⟩ : ∃ bb er, A.aA x.a l = (bb, er) := ⟨_, _, rfl⟩
    have C1 : Hid (Calls _ _ _ _ _) := O.out.dall1 S2.out x.a
    have C2 : Hid (∀ W l', S Q W0 W l' l → Calls Try.prog 34 #[.pointer R, .int .i64 x.a] W fun e w' => e = .returned (.tuple #[.int .i64 bb, .int .i64 er]) ∧ S Q W0 w' l' (A.aL x.a l)) := fun W l' s => by
      have := O.out.dall2 s x.a
      rw [hpa] at this
      exact this
    rw [hpa] at C1
    clear hpa
    have h1 := hi bb
    have h2 := hi er
    clear ht hi
    go_wp2_with fail
    refine C1.out.mono ?_
    rintro e w1 ⟨rfl, s1⟩
    have S3 : Hid (S Q W0 w1 (A.aL x.a l) l) := s1
    clear s1 C1 S2
    go_wp2_with fail
    refine (C2.out _ _ S3.out).mono ?_
    rintro e w5 ⟨rfl, s5⟩
    have HE : Hid (∃ l', S P w0 w5 l' l') := ⟨_, FIN.out _ _ _ s5⟩
    clear s5 C2 S3
    go_wp2
    go_ret
    exact ⟨rfl, HE.out⟩
  · rw [hr]
    clear hr d0 d1 d2 d3 d4 d5 d6
    obtain ⟨bb, er, hpa⟩ : ∃ bb er, A.eA l = (bb, er) := ⟨_, _, rfl⟩
    have C1 : Hid (Calls _ _ _ _ _) := O.out.empt1 S2.out
    have C2 : Hid (∀ W l', S Q W0 W l' l → Calls Try.prog 35 #[.pointer R] W fun e w' => e = .returned (.tuple #[.int .i64 bb, .int .i64 er]) ∧ S Q W0 w' l' (A.eL l)) := fun W l' s => by
      have := O.out.empt2 s
      rw [hpa] at this
      exact this
    rw [hpa] at C1
    clear hpa
    have h1 := hi bb
    have h2 := hi er
    clear ht hi
    go_wp2_with fail
    refine C1.out.mono ?_
    rintro e w1 ⟨rfl, s1⟩
    have S3 : Hid (S Q W0 w1 (A.eL l) l) := s1
    clear s1 C1 S2
    go_wp2_with fail
    refine (C2.out _ _ S3.out).mono ?_
    rintro e w5 ⟨rfl, s5⟩
    have HE : Hid (∃ l', S P w0 w5 l' l') := ⟨_, FIN.out _ _ _ s5⟩
    clear s5 C2 S3
    go_wp2
    go_ret
    exact ⟨rfl, HE.out⟩
end Go.Proofs.Ytkgmdalekakgpaa
