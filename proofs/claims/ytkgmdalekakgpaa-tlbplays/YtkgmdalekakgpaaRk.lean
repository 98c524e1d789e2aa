/- The reference's TLB: Fill. -/
import Derived.Test.YtkgmdalekakgpaaRj
namespace Go.Proofs.Ytkgmdalekakgpaa
open Go.ChangeShapes Go.WideShapes Go.ChangeAt Go.RowKit
set_option linter.unusedVariables false
set_option linter.unusedSimpArgs false

theorem RFill_err {w : World} {q : Option Addr} {er : Int} (x : Tr) (he : (er != 0) = true) (hA : ∀ W, Below w.heap.size w W → Calls Try.prog 47 #[.pointer q, .int .i64 x.a, .int .i64 x.p] W fun e w' => e = .returned (.int .i64 er) ∧ w' = W) :
    Calls Try.prog 31 #[.pointer q, .agg #[.int .i64 x.a, .int .i64 x.p, .int .i64 x.f, .bool x.r, .bool x.w, .bool x.d]] w fun e w' => e = .returned (.int .i64 er) ∧ Below w.heap.size w w' := by
  have CA : Hid (Calls _ _ _ _ _) := hA (w.alloc (.cells #[.int .i64 x.a, .int .i64 x.p, .int .i64 x.f, .bool x.r, .bool x.w, .bool x.d] 32)) (below_new _ _)
  have X0 : Hid (Six (w.alloc (.cells #[.int .i64 x.a, .int .i64 x.p, .int .i64 x.f, .bool x.r, .bool x.w, .bool x.d] 32)) w.heap.size 0 x) := six_new w x 32
  have B0 : Hid (Below w.heap.size w (w.alloc (.cells #[.int .i64 x.a, .int .i64 x.p, .int .i64 x.f, .bool x.r, .bool x.w, .bool x.d] 32))) := below_new _ _
  clear hA
  go_enter Try.func31, Try.ntmps31
  go_upto_region 1 with fail
  generalize w.alloc (.cells #[.int .i64 x.a, .int .i64 x.p, .int .i64 x.f, .bool x.r, .bool x.w, .bool x.d] 32) = W0 at *
  generalize hbz : w.heap.size = b0 at *
  obtain ⟨x0, x1, x2, x3, x4, x5⟩ := X0.out
  go_wp2_with fail
  refine CA.out.mono ?_
  rintro e w' ⟨rfl, rfl⟩
  clear CA
  go_wp2
  go_ret
  exact ⟨rfl, by subst hbz; exact B0.out⟩
theorem RFill_nil (w : World) (x : Tr) :
    Calls Try.prog 31 #[.pointer none, .agg #[.int .i64 x.a, .int .i64 x.p, .int .i64 x.f, .bool x.r, .bool x.w, .bool x.d]] w fun e w' => e = .returned (.int .i64 1) ∧ Below w.heap.size w w' := RFill_err x rfl (fun W _ => asked_nil _ _ W)
theorem RFill_frame {w : World} {F : Nat → Prop} {p n : Nat} {l : List Tr} (h : Ca w F p n l) (x : Tr) (ha : okA x.a = true) (hg : okP x.p = true) (hf : okF x.f = false) :
    Calls Try.prog 31 #[.pointer (some ⟨p, 0, none⟩), .agg #[.int .i64 x.a, .int .i64 x.p, .int .i64 x.f, .bool x.r, .bool x.w, .bool x.d]] w fun e w' => e = .returned (.int .i64 2) ∧ Below w.heap.size w w' := by
  obtain ⟨v, hP⟩ := h
  have CA : Hid (Calls Try.prog 47 #[.pointer (some ⟨p, 0, none⟩), .int .i64 x.a, .int .i64 x.p] (w.alloc (.cells #[.int .i64 x.a, .int .i64 x.p, .int .i64 x.f, .bool x.r, .bool x.w, .bool x.d] 32)) fun e w' => e = .returned (.int .i64 0) ∧ w' = (w.alloc (.cells #[.int .i64 x.a, .int .i64 x.p, .int .i64 x.f, .bool x.r, .bool x.w, .bool x.d] 32))) := by
    have := asked_any (hP.c.below (below_new w (.cells #[.int .i64 x.a, .int .i64 x.p, .int .i64 x.f, .bool x.r, .bool x.w, .bool x.d] 32))) x.a x.p
    rw [show askE x.a x.p = 0 by simp [askE, ha, hg]] at this
    exact this
  have CF : Hid (∀ W, Calls Try.prog 28 #[.int .i64 x.f, .int .i64 0, .int .i64 4095] W fun e w' => e = .returned (.bool false) ∧ w' = W) := fun W => by rw [← hf]; exact WithinF x.f W
  have X0 : Hid (Six (w.alloc (.cells #[.int .i64 x.a, .int .i64 x.p, .int .i64 x.f, .bool x.r, .bool x.w, .bool x.d] 32)) w.heap.size 0 x) := six_new w x 32
  have B0 : Hid (Below w.heap.size w (w.alloc (.cells #[.int .i64 x.a, .int .i64 x.p, .int .i64 x.f, .bool x.r, .bool x.w, .bool x.d] 32))) := below_new _ _
  clear hP ha hg hf
  go_enter Try.func31, Try.ntmps31
  go_upto_region 1 with fail
  generalize w.alloc (.cells #[.int .i64 x.a, .int .i64 x.p, .int .i64 x.f, .bool x.r, .bool x.w, .bool x.d] 32) = W0 at *
  generalize hbz : w.heap.size = b0 at *
  obtain ⟨x0, x1, x2, x3, x4, x5⟩ := X0.out
  go_wp2_with fail
  refine CA.out.mono ?_
  rintro e w' ⟨rfl, rfl⟩
  clear CA
  go_wp2_with fail
  refine (CF.out _).mono ?_
  rintro e w' ⟨rfl, rfl⟩
  go_wp2
  go_ret
  exact ⟨rfl, by subst hbz; exact B0.out⟩
set_option maxHeartbeats 2000000 in
theorem RFill_found {w : World} {F : Nat → Prop} {p n : Nat} {l : List Tr} (h : Ca w F p n l) (x : Tr) (ha : okA x.a = true) (hg : okP x.p = true) (hf : okF x.f = true) {k : Nat} (HI : atI x.a x.p l = (k : Int)) (HE : l.length ≤ n → Uq l → x :: wo (k : Int) l = fil n x l) :
    Calls Try.prog 31 #[.pointer (some ⟨p, 0, none⟩), .agg #[.int .i64 x.a, .int .i64 x.p, .int .i64 x.f, .bool x.r, .bool x.w, .bool x.d]] w fun e w' => e = .returned (.int .i64 0) ∧ Lv w F p n (fil n x l) w' := by
  obtain ⟨v, hP⟩ := h
  have CA : Hid (Calls Try.prog 47 #[.pointer (some ⟨p, 0, none⟩), .int .i64 x.a, .int .i64 x.p] (w.alloc (.cells #[.int .i64 x.a, .int .i64 x.p, .int .i64 x.f, .bool x.r, .bool x.w, .bool x.d] 32)) fun e w' => e = .returned (.int .i64 0) ∧ w' = (w.alloc (.cells #[.int .i64 x.a, .int .i64 x.p, .int .i64 x.f, .bool x.r, .bool x.w, .bool x.d] 32))) := by
    have := asked_any (hP.c.below (below_new w (.cells #[.int .i64 x.a, .int .i64 x.p, .int .i64 x.f, .bool x.r, .bool x.w, .bool x.d] 32))) x.a x.p
    rw [show askE x.a x.p = 0 by simp [askE, ha, hg]] at this
    exact this
  have CF : Hid (∀ W, Calls Try.prog 28 #[.int .i64 x.f, .int .i64 0, .int .i64 4095] W fun e w' => e = .returned (.bool true) ∧ w' = W) := fun W => by rw [← hf]; exact WithinF x.f W
  have CT : Hid (Calls Try.prog 46 #[.pointer (some ⟨p, 0, none⟩), .int .i64 x.a, .int .i64 x.p] (w.alloc (.cells #[.int .i64 x.a, .int .i64 x.p, .int .i64 x.f, .bool x.r, .bool x.w, .bool x.d] 32)) fun e w' => e = .returned (.int .i64 (k : Int)) ∧ w' = (w.alloc (.cells #[.int .i64 x.a, .int .i64 x.p, .int .i64 x.f, .bool x.r, .bool x.w, .bool x.d] 32))) := by
    have := at_any (hP.c.below (below_new w (.cells #[.int .i64 x.a, .int .i64 x.p, .int .i64 x.f, .bool x.r, .bool x.w, .bool x.d] 32))) x.a x.p
    rw [HI] at this
    exact this
  have X0 : Hid (Six (w.alloc (.cells #[.int .i64 x.a, .int .i64 x.p, .int .i64 x.f, .bool x.r, .bool x.w, .bool x.d] 32)) w.heap.size 0 x) := six_new w x 32
  have B0 : Hid (Below w.heap.size w (w.alloc (.cells #[.int .i64 x.a, .int .i64 x.p, .int .i64 x.f, .bool x.r, .bool x.w, .bool x.d] 32))) := below_new _ _
  have T0 : Hid (Pt (w.alloc (.cells #[.int .i64 x.a, .int .i64 x.p, .int .i64 x.f, .bool x.r, .bool x.w, .bool x.d] 32)) F p n v l) := hP.below (below_new _ _)
  have hb0 : w.heap.size < (w.alloc (.cells #[.int .i64 x.a, .int .i64 x.p, .int .i64 x.f, .bool x.r, .bool x.w, .bool x.d] 32)).heap.size := by simp
  have hl := hP.c.len
  have hn := hP.c.n64
  have hn1 := hP.c.n1
  have HR : Hid (x :: wo (k : Int) l = fil n x l) := HE hl hP.c.uq
  have hwl := wo_len (k : Int) l
  obtain ⟨ao, cap, hv⟩ := hP.c.own.len
  subst hv
  clear hP ha hg hf HI HE
  go_enter Try.func31, Try.ntmps31
  go_upto_region 1 with fail
  generalize w.alloc (.cells #[.int .i64 x.a, .int .i64 x.p, .int .i64 x.f, .bool x.r, .bool x.w, .bool x.d] 32) = W0 at *
  generalize hbz : w.heap.size = b0 at *
  obtain ⟨x0, x1, x2, x3, x4, x5⟩ := X0.out
  have c0 := T0.out.c.c0
  have c1 := T0.out.c.c1
  go_wp2_with fail
  refine CA.out.mono ?_
  rintro e w' ⟨rfl, rfl⟩
  go_wp2_with fail
  refine (CF.out _).mono ?_
  rintro e w' ⟨rfl, rfl⟩
  go_wp2_with fail
  refine CT.out.mono ?_
  rintro e w' ⟨rfl, rfl⟩
  clear CA CF CT
  have r1 : decide ((k : Int) < 0) = false := by simp
  have r3 : ((k : Int) < 0) = False := by simp
  go_wp2_with fail
  go_quiet (fail)
  clear x0 x1 x2 x3 x4 x5 c0 c1
  have X1 : Hid (Six (w'.drewN nq) b0 0 x) := X0.out.below (by omega) (below_drewN _ _ _)
  have B1 : Hid (Below b0 w (w'.drewN nq)) := B0.out.trans (below_drewN _ _ _)
  have T1 : Hid (Pt (w'.drewN nq) F p n (.slice ao l.length cap) l) := T0.out.below (below_drewN _ _ _)
  have hb1 : b0 < (w'.drewN nq).heap.size := hb0
  generalize w'.drewN nq = w1 at *
  have c0 := T1.out.c.c0
  go_wp2_with fail
  clear c0
  have X2 : Hid (Six w1.drew b0 0 x) := X1.out.below (by omega) (below_drew _ _)
  have B2 : Hid (Below b0 w w1.drew) := B1.out.trans (below_drew _ _)
  have T2 : Hid (Pt w1.drew F p n (.slice ao l.length cap) l) := T1.out.below (below_drew _ _)
  have hb2 : b0 < w1.drew.heap.size := hb1
  have CW : Hid (Calls _ _ _ _ _) := Rwithout_any T2.out.c.own (by omega) (k : Int)
  have HLN : Hid ((fil n x l).length ≤ n) := fil_len n x l
  have HUQ : Hid (Uq (fil n x l)) := fil_uq n x T2.out.c.uq
  obtain ⟨d0, d1, d2, d3, d4, d5⟩ := X2.out.sx
  have q1 := T2.out.c.c1
  have z1 := T2.out.c.z1
  go_region_with (first
      | (go_at_call 37; refine CW.out.mono ?_; clear d0 d1 d2 d3 d4 d5 q1 z1; rintro e w3 ⟨v3, rfl, o3, hb3⟩; obtain ⟨d0, d1, d2, d3, d4, d5⟩ := (X2.out.below hb2 hb3).sx; have A3 : Hid (Own w1.drew.heap.size w3 v3 (wo (k : Int) l)) := o3; have B3 : Hid (Below w1.drew.heap.size w1.drew w3) := hb3; clear o3 hb3)
      | (go_at_call 45; clear d0 d1 d2 d3 d4 d5; refine (front_any (A3.out.weak (Nat.zero_le _)) (by omega) _ _ _ _ _ _).mono ?_; rintro e w4 ⟨v4, rfl, o4, hb4⟩; obtain ⟨a4, m4, c4, rfl⟩ := o4.sl; have B4 : Below w1.drew.heap.size w1.drew w4 := B3.out.trans (hb4.mono B3.out.size); have q1 := (T2.out.below B4).c.c1; have z1 := (T2.out.below B4).c.z1; have L5 : Hid (Lv w1.drew F p n (fil n x l) (w4.setCell ⟨p, 1, none⟩ (.slice a4 m4 c4))) := T2.out.put B4 (by rw [← HR.out]; exact o4.weak B3.out.size) HLN.out HUQ.out; clear o4 hb4 B4))
  all_goals (
    clear q1 z1 CW A3 B3
    go_wp2
    go_ret
    exact ⟨rfl, by subst hbz; exact Lv.pre B2.out L5.out⟩)
set_option maxHeartbeats 2000000 in
theorem RFill_full {w : World} {F : Nat → Prop} {p n : Nat} {l : List Tr} (h : Ca w F p n l) (x : Tr) (ha : okA x.a = true) (hg : okP x.p = true) (hf : okF x.f = true) (hfull : l.length = n) (J : Int) (hJ : (n : Int) - 1 = J) (HI : atI x.a x.p l = -1) (HE : l.length ≤ n → Uq l → x :: wo J l = fil n x l) :
    Calls Try.prog 31 #[.pointer (some ⟨p, 0, none⟩), .agg #[.int .i64 x.a, .int .i64 x.p, .int .i64 x.f, .bool x.r, .bool x.w, .bool x.d]] w fun e w' => e = .returned (.int .i64 0) ∧ Lv w F p n (fil n x l) w' := by
  obtain ⟨v, hP⟩ := h
  have CA : Hid (Calls Try.prog 47 #[.pointer (some ⟨p, 0, none⟩), .int .i64 x.a, .int .i64 x.p] (w.alloc (.cells #[.int .i64 x.a, .int .i64 x.p, .int .i64 x.f, .bool x.r, .bool x.w, .bool x.d] 32)) fun e w' => e = .returned (.int .i64 0) ∧ w' = (w.alloc (.cells #[.int .i64 x.a, .int .i64 x.p, .int .i64 x.f, .bool x.r, .bool x.w, .bool x.d] 32))) := by
    have := asked_any (hP.c.below (below_new w (.cells #[.int .i64 x.a, .int .i64 x.p, .int .i64 x.f, .bool x.r, .bool x.w, .bool x.d] 32))) x.a x.p
    rw [show askE x.a x.p = 0 by simp [askE, ha, hg]] at this
    exact this
  have CF : Hid (∀ W, Calls Try.prog 28 #[.int .i64 x.f, .int .i64 0, .int .i64 4095] W fun e w' => e = .returned (.bool true) ∧ w' = W) := fun W => by rw [← hf]; exact WithinF x.f W
  have CT : Hid (Calls Try.prog 46 #[.pointer (some ⟨p, 0, none⟩), .int .i64 x.a, .int .i64 x.p] (w.alloc (.cells #[.int .i64 x.a, .int .i64 x.p, .int .i64 x.f, .bool x.r, .bool x.w, .bool x.d] 32)) fun e w' => e = .returned (.int .i64 (-1)) ∧ w' = (w.alloc (.cells #[.int .i64 x.a, .int .i64 x.p, .int .i64 x.f, .bool x.r, .bool x.w, .bool x.d] 32))) := by
    have := at_any (hP.c.below (below_new w (.cells #[.int .i64 x.a, .int .i64 x.p, .int .i64 x.f, .bool x.r, .bool x.w, .bool x.d] 32))) x.a x.p
    rw [HI] at this
    exact this
  have X0 : Hid (Six (w.alloc (.cells #[.int .i64 x.a, .int .i64 x.p, .int .i64 x.f, .bool x.r, .bool x.w, .bool x.d] 32)) w.heap.size 0 x) := six_new w x 32
  have B0 : Hid (Below w.heap.size w (w.alloc (.cells #[.int .i64 x.a, .int .i64 x.p, .int .i64 x.f, .bool x.r, .bool x.w, .bool x.d] 32))) := below_new _ _
  have T0 : Hid (Pt (w.alloc (.cells #[.int .i64 x.a, .int .i64 x.p, .int .i64 x.f, .bool x.r, .bool x.w, .bool x.d] 32)) F p n v l) := hP.below (below_new _ _)
  have hb0 : w.heap.size < (w.alloc (.cells #[.int .i64 x.a, .int .i64 x.p, .int .i64 x.f, .bool x.r, .bool x.w, .bool x.d] 32)).heap.size := by simp
  have hl := hP.c.len
  have hn := hP.c.n64
  have hn1 := hP.c.n1
  have HR : Hid (x :: wo J l = fil n x l) := HE hl hP.c.uq
  have hwl := wo_len J l
  obtain ⟨ao, cap, hv⟩ := hP.c.own.len
  subst hv
  clear hP ha hg hf HI HE
  go_enter Try.func31, Try.ntmps31
  go_upto_region 1 with fail
  generalize w.alloc (.cells #[.int .i64 x.a, .int .i64 x.p, .int .i64 x.f, .bool x.r, .bool x.w, .bool x.d] 32) = W0 at *
  generalize hbz : w.heap.size = b0 at *
  obtain ⟨x0, x1, x2, x3, x4, x5⟩ := X0.out
  have c0 := T0.out.c.c0
  have c1 := T0.out.c.c1
  go_wp2_with fail
  refine CA.out.mono ?_
  rintro e w' ⟨rfl, rfl⟩
  go_wp2_with fail
  refine (CF.out _).mono ?_
  rintro e w' ⟨rfl, rfl⟩
  go_wp2_with fail
  refine CT.out.mono ?_
  rintro e w' ⟨rfl, rfl⟩
  clear CA CF CT
  have r1 : ((l.length : Int) == (n : Int)) = true := by simp [hfull]
  have r2 : IntKind.i64.wrap ((n : Int) - 1) = J := by rw [IntWalk.i64_in _ (by omega)]; exact hJ
  clear hfull hJ
  go_wp2_with fail
  go_quiet (fail)
  clear x0 x1 x2 x3 x4 x5 c0 c1
  have X1 : Hid (Six (w'.drewN nq) b0 0 x) := X0.out.below (by omega) (below_drewN _ _ _)
  have B1 : Hid (Below b0 w (w'.drewN nq)) := B0.out.trans (below_drewN _ _ _)
  have T1 : Hid (Pt (w'.drewN nq) F p n (.slice ao l.length cap) l) := T0.out.below (below_drewN _ _ _)
  have hb1 : b0 < (w'.drewN nq).heap.size := hb0
  generalize w'.drewN nq = w1 at *
  have c0 := T1.out.c.c0
  go_wp2_with fail
  clear c0
  have X2 : Hid (Six w1.drew b0 0 x) := X1.out.below (by omega) (below_drew _ _)
  have B2 : Hid (Below b0 w w1.drew) := B1.out.trans (below_drew _ _)
  have T2 : Hid (Pt w1.drew F p n (.slice ao l.length cap) l) := T1.out.below (below_drew _ _)
  have hb2 : b0 < w1.drew.heap.size := hb1
  have CW : Hid (Calls _ _ _ _ _) := Rwithout_any T2.out.c.own (by omega) J
  have HLN : Hid ((fil n x l).length ≤ n) := fil_len n x l
  have HUQ : Hid (Uq (fil n x l)) := fil_uq n x T2.out.c.uq
  obtain ⟨d0, d1, d2, d3, d4, d5⟩ := X2.out.sx
  have q1 := T2.out.c.c1
  have z1 := T2.out.c.z1
  go_region_with (first
      | (go_at_call 37; refine CW.out.mono ?_; clear d0 d1 d2 d3 d4 d5 q1 z1; rintro e w3 ⟨v3, rfl, o3, hb3⟩; obtain ⟨d0, d1, d2, d3, d4, d5⟩ := (X2.out.below hb2 hb3).sx; have A3 : Hid (Own w1.drew.heap.size w3 v3 (wo J l)) := o3; have B3 : Hid (Below w1.drew.heap.size w1.drew w3) := hb3; clear o3 hb3)
      | (go_at_call 45; clear d0 d1 d2 d3 d4 d5; refine (front_any (A3.out.weak (Nat.zero_le _)) (by omega) _ _ _ _ _ _).mono ?_; rintro e w4 ⟨v4, rfl, o4, hb4⟩; obtain ⟨a4, m4, c4, rfl⟩ := o4.sl; have B4 : Below w1.drew.heap.size w1.drew w4 := B3.out.trans (hb4.mono B3.out.size); have q1 := (T2.out.below B4).c.c1; have z1 := (T2.out.below B4).c.z1; have L5 : Hid (Lv w1.drew F p n (fil n x l) (w4.setCell ⟨p, 1, none⟩ (.slice a4 m4 c4))) := T2.out.put B4 (by rw [← HR.out]; exact o4.weak B3.out.size) HLN.out HUQ.out; clear o4 hb4 B4))
  all_goals (
    clear q1 z1 CW A3 B3
    go_wp2
    go_ret
    exact ⟨rfl, by subst hbz; exact Lv.pre B2.out L5.out⟩)
set_option maxHeartbeats 2000000 in
theorem RFill_room {w : World} {F : Nat → Prop} {p n : Nat} {l : List Tr} (h : Ca w F p n l) (x : Tr) (ha : okA x.a = true) (hg : okP x.p = true) (hf : okF x.f = true) (hroom : l.length < n) (HI : atI x.a x.p l = -1) (HE : l.length ≤ n → Uq l → x :: wo (-1) l = fil n x l) :
    Calls Try.prog 31 #[.pointer (some ⟨p, 0, none⟩), .agg #[.int .i64 x.a, .int .i64 x.p, .int .i64 x.f, .bool x.r, .bool x.w, .bool x.d]] w fun e w' => e = .returned (.int .i64 0) ∧ Lv w F p n (fil n x l) w' := by
  obtain ⟨v, hP⟩ := h
  have CA : Hid (Calls Try.prog 47 #[.pointer (some ⟨p, 0, none⟩), .int .i64 x.a, .int .i64 x.p] (w.alloc (.cells #[.int .i64 x.a, .int .i64 x.p, .int .i64 x.f, .bool x.r, .bool x.w, .bool x.d] 32)) fun e w' => e = .returned (.int .i64 0) ∧ w' = (w.alloc (.cells #[.int .i64 x.a, .int .i64 x.p, .int .i64 x.f, .bool x.r, .bool x.w, .bool x.d] 32))) := by
    have := asked_any (hP.c.below (below_new w (.cells #[.int .i64 x.a, .int .i64 x.p, .int .i64 x.f, .bool x.r, .bool x.w, .bool x.d] 32))) x.a x.p
    rw [show askE x.a x.p = 0 by simp [askE, ha, hg]] at this
    exact this
  have CF : Hid (∀ W, Calls Try.prog 28 #[.int .i64 x.f, .int .i64 0, .int .i64 4095] W fun e w' => e = .returned (.bool true) ∧ w' = W) := fun W => by rw [← hf]; exact WithinF x.f W
  have CT : Hid (Calls Try.prog 46 #[.pointer (some ⟨p, 0, none⟩), .int .i64 x.a, .int .i64 x.p] (w.alloc (.cells #[.int .i64 x.a, .int .i64 x.p, .int .i64 x.f, .bool x.r, .bool x.w, .bool x.d] 32)) fun e w' => e = .returned (.int .i64 (-1)) ∧ w' = (w.alloc (.cells #[.int .i64 x.a, .int .i64 x.p, .int .i64 x.f, .bool x.r, .bool x.w, .bool x.d] 32))) := by
    have := at_any (hP.c.below (below_new w (.cells #[.int .i64 x.a, .int .i64 x.p, .int .i64 x.f, .bool x.r, .bool x.w, .bool x.d] 32))) x.a x.p
    rw [HI] at this
    exact this
  have X0 : Hid (Six (w.alloc (.cells #[.int .i64 x.a, .int .i64 x.p, .int .i64 x.f, .bool x.r, .bool x.w, .bool x.d] 32)) w.heap.size 0 x) := six_new w x 32
  have B0 : Hid (Below w.heap.size w (w.alloc (.cells #[.int .i64 x.a, .int .i64 x.p, .int .i64 x.f, .bool x.r, .bool x.w, .bool x.d] 32))) := below_new _ _
  have T0 : Hid (Pt (w.alloc (.cells #[.int .i64 x.a, .int .i64 x.p, .int .i64 x.f, .bool x.r, .bool x.w, .bool x.d] 32)) F p n v l) := hP.below (below_new _ _)
  have hb0 : w.heap.size < (w.alloc (.cells #[.int .i64 x.a, .int .i64 x.p, .int .i64 x.f, .bool x.r, .bool x.w, .bool x.d] 32)).heap.size := by simp
  have hl := hP.c.len
  have hn := hP.c.n64
  have hn1 := hP.c.n1
  have HR : Hid (x :: wo (-1) l = fil n x l) := HE hl hP.c.uq
  have hwl := wo_len (-1) l
  obtain ⟨ao, cap, hv⟩ := hP.c.own.len
  subst hv
  clear hP ha hg hf HI HE
  go_enter Try.func31, Try.ntmps31
  go_upto_region 1 with fail
  generalize w.alloc (.cells #[.int .i64 x.a, .int .i64 x.p, .int .i64 x.f, .bool x.r, .bool x.w, .bool x.d] 32) = W0 at *
  generalize hbz : w.heap.size = b0 at *
  obtain ⟨x0, x1, x2, x3, x4, x5⟩ := X0.out
  have c0 := T0.out.c.c0
  have c1 := T0.out.c.c1
  go_wp2_with fail
  refine CA.out.mono ?_
  rintro e w' ⟨rfl, rfl⟩
  go_wp2_with fail
  refine (CF.out _).mono ?_
  rintro e w' ⟨rfl, rfl⟩
  go_wp2_with fail
  refine CT.out.mono ?_
  rintro e w' ⟨rfl, rfl⟩
  clear CA CF CT
  have r1 : ((l.length : Int) == (n : Int)) = false := by simp; omega
  go_wp2_with fail
  go_quiet (fail)
  clear x0 x1 x2 x3 x4 x5 c0 c1
  have X1 : Hid (Six (w'.drewN nq) b0 0 x) := X0.out.below (by omega) (below_drewN _ _ _)
  have B1 : Hid (Below b0 w (w'.drewN nq)) := B0.out.trans (below_drewN _ _ _)
  have T1 : Hid (Pt (w'.drewN nq) F p n (.slice ao l.length cap) l) := T0.out.below (below_drewN _ _ _)
  have hb1 : b0 < (w'.drewN nq).heap.size := hb0
  generalize w'.drewN nq = w1 at *
  have c0 := T1.out.c.c0
  go_wp2_with fail
  clear c0
  have X2 : Hid (Six w1.drew b0 0 x) := X1.out.below (by omega) (below_drew _ _)
  have B2 : Hid (Below b0 w w1.drew) := B1.out.trans (below_drew _ _)
  have T2 : Hid (Pt w1.drew F p n (.slice ao l.length cap) l) := T1.out.below (below_drew _ _)
  have hb2 : b0 < w1.drew.heap.size := hb1
  have CW : Hid (Calls _ _ _ _ _) := Rwithout_any T2.out.c.own (by omega) (-1)
  have HLN : Hid ((fil n x l).length ≤ n) := fil_len n x l
  have HUQ : Hid (Uq (fil n x l)) := fil_uq n x T2.out.c.uq
  obtain ⟨d0, d1, d2, d3, d4, d5⟩ := X2.out.sx
  have q1 := T2.out.c.c1
  have z1 := T2.out.c.z1
  go_region_with (first
      | (go_at_call 37; refine CW.out.mono ?_; clear d0 d1 d2 d3 d4 d5 q1 z1; rintro e w3 ⟨v3, rfl, o3, hb3⟩; obtain ⟨d0, d1, d2, d3, d4, d5⟩ := (X2.out.below hb2 hb3).sx; have A3 : Hid (Own w1.drew.heap.size w3 v3 (wo (-1) l)) := o3; have B3 : Hid (Below w1.drew.heap.size w1.drew w3) := hb3; clear o3 hb3)
      | (go_at_call 45; clear d0 d1 d2 d3 d4 d5; refine (front_any (A3.out.weak (Nat.zero_le _)) (by omega) _ _ _ _ _ _).mono ?_; rintro e w4 ⟨v4, rfl, o4, hb4⟩; obtain ⟨a4, m4, c4, rfl⟩ := o4.sl; have B4 : Below w1.drew.heap.size w1.drew w4 := B3.out.trans (hb4.mono B3.out.size); have q1 := (T2.out.below B4).c.c1; have z1 := (T2.out.below B4).c.z1; have L5 : Hid (Lv w1.drew F p n (fil n x l) (w4.setCell ⟨p, 1, none⟩ (.slice a4 m4 c4))) := T2.out.put B4 (by rw [← HR.out]; exact o4.weak B3.out.size) HLN.out HUQ.out; clear o4 hb4 B4))
  all_goals (
    clear q1 z1 CW A3 B3
    go_wp2
    go_ret
    exact ⟨rfl, by subst hbz; exact Lv.pre B2.out L5.out⟩)
theorem RFill_ok {w : World} {F : Nat → Prop} {p n : Nat} {l : List Tr} (h : Ca w F p n l) (x : Tr) :
    Calls Try.prog 31 #[.pointer (some ⟨p, 0, none⟩), .agg #[.int .i64 x.a, .int .i64 x.p, .int .i64 x.f, .bool x.r, .bool x.w, .bool x.d]] w fun e w' => e = .returned (.int .i64 (filE x)) ∧ Lv w F p n (filL n x l) w' := by
  have hc := h
  obtain ⟨v, hP⟩ := hc
  have hl := hP.c.len
  have hn1 := hP.c.n1
  rcases isT_cases (a := x.a) (p := x.p) (l := l) with ⟨ha, hg, hx⟩ | ⟨ha, hg, hx⟩ | hb
  · cases hf : okF x.f with
    | false =>
      rw [show filE x = 2 by simp [filE, hf], show filL n x l = l by simp [filL, hf]]
      refine (RFill_frame h x ha hg hf).mono ?_
      rintro e w' ⟨he, hb⟩
      exact ⟨he, Lv.of_below h hb⟩
    | true =>
      rw [show filE x = 0 by simp [filE, ha, hg, hf], show filL n x l = fil n x l by simp [filL, ha, hg, hf]]
      obtain ⟨k, y, hi, _⟩ := hx
      refine RFill_found h x ha hg hf (k := k) (by unfold atI; rw [aix_at hi.ahead hi.at' hi.is]) (fun h1 hu => ?_)
      rw [wo_rm hu hi]
      unfold fil
      rw [List.take_of_length_le]
      have := rm_len_at hu hi.at' hi.is
      simp
      omega
  · cases hf : okF x.f with
    | false =>
      rw [show filE x = 2 by simp [filE, hf], show filL n x l = l by simp [filL, hf]]
      refine (RFill_frame h x ha hg hf).mono ?_
      rintro e w' ⟨he, hb⟩
      exact ⟨he, Lv.of_below h hb⟩
    | true =>
      rw [show filE x = 0 by simp [filE, ha, hg, hf], show filL n x l = fil n x l by simp [filL, ha, hg, hf]]
      have hI : atI x.a x.p l = -1 := by unfold atI; rw [aix_none hx.1]
      by_cases hfull : l.length = n
      · refine RFill_full h x ha hg hf hfull ((n : Int) - 1) rfl hI (fun h1 hu => ?_)
        unfold fil wo
        rw [rm_none hx.1, if_neg (by omega), List.eraseIdx_eq_take_drop_succ, show ((n : Int) - 1).toNat = n - 1 by omega, List.drop_of_length_le (by omega), List.append_nil]
        obtain ⟨m, rfl⟩ : ∃ m, n = m + 1 := ⟨n - 1, by omega⟩
        simp
      · refine RFill_room h x ha hg hf (by omega) hI (fun h1 hu => ?_)
        unfold fil
        rw [rm_none hx.1, wo_neg, List.take_of_length_le]
        simp
        omega
  · rw [show filE x = 2 by simp [filE, bad_and hb], show filL n x l = l by simp [filL, bad_and hb]]
    refine (RFill_err (er := 2) x rfl (fun W hW => ?_)).mono ?_
    · have := asked_any (hP.c.below hW) x.a x.p
      rw [show askE x.a x.p = 2 by simp [askE, bad_and hb]] at this
      exact this
    · rintro e w' ⟨he, hb⟩
      exact ⟨he, Lv.of_below h hb⟩
end Go.Proofs.Ytkgmdalekakgpaa
