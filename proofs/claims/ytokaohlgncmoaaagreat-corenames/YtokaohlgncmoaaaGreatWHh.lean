/- The reference's TLB: Find in one, Drop, Mark. -/
import Derived.Test.YtokaohlgncmoaaaGreatWHg
import Derived.Deep.QuietTactic
namespace Go.Proofs.YtokaohlgncmoaaaGreat.T
open Go.ChangeShapes Go.WideShapes Go.ChangeAt Go.RowKit
set_option linter.unusedVariables false
set_option maxRecDepth 8192

def Miss (w : World) (q : Option Addr) (a g er : Int) : Prop := ∀ W, Below w.heap.size w W → Calls Tryz.prog 93 #[.pointer q, .int .i64 a, .int .i64 g] W fun e w' => e = .returned (.tuple #[.agg #[.int .i64 0, .int .i64 0, .int .i64 0, .bool false, .bool false, .bool false], .bool false, .int .i64 er]) ∧ Below W.heap.size W w'
theorem miss_none {w : World} {F : Nat → Prop} {p n : Nat} {l : List Tr} (h : Ca w F p n l) {a g : Int} (ha : okA a = true) (hg : okP g = true) (hx : ∀ x ∈ l, hk a g x = false) : Miss w (some ⟨p, 0, none⟩) a g 0 := fun W hW =>
  RPeek_none (h.below hW) a g ha hg hx
theorem miss_bad {w : World} {F : Nat → Prop} {p n : Nat} {l : List Tr} (h : Ca w F p n l) {a g : Int} (hb : okA a = false ∨ okP g = false) : Miss w (some ⟨p, 0, none⟩) a g 2 := fun W hW => by
  have := RPeek_ok (h.below hW) a g
  rw [show pk a g l = (z0, false, 2) by simp [pk, bad_and hb]] at this
  exact this
set_option maxHeartbeats 1000000 in
theorem RFind_miss {w : World} {q : Option Addr} {a g er : Int} (h : Miss w q a g er) :
    Calls Tryz.prog 49 #[.pointer q, .int .i64 a, .int .i64 g] w fun e w' => e = .returned (.tuple #[.agg #[.int .i64 0, .int .i64 0, .int .i64 0, .bool false, .bool false, .bool false], .bool false, .int .i64 er]) ∧ Below w.heap.size w w' := by
  have B0 : Hid (Below w.heap.size w (w.alloc (.cells #[.int .i64 0, .int .i64 0, .int .i64 0, .bool false, .bool false, .bool false] 43))) := below_new _ _
  have Z0 : Hid (Six (w.alloc (.cells #[.int .i64 0, .int .i64 0, .int .i64 0, .bool false, .bool false, .bool false] 43)) w.heap.size 0 z0) := z6_new w
  have ZF : Hid (∀ j, (w.alloc (.cells #[.int .i64 0, .int .i64 0, .int .i64 0, .bool false, .bool false, .bool false] 43)).frozen? ⟨w.heap.size, j, none⟩ = false) := fz_new w _ _
  have hb0 : w.heap.size < (w.alloc (.cells #[.int .i64 0, .int .i64 0, .int .i64 0, .bool false, .bool false, .bool false] 43)).heap.size := by simp
  have CS : Hid (Calls _ _ _ _ _) := h (w.alloc (.cells #[.int .i64 0, .int .i64 0, .int .i64 0, .bool false, .bool false, .bool false] 43)) (below_new w _)
  clear h
  go_enter Tryz.func49, Tryz.ntmps49
  go_wp2_with fail
  generalize (w.alloc (.cells #[.int .i64 0, .int .i64 0, .int .i64 0, .bool false, .bool false, .bool false] 43)) = W0 at *
  generalize hbz : w.heap.size = b0 at *
  refine CS.out.mono ?_
  rintro e w1 ⟨rfl, hb⟩
  have B1 : Hid (Below b0 w w1) := B0.out.trans (hb.mono (by omega))
  have hsz := hb.size
  obtain ⟨y0, y1, y2, y3, y4, y5⟩ := Z0.out.below hb0 hb
  have yf : ∀ j, w1.frozen? ⟨b0, j, none⟩ = false := fun j => (hb.frozen (p := ⟨b0, j, none⟩) hb0).trans (ZF.out j)
  have y6 := yf 0
  have y7 := yf 1
  have y8 := yf 2
  have y9 := yf 3
  have y10 := yf 4
  have y11 := yf 5
  have hbl : b0 < w1.heap.size := by omega
  clear hb CS Z0 ZF yf
  go_wp2
  exact bodyPost_ret (v := .tuple #[.agg #[.int .i64 0, .int .i64 0, .int .i64 0, .bool false, .bool false, .bool false], .bool false, .int .i64 er]) (by simp [results, Tryz.results49, go_sem, *]) rfl ⟨rfl, by subst hbz; exact (B1.out.grown (grown6 _ _ _ _ _ _ _ _ _ _ _ _ _ _) B1.out.size (fun k hk => by injection hk with hk; omega)).alloc (Nat.le_trans B1.out.size (grown6 _ _ _ _ _ _ _ _ _ _ _ _ _ _).size) _⟩
theorem RFind_ok {w : World} {F : Nat → Prop} {p n : Nat} {l : List Tr} (h : Ca w F p n l) (a g : Int) :
    Calls Tryz.prog 49 #[.pointer (some ⟨p, 0, none⟩), .int .i64 a, .int .i64 g] w fun e w' => e = .returned (.tuple #[.agg #[.int .i64 (pk a g l).1.a, .int .i64 (pk a g l).1.p, .int .i64 (pk a g l).1.f, .bool (pk a g l).1.r, .bool (pk a g l).1.w, .bool (pk a g l).1.d], .bool (pk a g l).2.1, .int .i64 (pk a g l).2.2]) ∧ Lv w F p n (fd a g l) w' := by
  rcases isT_cases (a := a) (p := g) (l := l) with ⟨ha, hg, k, x, hx, e⟩ | ⟨ha, hg, hx, e⟩ | hb
  · rw [show pk a g l = (x, true, 0) by simp [pk, ha, hg, e], show fd a g l = x :: rm a g l by simp [fd, ha, hg, e]]
    exact RFind_hit h a g ha hg hx
  · rw [show pk a g l = (z0, false, 0) by simp [pk, ha, hg, e], show fd a g l = l by simp [fd, ha, hg, e]]
    refine (RFind_miss (miss_none h ha hg hx)).mono ?_
    rintro e w' ⟨he, hb⟩
    exact ⟨he, Lv.of_below h hb⟩
  · rw [show pk a g l = (z0, false, 2) by simp [pk, bad_and hb], show fd a g l = l by simp [fd, bad_and hb]]
    refine (RFind_miss (miss_bad h hb)).mono ?_
    rintro e w' ⟨he, hb⟩
    exact ⟨he, Lv.of_below h hb⟩
end Go.Proofs.YtokaohlgncmoaaaGreat.T
namespace Go.Proofs.YtokaohlgncmoaaaGreat.T
open Go.ChangeShapes Go.WideShapes Go.ChangeAt Go.RowKit
set_option linter.unusedVariables false
set_option maxRecDepth 8192
set_option linter.unusedSimpArgs false

theorem wo_neg (l : List Tr) : wo (-1) l = l := by unfold wo; rw [if_pos (by omega)]
theorem REmpty_ok {w : World} {F : Nat → Prop} {p n : Nat} {l : List Tr} (h : Ca w F p n l) :
    Calls Tryz.prog 86 #[.pointer (some ⟨p, 0, none⟩)] w fun e w' => e = .returned (.tuple #[.int .i64 l.length, .int .i64 0]) ∧ Lv w F p n [] w' := by
  obtain ⟨v, hP⟩ := h
  have CM : Hid (Calls Tryz.prog 89 #[.pointer (some ⟨p, 0, none⟩), .int .i64 0, .int .i64 0] w fun e w' => e = .returned (.int .i64 0) ∧ w' = w) := asked_any hP.c 0 0
  have HL : Hid (Lv w F p n [] (w.setCell ⟨p, 1, none⟩ (.slice none 0 0))) := hP.emptied
  obtain ⟨ao, cap, hv⟩ := hP.c.own.len
  have q1 := hP.c.c1
  have z1 := hP.c.z1
  rw [hv] at q1
  have hl := hP.c.len
  have hn := hP.c.n64
  clear hP hv
  go_enter Tryz.func86, Tryz.ntmps86
  go_wp2_with fail
  refine CM.out.mono ?_
  rintro e w' ⟨rfl, rfl⟩
  go_wp2
  go_ret2
  exact ⟨rfl, HL.out⟩
end Go.Proofs.YtokaohlgncmoaaaGreat.T
namespace Go.Proofs.YtokaohlgncmoaaaGreat.T
open Go.ChangeShapes Go.WideShapes Go.ChangeAt Go.RowKit
set_option linter.unusedVariables false
set_option maxRecDepth 8192
set_option linter.unusedSimpArgs false

theorem RFill_err {w : World} {q : Option Addr} {er : Int} (x : Tr) (he : (er != 0) = true) (hA : ∀ W, Below w.heap.size w W → Calls Tryz.prog 89 #[.pointer q, .int .i64 x.a, .int .i64 x.p] W fun e w' => e = .returned (.int .i64 er) ∧ w' = W) :
    Calls Tryz.prog 48 #[.pointer q, .agg #[.int .i64 x.a, .int .i64 x.p, .int .i64 x.f, .bool x.r, .bool x.w, .bool x.d]] w fun e w' => e = .returned (.int .i64 er) ∧ Below w.heap.size w w' := by
  have CA : Hid (Calls _ _ _ _ _) := hA (w.alloc (.cells #[.int .i64 x.a, .int .i64 x.p, .int .i64 x.f, .bool x.r, .bool x.w, .bool x.d] 43)) (below_new _ _)
  have X0 : Hid (Six (w.alloc (.cells #[.int .i64 x.a, .int .i64 x.p, .int .i64 x.f, .bool x.r, .bool x.w, .bool x.d] 43)) w.heap.size 0 x) := six_new w x 43
  have B0 : Hid (Below w.heap.size w (w.alloc (.cells #[.int .i64 x.a, .int .i64 x.p, .int .i64 x.f, .bool x.r, .bool x.w, .bool x.d] 43))) := below_new _ _
  clear hA
  go_enter Tryz.func48, Tryz.ntmps48
  go_upto_region 1 with fail
  generalize w.alloc (.cells #[.int .i64 x.a, .int .i64 x.p, .int .i64 x.f, .bool x.r, .bool x.w, .bool x.d] 43) = W0 at *
  generalize hbz : w.heap.size = b0 at *
  obtain ⟨x0, x1, x2, x3, x4, x5⟩ := X0.out
  go_wp2_with fail
  refine CA.out.mono ?_
  rintro e w' ⟨rfl, rfl⟩
  clear CA
  go_wp2
  go_ret
  exact ⟨rfl, by subst hbz; exact B0.out⟩
theorem RFill_frame {w : World} {F : Nat → Prop} {p n : Nat} {l : List Tr} (h : Ca w F p n l) (x : Tr) (ha : okA x.a = true) (hg : okP x.p = true) (hf : okF x.f = false) :
    Calls Tryz.prog 48 #[.pointer (some ⟨p, 0, none⟩), .agg #[.int .i64 x.a, .int .i64 x.p, .int .i64 x.f, .bool x.r, .bool x.w, .bool x.d]] w fun e w' => e = .returned (.int .i64 2) ∧ Below w.heap.size w w' := by
  obtain ⟨v, hP⟩ := h
  have CA : Hid (Calls Tryz.prog 89 #[.pointer (some ⟨p, 0, none⟩), .int .i64 x.a, .int .i64 x.p] (w.alloc (.cells #[.int .i64 x.a, .int .i64 x.p, .int .i64 x.f, .bool x.r, .bool x.w, .bool x.d] 43)) fun e w' => e = .returned (.int .i64 0) ∧ w' = (w.alloc (.cells #[.int .i64 x.a, .int .i64 x.p, .int .i64 x.f, .bool x.r, .bool x.w, .bool x.d] 43))) := by
    have := asked_any (hP.c.below (below_new w (.cells #[.int .i64 x.a, .int .i64 x.p, .int .i64 x.f, .bool x.r, .bool x.w, .bool x.d] 43))) x.a x.p
    rw [show askE x.a x.p = 0 by simp [askE, ha, hg]] at this
    exact this
  have CF : Hid (∀ W, Calls Tryz.prog 78 #[.int .i64 x.f, .int .i64 0, .int .i64 4095] W fun e w' => e = .returned (.bool false) ∧ w' = W) := fun W => by rw [← hf]; exact WithinF x.f W
  have X0 : Hid (Six (w.alloc (.cells #[.int .i64 x.a, .int .i64 x.p, .int .i64 x.f, .bool x.r, .bool x.w, .bool x.d] 43)) w.heap.size 0 x) := six_new w x 43
  have B0 : Hid (Below w.heap.size w (w.alloc (.cells #[.int .i64 x.a, .int .i64 x.p, .int .i64 x.f, .bool x.r, .bool x.w, .bool x.d] 43))) := below_new _ _
  clear hP ha hg hf
  go_enter Tryz.func48, Tryz.ntmps48
  go_upto_region 1 with fail
  generalize w.alloc (.cells #[.int .i64 x.a, .int .i64 x.p, .int .i64 x.f, .bool x.r, .bool x.w, .bool x.d] 43) = W0 at *
  generalize hbz : w.heap.size = b0 at *
  obtain ⟨x0, x1, x2, x3, x4, x5⟩ := X0.out
  go_wp2_with fail
  refine CA.out.mono ?_
  rintro e w' ⟨rfl, rfl⟩
  clear CA
  go_wp2_with fail
  refine (CF.out _).mono ?_
  rintro e w' ⟨rfl, rfl⟩
  go_wp2
  go_ret
  exact ⟨rfl, by subst hbz; exact B0.out⟩
set_option maxHeartbeats 2000000 in
theorem RFill_found {w : World} {F : Nat → Prop} {p n : Nat} {l : List Tr} (h : Ca w F p n l) (x : Tr) (ha : okA x.a = true) (hg : okP x.p = true) (hf : okF x.f = true) {k : Nat} (HI : atI x.a x.p l = (k : Int)) (HE : l.length ≤ n → Uq l → x :: wo (k : Int) l = fil n x l) :
    Calls Tryz.prog 48 #[.pointer (some ⟨p, 0, none⟩), .agg #[.int .i64 x.a, .int .i64 x.p, .int .i64 x.f, .bool x.r, .bool x.w, .bool x.d]] w fun e w' => e = .returned (.int .i64 0) ∧ Lv w F p n (fil n x l) w' := by
  obtain ⟨v, hP⟩ := h
  have CA : Hid (Calls Tryz.prog 89 #[.pointer (some ⟨p, 0, none⟩), .int .i64 x.a, .int .i64 x.p] (w.alloc (.cells #[.int .i64 x.a, .int .i64 x.p, .int .i64 x.f, .bool x.r, .bool x.w, .bool x.d] 43)) fun e w' => e = .returned (.int .i64 0) ∧ w' = (w.alloc (.cells #[.int .i64 x.a, .int .i64 x.p, .int .i64 x.f, .bool x.r, .bool x.w, .bool x.d] 43))) := by
    have := asked_any (hP.c.below (below_new w (.cells #[.int .i64 x.a, .int .i64 x.p, .int .i64 x.f, .bool x.r, .bool x.w, .bool x.d] 43))) x.a x.p
    rw [show askE x.a x.p = 0 by simp [askE, ha, hg]] at this
    exact this
  have CF : Hid (∀ W, Calls Tryz.prog 78 #[.int .i64 x.f, .int .i64 0, .int .i64 4095] W fun e w' => e = .returned (.bool true) ∧ w' = W) := fun W => by rw [← hf]; exact WithinF x.f W
  have CT : Hid (Calls Tryz.prog 90 #[.pointer (some ⟨p, 0, none⟩), .int .i64 x.a, .int .i64 x.p] (w.alloc (.cells #[.int .i64 x.a, .int .i64 x.p, .int .i64 x.f, .bool x.r, .bool x.w, .bool x.d] 43)) fun e w' => e = .returned (.int .i64 (k : Int)) ∧ w' = (w.alloc (.cells #[.int .i64 x.a, .int .i64 x.p, .int .i64 x.f, .bool x.r, .bool x.w, .bool x.d] 43))) := by
    have := at_any (hP.c.below (below_new w (.cells #[.int .i64 x.a, .int .i64 x.p, .int .i64 x.f, .bool x.r, .bool x.w, .bool x.d] 43))) x.a x.p
    rw [HI] at this
    exact this
  have X0 : Hid (Six (w.alloc (.cells #[.int .i64 x.a, .int .i64 x.p, .int .i64 x.f, .bool x.r, .bool x.w, .bool x.d] 43)) w.heap.size 0 x) := six_new w x 43
  have B0 : Hid (Below w.heap.size w (w.alloc (.cells #[.int .i64 x.a, .int .i64 x.p, .int .i64 x.f, .bool x.r, .bool x.w, .bool x.d] 43))) := below_new _ _
  have T0 : Hid (Pt (w.alloc (.cells #[.int .i64 x.a, .int .i64 x.p, .int .i64 x.f, .bool x.r, .bool x.w, .bool x.d] 43)) F p n v l) := hP.below (below_new _ _)
  have hb0 : w.heap.size < (w.alloc (.cells #[.int .i64 x.a, .int .i64 x.p, .int .i64 x.f, .bool x.r, .bool x.w, .bool x.d] 43)).heap.size := by simp
  have hl := hP.c.len
  have hn := hP.c.n64
  have hn1 := hP.c.n1
  have HR : Hid (x :: wo (k : Int) l = fil n x l) := HE hl hP.c.uq
  have hwl := wo_len (k : Int) l
  obtain ⟨ao, cap, hv⟩ := hP.c.own.len
  subst hv
  clear hP ha hg hf HI HE
  go_enter Tryz.func48, Tryz.ntmps48
  go_upto_region 1 with fail
  generalize w.alloc (.cells #[.int .i64 x.a, .int .i64 x.p, .int .i64 x.f, .bool x.r, .bool x.w, .bool x.d] 43) = W0 at *
  generalize hbz : w.heap.size = b0 at *
  obtain ⟨x0, x1, x2, x3, x4, x5⟩ := X0.out
  have c0 := T0.out.c.c0
  have c1 := T0.out.c.c1
  go_wp2_with fail
  refine CA.out.mono ?_
  rintro e w' ⟨rfl, rfl⟩
  go_wp2_with fail
  refine (CF.out _).mono ?_
  rintro e w' ⟨rfl, rfl⟩
  go_wp2_with fail
  refine CT.out.mono ?_
  rintro e w' ⟨rfl, rfl⟩
  clear CA CF CT
  have r1 : decide ((k : Int) < 0) = false := by simp
  have r3 : ((k : Int) < 0) = False := by simp
  go_wp2_with fail
  go_quiet (fail)
  clear x0 x1 x2 x3 x4 x5 c0 c1
  have X1 : Hid (Six (w'.drewN nq) b0 0 x) := X0.out.below (by omega) (below_drewN _ _ _)
  have B1 : Hid (Below b0 w (w'.drewN nq)) := B0.out.trans (below_drewN _ _ _)
  have T1 : Hid (Pt (w'.drewN nq) F p n (.slice ao l.length cap) l) := T0.out.below (below_drewN _ _ _)
  have hb1 : b0 < (w'.drewN nq).heap.size := hb0
  generalize w'.drewN nq = w1 at *
  have c0 := T1.out.c.c0
  go_wp2_with fail
  clear c0
  have X2 : Hid (Six w1.drew b0 0 x) := X1.out.below (by omega) (below_drew _ _)
  have B2 : Hid (Below b0 w w1.drew) := B1.out.trans (below_drew _ _)
  have T2 : Hid (Pt w1.drew F p n (.slice ao l.length cap) l) := T1.out.below (below_drew _ _)
  have hb2 : b0 < w1.drew.heap.size := hb1
  have CW : Hid (Calls _ _ _ _ _) := Rwithout_any T2.out.c.own (by omega) (k : Int)
  have HLN : Hid ((fil n x l).length ≤ n) := fil_len n x l
  have HUQ : Hid (Uq (fil n x l)) := fil_uq n x T2.out.c.uq
  obtain ⟨d0, d1, d2, d3, d4, d5⟩ := X2.out.sx
  have q1 := T2.out.c.c1
  have z1 := T2.out.c.z1
  go_region_with (first
      | (go_at_call 92; refine CW.out.mono ?_; clear d0 d1 d2 d3 d4 d5 q1 z1; rintro e w3 ⟨v3, rfl, o3, hb3⟩; obtain ⟨d0, d1, d2, d3, d4, d5⟩ := (X2.out.below hb2 hb3).sx; have A3 : Hid (Own w1.drew.heap.size w3 v3 (wo (k : Int) l)) := o3; have B3 : Hid (Below w1.drew.heap.size w1.drew w3) := hb3; clear o3 hb3)
      | (go_at_call 91; clear d0 d1 d2 d3 d4 d5; refine (front_any (A3.out.weak (Nat.zero_le _)) (by omega) _ _ _ _ _ _).mono ?_; rintro e w4 ⟨v4, rfl, o4, hb4⟩; obtain ⟨a4, m4, c4, rfl⟩ := o4.sl; have B4 : Below w1.drew.heap.size w1.drew w4 := B3.out.trans (hb4.mono B3.out.size); have q1 := (T2.out.below B4).c.c1; have z1 := (T2.out.below B4).c.z1; have L5 : Hid (Lv w1.drew F p n (fil n x l) (w4.setCell ⟨p, 1, none⟩ (.slice a4 m4 c4))) := T2.out.put B4 (by rw [← HR.out]; exact o4.weak B3.out.size) HLN.out HUQ.out; clear o4 hb4 B4))
  all_goals (
    clear q1 z1 CW A3 B3
    go_wp2
    go_ret
    exact ⟨rfl, by subst hbz; exact Lv.pre B2.out L5.out⟩)
set_option maxHeartbeats 2000000 in
theorem RFill_full {w : World} {F : Nat → Prop} {p n : Nat} {l : List Tr} (h : Ca w F p n l) (x : Tr) (ha : okA x.a = true) (hg : okP x.p = true) (hf : okF x.f = true) (hfull : l.length = n) (J : Int) (hJ : (n : Int) - 1 = J) (HI : atI x.a x.p l = -1) (HE : l.length ≤ n → Uq l → x :: wo J l = fil n x l) :
    Calls Tryz.prog 48 #[.pointer (some ⟨p, 0, none⟩), .agg #[.int .i64 x.a, .int .i64 x.p, .int .i64 x.f, .bool x.r, .bool x.w, .bool x.d]] w fun e w' => e = .returned (.int .i64 0) ∧ Lv w F p n (fil n x l) w' := by
  obtain ⟨v, hP⟩ := h
  have CA : Hid (Calls Tryz.prog 89 #[.pointer (some ⟨p, 0, none⟩), .int .i64 x.a, .int .i64 x.p] (w.alloc (.cells #[.int .i64 x.a, .int .i64 x.p, .int .i64 x.f, .bool x.r, .bool x.w, .bool x.d] 43)) fun e w' => e = .returned (.int .i64 0) ∧ w' = (w.alloc (.cells #[.int .i64 x.a, .int .i64 x.p, .int .i64 x.f, .bool x.r, .bool x.w, .bool x.d] 43))) := by
    have := asked_any (hP.c.below (below_new w (.cells #[.int .i64 x.a, .int .i64 x.p, .int .i64 x.f, .bool x.r, .bool x.w, .bool x.d] 43))) x.a x.p
    rw [show askE x.a x.p = 0 by simp [askE, ha, hg]] at this
    exact this
  have CF : Hid (∀ W, Calls Tryz.prog 78 #[.int .i64 x.f, .int .i64 0, .int .i64 4095] W fun e w' => e = .returned (.bool true) ∧ w' = W) := fun W => by rw [← hf]; exact WithinF x.f W
  have CT : Hid (Calls Tryz.prog 90 #[.pointer (some ⟨p, 0, none⟩), .int .i64 x.a, .int .i64 x.p] (w.alloc (.cells #[.int .i64 x.a, .int .i64 x.p, .int .i64 x.f, .bool x.r, .bool x.w, .bool x.d] 43)) fun e w' => e = .returned (.int .i64 (-1)) ∧ w' = (w.alloc (.cells #[.int .i64 x.a, .int .i64 x.p, .int .i64 x.f, .bool x.r, .bool x.w, .bool x.d] 43))) := by
    have := at_any (hP.c.below (below_new w (.cells #[.int .i64 x.a, .int .i64 x.p, .int .i64 x.f, .bool x.r, .bool x.w, .bool x.d] 43))) x.a x.p
    rw [HI] at this
    exact this
  have X0 : Hid (Six (w.alloc (.cells #[.int .i64 x.a, .int .i64 x.p, .int .i64 x.f, .bool x.r, .bool x.w, .bool x.d] 43)) w.heap.size 0 x) := six_new w x 43
  have B0 : Hid (Below w.heap.size w (w.alloc (.cells #[.int .i64 x.a, .int .i64 x.p, .int .i64 x.f, .bool x.r, .bool x.w, .bool x.d] 43))) := below_new _ _
  have T0 : Hid (Pt (w.alloc (.cells #[.int .i64 x.a, .int .i64 x.p, .int .i64 x.f, .bool x.r, .bool x.w, .bool x.d] 43)) F p n v l) := hP.below (below_new _ _)
  have hb0 : w.heap.size < (w.alloc (.cells #[.int .i64 x.a, .int .i64 x.p, .int .i64 x.f, .bool x.r, .bool x.w, .bool x.d] 43)).heap.size := by simp
  have hl := hP.c.len
  have hn := hP.c.n64
  have hn1 := hP.c.n1
  have HR : Hid (x :: wo J l = fil n x l) := HE hl hP.c.uq
  have hwl := wo_len J l
  obtain ⟨ao, cap, hv⟩ := hP.c.own.len
  subst hv
  clear hP ha hg hf HI HE
  go_enter Tryz.func48, Tryz.ntmps48
  go_upto_region 1 with fail
  generalize w.alloc (.cells #[.int .i64 x.a, .int .i64 x.p, .int .i64 x.f, .bool x.r, .bool x.w, .bool x.d] 43) = W0 at *
  generalize hbz : w.heap.size = b0 at *
  obtain ⟨x0, x1, x2, x3, x4, x5⟩ := X0.out
  have c0 := T0.out.c.c0
  have c1 := T0.out.c.c1
  go_wp2_with fail
  refine CA.out.mono ?_
  rintro e w' ⟨rfl, rfl⟩
  go_wp2_with fail
  refine (CF.out _).mono ?_
  rintro e w' ⟨rfl, rfl⟩
  go_wp2_with fail
  refine CT.out.mono ?_
  rintro e w' ⟨rfl, rfl⟩
  clear CA CF CT
  have r1 : ((l.length : Int) == (n : Int)) = true := by simp [hfull]
  have r2 : IntKind.i64.wrap ((n : Int) - 1) = J := by rw [IntWalk.i64_in _ (by omega)]; exact hJ
  clear hfull hJ
  go_wp2_with fail
  go_quiet (fail)
  clear x0 x1 x2 x3 x4 x5 c0 c1
  have X1 : Hid (Six (w'.drewN nq) b0 0 x) := X0.out.below (by omega) (below_drewN _ _ _)
  have B1 : Hid (Below b0 w (w'.drewN nq)) := B0.out.trans (below_drewN _ _ _)
  have T1 : Hid (Pt (w'.drewN nq) F p n (.slice ao l.length cap) l) := T0.out.below (below_drewN _ _ _)
  have hb1 : b0 < (w'.drewN nq).heap.size := hb0
  generalize w'.drewN nq = w1 at *
  have c0 := T1.out.c.c0
  go_wp2_with fail
  clear c0
  have X2 : Hid (Six w1.drew b0 0 x) := X1.out.below (by omega) (below_drew _ _)
  have B2 : Hid (Below b0 w w1.drew) := B1.out.trans (below_drew _ _)
  have T2 : Hid (Pt w1.drew F p n (.slice ao l.length cap) l) := T1.out.below (below_drew _ _)
  have hb2 : b0 < w1.drew.heap.size := hb1
  have CW : Hid (Calls _ _ _ _ _) := Rwithout_any T2.out.c.own (by omega) J
  have HLN : Hid ((fil n x l).length ≤ n) := fil_len n x l
  have HUQ : Hid (Uq (fil n x l)) := fil_uq n x T2.out.c.uq
  obtain ⟨d0, d1, d2, d3, d4, d5⟩ := X2.out.sx
  have q1 := T2.out.c.c1
  have z1 := T2.out.c.z1
  go_region_with (first
      | (go_at_call 92; refine CW.out.mono ?_; clear d0 d1 d2 d3 d4 d5 q1 z1; rintro e w3 ⟨v3, rfl, o3, hb3⟩; obtain ⟨d0, d1, d2, d3, d4, d5⟩ := (X2.out.below hb2 hb3).sx; have A3 : Hid (Own w1.drew.heap.size w3 v3 (wo J l)) := o3; have B3 : Hid (Below w1.drew.heap.size w1.drew w3) := hb3; clear o3 hb3)
      | (go_at_call 91; clear d0 d1 d2 d3 d4 d5; refine (front_any (A3.out.weak (Nat.zero_le _)) (by omega) _ _ _ _ _ _).mono ?_; rintro e w4 ⟨v4, rfl, o4, hb4⟩; obtain ⟨a4, m4, c4, rfl⟩ := o4.sl; have B4 : Below w1.drew.heap.size w1.drew w4 := B3.out.trans (hb4.mono B3.out.size); have q1 := (T2.out.below B4).c.c1; have z1 := (T2.out.below B4).c.z1; have L5 : Hid (Lv w1.drew F p n (fil n x l) (w4.setCell ⟨p, 1, none⟩ (.slice a4 m4 c4))) := T2.out.put B4 (by rw [← HR.out]; exact o4.weak B3.out.size) HLN.out HUQ.out; clear o4 hb4 B4))
  all_goals (
    clear q1 z1 CW A3 B3
    go_wp2
    go_ret
    exact ⟨rfl, by subst hbz; exact Lv.pre B2.out L5.out⟩)
set_option maxHeartbeats 2000000 in
theorem RFill_room {w : World} {F : Nat → Prop} {p n : Nat} {l : List Tr} (h : Ca w F p n l) (x : Tr) (ha : okA x.a = true) (hg : okP x.p = true) (hf : okF x.f = true) (hroom : l.length < n) (HI : atI x.a x.p l = -1) (HE : l.length ≤ n → Uq l → x :: wo (-1) l = fil n x l) :
    Calls Tryz.prog 48 #[.pointer (some ⟨p, 0, none⟩), .agg #[.int .i64 x.a, .int .i64 x.p, .int .i64 x.f, .bool x.r, .bool x.w, .bool x.d]] w fun e w' => e = .returned (.int .i64 0) ∧ Lv w F p n (fil n x l) w' := by
  obtain ⟨v, hP⟩ := h
  have CA : Hid (Calls Tryz.prog 89 #[.pointer (some ⟨p, 0, none⟩), .int .i64 x.a, .int .i64 x.p] (w.alloc (.cells #[.int .i64 x.a, .int .i64 x.p, .int .i64 x.f, .bool x.r, .bool x.w, .bool x.d] 43)) fun e w' => e = .returned (.int .i64 0) ∧ w' = (w.alloc (.cells #[.int .i64 x.a, .int .i64 x.p, .int .i64 x.f, .bool x.r, .bool x.w, .bool x.d] 43))) := by
    have := asked_any (hP.c.below (below_new w (.cells #[.int .i64 x.a, .int .i64 x.p, .int .i64 x.f, .bool x.r, .bool x.w, .bool x.d] 43))) x.a x.p
    rw [show askE x.a x.p = 0 by simp [askE, ha, hg]] at this
    exact this
  have CF : Hid (∀ W, Calls Tryz.prog 78 #[.int .i64 x.f, .int .i64 0, .int .i64 4095] W fun e w' => e = .returned (.bool true) ∧ w' = W) := fun W => by rw [← hf]; exact WithinF x.f W
  have CT : Hid (Calls Tryz.prog 90 #[.pointer (some ⟨p, 0, none⟩), .int .i64 x.a, .int .i64 x.p] (w.alloc (.cells #[.int .i64 x.a, .int .i64 x.p, .int .i64 x.f, .bool x.r, .bool x.w, .bool x.d] 43)) fun e w' => e = .returned (.int .i64 (-1)) ∧ w' = (w.alloc (.cells #[.int .i64 x.a, .int .i64 x.p, .int .i64 x.f, .bool x.r, .bool x.w, .bool x.d] 43))) := by
    have := at_any (hP.c.below (below_new w (.cells #[.int .i64 x.a, .int .i64 x.p, .int .i64 x.f, .bool x.r, .bool x.w, .bool x.d] 43))) x.a x.p
    rw [HI] at this
    exact this
  have X0 : Hid (Six (w.alloc (.cells #[.int .i64 x.a, .int .i64 x.p, .int .i64 x.f, .bool x.r, .bool x.w, .bool x.d] 43)) w.heap.size 0 x) := six_new w x 43
  have B0 : Hid (Below w.heap.size w (w.alloc (.cells #[.int .i64 x.a, .int .i64 x.p, .int .i64 x.f, .bool x.r, .bool x.w, .bool x.d] 43))) := below_new _ _
  have T0 : Hid (Pt (w.alloc (.cells #[.int .i64 x.a, .int .i64 x.p, .int .i64 x.f, .bool x.r, .bool x.w, .bool x.d] 43)) F p n v l) := hP.below (below_new _ _)
  have hb0 : w.heap.size < (w.alloc (.cells #[.int .i64 x.a, .int .i64 x.p, .int .i64 x.f, .bool x.r, .bool x.w, .bool x.d] 43)).heap.size := by simp
  have hl := hP.c.len
  have hn := hP.c.n64
  have hn1 := hP.c.n1
  have HR : Hid (x :: wo (-1) l = fil n x l) := HE hl hP.c.uq
  have hwl := wo_len (-1) l
  obtain ⟨ao, cap, hv⟩ := hP.c.own.len
  subst hv
  clear hP ha hg hf HI HE
  go_enter Tryz.func48, Tryz.ntmps48
  go_upto_region 1 with fail
  generalize w.alloc (.cells #[.int .i64 x.a, .int .i64 x.p, .int .i64 x.f, .bool x.r, .bool x.w, .bool x.d] 43) = W0 at *
  generalize hbz : w.heap.size = b0 at *
  obtain ⟨x0, x1, x2, x3, x4, x5⟩ := X0.out
  have c0 := T0.out.c.c0
  have c1 := T0.out.c.c1
  go_wp2_with fail
  refine CA.out.mono ?_
  rintro e w' ⟨rfl, rfl⟩
  go_wp2_with fail
  refine (CF.out _).mono ?_
  rintro e w' ⟨rfl, rfl⟩
  go_wp2_with fail
  refine CT.out.mono ?_
  rintro e w' ⟨rfl, rfl⟩
  clear CA CF CT
  have r1 : ((l.length : Int) == (n : Int)) = false := by simp; omega
  go_wp2_with fail
  go_quiet (fail)
  clear x0 x1 x2 x3 x4 x5 c0 c1
  have X1 : Hid (Six (w'.drewN nq) b0 0 x) := X0.out.below (by omega) (below_drewN _ _ _)
  have B1 : Hid (Below b0 w (w'.drewN nq)) := B0.out.trans (below_drewN _ _ _)
  have T1 : Hid (Pt (w'.drewN nq) F p n (.slice ao l.length cap) l) := T0.out.below (below_drewN _ _ _)
  have hb1 : b0 < (w'.drewN nq).heap.size := hb0
  generalize w'.drewN nq = w1 at *
  have c0 := T1.out.c.c0
  go_wp2_with fail
  clear c0
  have X2 : Hid (Six w1.drew b0 0 x) := X1.out.below (by omega) (below_drew _ _)
  have B2 : Hid (Below b0 w w1.drew) := B1.out.trans (below_drew _ _)
  have T2 : Hid (Pt w1.drew F p n (.slice ao l.length cap) l) := T1.out.below (below_drew _ _)
  have hb2 : b0 < w1.drew.heap.size := hb1
  have CW : Hid (Calls _ _ _ _ _) := Rwithout_any T2.out.c.own (by omega) (-1)
  have HLN : Hid ((fil n x l).length ≤ n) := fil_len n x l
  have HUQ : Hid (Uq (fil n x l)) := fil_uq n x T2.out.c.uq
  obtain ⟨d0, d1, d2, d3, d4, d5⟩ := X2.out.sx
  have q1 := T2.out.c.c1
  have z1 := T2.out.c.z1
  go_region_with (first
      | (go_at_call 92; refine CW.out.mono ?_; clear d0 d1 d2 d3 d4 d5 q1 z1; rintro e w3 ⟨v3, rfl, o3, hb3⟩; obtain ⟨d0, d1, d2, d3, d4, d5⟩ := (X2.out.below hb2 hb3).sx; have A3 : Hid (Own w1.drew.heap.size w3 v3 (wo (-1) l)) := o3; have B3 : Hid (Below w1.drew.heap.size w1.drew w3) := hb3; clear o3 hb3)
      | (go_at_call 91; clear d0 d1 d2 d3 d4 d5; refine (front_any (A3.out.weak (Nat.zero_le _)) (by omega) _ _ _ _ _ _).mono ?_; rintro e w4 ⟨v4, rfl, o4, hb4⟩; obtain ⟨a4, m4, c4, rfl⟩ := o4.sl; have B4 : Below w1.drew.heap.size w1.drew w4 := B3.out.trans (hb4.mono B3.out.size); have q1 := (T2.out.below B4).c.c1; have z1 := (T2.out.below B4).c.z1; have L5 : Hid (Lv w1.drew F p n (fil n x l) (w4.setCell ⟨p, 1, none⟩ (.slice a4 m4 c4))) := T2.out.put B4 (by rw [← HR.out]; exact o4.weak B3.out.size) HLN.out HUQ.out; clear o4 hb4 B4))
  all_goals (
    clear q1 z1 CW A3 B3
    go_wp2
    go_ret
    exact ⟨rfl, by subst hbz; exact Lv.pre B2.out L5.out⟩)
theorem RFill_ok {w : World} {F : Nat → Prop} {p n : Nat} {l : List Tr} (h : Ca w F p n l) (x : Tr) :
    Calls Tryz.prog 48 #[.pointer (some ⟨p, 0, none⟩), .agg #[.int .i64 x.a, .int .i64 x.p, .int .i64 x.f, .bool x.r, .bool x.w, .bool x.d]] w fun e w' => e = .returned (.int .i64 (filE x)) ∧ Lv w F p n (filL n x l) w' := by
  have hc := h
  obtain ⟨v, hP⟩ := hc
  have hl := hP.c.len
  have hn1 := hP.c.n1
  rcases isT_cases (a := x.a) (p := x.p) (l := l) with ⟨ha, hg, hx⟩ | ⟨ha, hg, hx⟩ | hb
  · cases hf : okF x.f with
    | false =>
      rw [show filE x = 2 by simp [filE, hf], show filL n x l = l by simp [filL, hf]]
      refine (RFill_frame h x ha hg hf).mono ?_
      rintro e w' ⟨he, hb⟩
      exact ⟨he, Lv.of_below h hb⟩
    | true =>
      rw [show filE x = 0 by simp [filE, ha, hg, hf], show filL n x l = fil n x l by simp [filL, ha, hg, hf]]
      obtain ⟨k, y, hi, _⟩ := hx
      refine RFill_found h x ha hg hf (k := k) (by unfold atI; rw [aix_at hi.ahead hi.at' hi.is]) (fun h1 hu => ?_)
      rw [wo_rm hu hi]
      unfold fil
      rw [List.take_of_length_le]
      have := rm_len_at hu hi.at' hi.is
      simp
      omega
  · cases hf : okF x.f with
    | false =>
      rw [show filE x = 2 by simp [filE, hf], show filL n x l = l by simp [filL, hf]]
      refine (RFill_frame h x ha hg hf).mono ?_
      rintro e w' ⟨he, hb⟩
      exact ⟨he, Lv.of_below h hb⟩
    | true =>
      rw [show filE x = 0 by simp [filE, ha, hg, hf], show filL n x l = fil n x l by simp [filL, ha, hg, hf]]
      have hI : atI x.a x.p l = -1 := by unfold atI; rw [aix_none hx.1]
      by_cases hfull : l.length = n
      · refine RFill_full h x ha hg hf hfull ((n : Int) - 1) rfl hI (fun h1 hu => ?_)
        unfold fil wo
        rw [rm_none hx.1, if_neg (by omega), List.eraseIdx_eq_take_drop_succ, show ((n : Int) - 1).toNat = n - 1 by omega, List.drop_of_length_le (by omega), List.append_nil]
        obtain ⟨m, rfl⟩ : ∃ m, n = m + 1 := ⟨n - 1, by omega⟩
        simp
      · refine RFill_room h x ha hg hf (by omega) hI (fun h1 hu => ?_)
        unfold fil
        rw [rm_none hx.1, wo_neg, List.take_of_length_le]
        simp
        omega
  · rw [show filE x = 2 by simp [filE, bad_and hb], show filL n x l = l by simp [filL, bad_and hb]]
    refine (RFill_err (er := 2) x rfl (fun W hW => ?_)).mono ?_
    · have := asked_any (hP.c.below hW) x.a x.p
      rw [show askE x.a x.p = 2 by simp [askE, bad_and hb]] at this
      exact this
    · rintro e w' ⟨he, hb⟩
      exact ⟨he, Lv.of_below h hb⟩
end Go.Proofs.YtokaohlgncmoaaaGreat.T
