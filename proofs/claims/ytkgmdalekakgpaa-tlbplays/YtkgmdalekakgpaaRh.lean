/- The reference's TLB: Find, Drop, Mark. -/
import Derived.Test.YtkgmdalekakgpaaRg
import Derived.Deep.RegionWith
namespace Go.Proofs.Ytkgmdalekakgpaa
open Go.ChangeShapes Go.WideShapes Go.ChangeAt Go.RowKit
set_option linter.unusedVariables false

theorem Pt.ca {w : World} {F : Nat → Prop} {p n : Nat} {v : Value} {l : List Tr} (h : Pt w F p n v l) : Ca w F p n l := ⟨v, h⟩
theorem Own.sl {B : Nat} {w : World} {v : Value} {l : List Tr} (h : Own B w v l) : ∃ a m c, v = .slice a m c := by
  obtain ⟨a, c, e⟩ := h.len
  exact ⟨a, _, c, e⟩
set_option maxHeartbeats 2000000 in
theorem RFind_hit {w : World} {F : Nat → Prop} {p n : Nat} {l : List Tr} (h : Ca w F p n l) (a g : Int) (ha : okA a = true) (hg : okP g = true) {k : Nat} {x : Tr} (hx : Ix a g l k x) :
    Calls Try.prog 29 #[.pointer (some ⟨p, 0, none⟩), .int .i64 a, .int .i64 g] w fun e w' => e = .returned (.tuple #[.agg #[.int .i64 x.a, .int .i64 x.p, .int .i64 x.f, .bool x.r, .bool x.w, .bool x.d], .bool true, .int .i64 0]) ∧ Lv w F p n (x :: rm a g l) w' := by
  obtain ⟨v, hP⟩ := h
  have B0 : Hid (Below w.heap.size w (w.alloc (.cells #[.int .i64 0, .int .i64 0, .int .i64 0, .bool false, .bool false, .bool false] 32))) := below_new _ _
  have Z0 : Hid (Six (w.alloc (.cells #[.int .i64 0, .int .i64 0, .int .i64 0, .bool false, .bool false, .bool false] 32)) w.heap.size 0 z0) := z6_new w
  have ZF : Hid (∀ j, (w.alloc (.cells #[.int .i64 0, .int .i64 0, .int .i64 0, .bool false, .bool false, .bool false] 32)).frozen? ⟨w.heap.size, j, none⟩ = false) := fz_new w _ _
  have hb0 : w.heap.size < (w.alloc (.cells #[.int .i64 0, .int .i64 0, .int .i64 0, .bool false, .bool false, .bool false] 32)).heap.size := by simp
  have HP : Hid (Pt (w.alloc (.cells #[.int .i64 0, .int .i64 0, .int .i64 0, .bool false, .bool false, .bool false] 32)) F p n v l) := hP.below (below_new _ _)
  have hl := hP.c.len
  have hn := hP.c.n64
  have hplt := hP.c.lt
  have HF : Hid (∀ k, F k → k < w.heap.size) := hP.lt
  have HX : Hid (Ix a g l k x) := hx
  have CS : Hid (Calls _ _ _ _ _) := RPeek_hit HP.out.ca a g ha hg hx
  clear hP ha hg hx
  go_enter Try.func29, Try.ntmps29
  go_wp2_with fail
  generalize (w.alloc (.cells #[.int .i64 0, .int .i64 0, .int .i64 0, .bool false, .bool false, .bool false] 32)) = W0 at *
  generalize hbz : w.heap.size = b0 at *
  refine CS.out.mono ?_
  rintro e w1 ⟨rfl, hb⟩
  have T1 : Hid (Pt w1 F p n v l) := HP.out.below hb
  have B1 : Hid (Below b0 w w1) := B0.out.trans (hb.mono (by omega))
  have hsz := hb.size
  have Z1 : Hid (Six w1 b0 0 z0) := Z0.out.below hb0 hb
  have ZF1 : Hid (∀ j, w1.frozen? ⟨b0, j, none⟩ = false) := fun j => (hb.frozen (p := ⟨b0, j, none⟩) hb0).trans (ZF.out j)
  clear hb CS Z0 ZF HP
  go_wp2_with fail
  have T2 : Hid (Pt (w1.alloc (.cells #[.int .i64 x.a, .int .i64 x.p, .int .i64 x.f, .bool x.r, .bool x.w, .bool x.d] 32)).drew F p n v l) := T1.out.below (below_new _ _).drew
  have B2 : Hid (Below b0 w (w1.alloc (.cells #[.int .i64 x.a, .int .i64 x.p, .int .i64 x.f, .bool x.r, .bool x.w, .bool x.d] 32)).drew) := (B1.out.alloc (by omega) _).drew
  have Z2 : Hid (Six (w1.alloc (.cells #[.int .i64 x.a, .int .i64 x.p, .int .i64 x.f, .bool x.r, .bool x.w, .bool x.d] 32)).drew b0 0 z0) := Z1.out.below (by omega) (below_new _ _).drew
  have ZF2 : Hid (∀ j, (w1.alloc (.cells #[.int .i64 x.a, .int .i64 x.p, .int .i64 x.f, .bool x.r, .bool x.w, .bool x.d] 32)).drew.frozen? ⟨b0, j, none⟩ = false) := fun j => ((below_new w1 _).drew.frozen (p := ⟨b0, j, none⟩) (show b0 < w1.heap.size by omega)).trans (ZF1.out j)
  have X2 : Hid (Six (w1.alloc (.cells #[.int .i64 x.a, .int .i64 x.p, .int .i64 x.f, .bool x.r, .bool x.w, .bool x.d] 32)).drew w1.heap.size 0 x) := (six_new w1 x 32).of_eq rfl
  have hb2 : w1.heap.size < (w1.alloc (.cells #[.int .i64 x.a, .int .i64 x.p, .int .i64 x.f, .bool x.r, .bool x.w, .bool x.d] 32)).drew.heap.size := by show _ < (w1.alloc _).heap.size; simp
  generalize hw2 : w1.alloc (.cells #[.int .i64 x.a, .int .i64 x.p, .int .i64 x.f, .bool x.r, .bool x.w, .bool x.d] 32) = w2 at *
  generalize hbx : w1.heap.size = bx at *
  clear Z1 ZF1 hw2
  have K2 : Hid (Sx w2.drew bx x ∧ w2.drew.cell? ⟨p, 1, none⟩ = some v ∧ w2.drew.frozen? ⟨p, 1, none⟩ = false) := ⟨X2.out.sx, T2.out.c.c1, T2.out.c.z1⟩
  have CT : Hid (Calls _ _ _ _ _) := at_told T2.out.c HX.out
  have CW : Hid (Calls _ _ _ _ _) := Rwithout_any T2.out.c.own (by omega) (k : Int)
  have HR : Hid (wo (k : Int) l = rm a g l) := wo_rm T2.out.c.uq HX.out
  rw [HR.out] at CW
  have hrl := rm_len a g l
  have HLN : Hid ((x :: rm a g l).length ≤ n) := by
    have h1 := rm_len_at T2.out.c.uq HX.out.at' HX.out.is
    unfold Hid
    rw [List.length_cons]
    omega
  have HUQ : Hid (Uq (x :: rm a g l)) := by
    obtain ⟨e1, e2⟩ := hk_eq HX.out.is
    unfold Hid
    rw [← e1, ← e2]
    exact T2.out.c.uq.front x
  obtain ⟨⟨d0, d1, d2, d3, d4, d5⟩, q1, z1⟩ := K2.out
  go_region_with (first
      | (go_at_call 46; refine CT.out.mono ?_; rintro e w' ⟨rfl, rfl⟩)
      | (go_at_call 37; refine CW.out.mono ?_; rintro e w3 ⟨v3, rfl, o3, hb3⟩; obtain ⟨d0, d1, d2, d3, d4, d5⟩ := (X2.out.below hb2 hb3).sx; have A3 : Hid (Own w2.drew.heap.size w3 v3 (rm a g l)) := o3; have B3 : Hid (Below w2.drew.heap.size w2.drew w3) := hb3; clear o3 hb3)
      | (go_at_call 45; refine (front_any (A3.out.weak (Nat.zero_le _)) (by omega) _ _ _ _ _ _).mono ?_; rintro e w4 ⟨v4, rfl, o4, hb4⟩; obtain ⟨a4, m4, c4, rfl⟩ := o4.sl; have B4 : Hid (Below w2.drew.heap.size w2.drew w4) := B3.out.trans (hb4.mono B3.out.size); have q1 := (T2.out.below B4.out).c.c1; have z1 := (T2.out.below B4.out).c.z1; have A4 : Hid (Own w2.drew.heap.size w4 (.slice a4 m4 c4) (x :: rm a g l)) := o4.weak B3.out.size; clear o4 hb4))
  all_goals (
    have hs4 := B4.out.size
    have G : w4.grownBy (w4.setCell ⟨p, 1, none⟩ (.slice a4 m4 c4)) (some p) := grown_setCell' w4 p 1 _
    have L5 : Hid (Lv w2.drew F p n (x :: rm a g l) (w4.setCell ⟨p, 1, none⟩ (.slice a4 m4 c4))) := T2.out.put B4.out A4.out HLN.out HUQ.out
    have X5 : Hid (Six (w4.setCell ⟨p, 1, none⟩ (.slice a4 m4 c4)) bx 0 x) := (X2.out.below hb2 B4.out).of_eq (G.block bx (by omega) (some_ne (by omega)))
    have Z5 : Hid (Six (w4.setCell ⟨p, 1, none⟩ (.slice a4 m4 c4)) b0 0 z0) := (Z2.out.below (by omega) B4.out).of_eq (G.block b0 (by omega) (some_ne (by omega)))
    have ZF5 : Hid (∀ j, (w4.setCell ⟨p, 1, none⟩ (.slice a4 m4 c4)).frozen? ⟨b0, j, none⟩ = false) := fun j => (G.frozen_far ⟨b0, j, none⟩ (show b0 < w4.heap.size by omega) (some_ne (show b0 ≠ p by omega))).trans ((B4.out.frozen (p := ⟨b0, j, none⟩) (show b0 < w2.drew.heap.size by omega)).trans (ZF2.out j))
    clear d0 d1 d2 d3 d4 d5 q1 z1 G A3 A4 B3 B4 CT CW
    generalize w4.setCell ⟨p, 1, none⟩ (.slice a4 m4 c4) = w5 at *
    obtain ⟨y0, y1, y2, y3, y4, y5⟩ := Z5.out
    obtain ⟨d0, d1, d2, d3, d4, d5⟩ := X5.out
    have y6 := ZF5.out 0
    have y7 := ZF5.out 1
    have y8 := ZF5.out 2
    have y9 := ZF5.out 3
    have y10 := ZF5.out 4
    have y11 := ZF5.out 5
    go_wp2
    exact bodyPost_ret (v := .tuple #[.agg #[.int .i64 x.a, .int .i64 x.p, .int .i64 x.f, .bool x.r, .bool x.w, .bool x.d], .bool true, .int .i64 0]) (by simp [results, Try.results29, go_sem, *]) rfl ⟨rfl, by subst hbz; exact Lv.fin HF.out B2.out L5.out (grown6 _ _ _ _ _ _ _ _ _ _ _ _ _ _) (Nat.le_refl _) (by omega)⟩)
end Go.Proofs.Ytkgmdalekakgpaa
