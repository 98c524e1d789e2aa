/- The reference's TLB: Find in one, Drop, Mark. -/
import Derived.Test.YtkgmdalekakgpaaRh
namespace Go.Proofs.Ytkgmdalekakgpaa
open Go.ChangeShapes Go.WideShapes Go.ChangeAt Go.RowKit
set_option linter.unusedVariables false

/-- Peek told nothing. -/
def Miss (w : World) (q : Option Addr) (a g er : Int) : Prop := ∀ W, Below w.heap.size w W → Calls Try.prog 30 #[.pointer q, .int .i64 a, .int .i64 g] W fun e w' => e = .returned (.tuple #[.agg #[.int .i64 0, .int .i64 0, .int .i64 0, .bool false, .bool false, .bool false], .bool false, .int .i64 er]) ∧ Below W.heap.size W w'
theorem miss_nil (w : World) (a g : Int) : Miss w none a g 1 := fun W _ => RPeek_nil W a g
theorem miss_none {w : World} {F : Nat → Prop} {p n : Nat} {l : List Tr} (h : Ca w F p n l) {a g : Int} (ha : okA a = true) (hg : okP g = true) (hx : ∀ x ∈ l, hk a g x = false) : Miss w (some ⟨p, 0, none⟩) a g 0 := fun W hW =>
  RPeek_none (h.below hW) a g ha hg hx
theorem miss_bad {w : World} {F : Nat → Prop} {p n : Nat} {l : List Tr} (h : Ca w F p n l) {a g : Int} (hb : okA a = false ∨ okP g = false) : Miss w (some ⟨p, 0, none⟩) a g 2 := fun W hW => by
  have := RPeek_ok (h.below hW) a g
  rw [show pk a g l = (z0, false, 2) by simp [pk, bad_and hb]] at this
  exact this
set_option maxHeartbeats 1000000 in
theorem RFind_miss {w : World} {q : Option Addr} {a g er : Int} (h : Miss w q a g er) :
    Calls Try.prog 29 #[.pointer q, .int .i64 a, .int .i64 g] w fun e w' => e = .returned (.tuple #[.agg #[.int .i64 0, .int .i64 0, .int .i64 0, .bool false, .bool false, .bool false], .bool false, .int .i64 er]) ∧ Below w.heap.size w w' := by
  have B0 : Hid (Below w.heap.size w (w.alloc (.cells #[.int .i64 0, .int .i64 0, .int .i64 0, .bool false, .bool false, .bool false] 32))) := below_new _ _
  have Z0 : Hid (Six (w.alloc (.cells #[.int .i64 0, .int .i64 0, .int .i64 0, .bool false, .bool false, .bool false] 32)) w.heap.size 0 z0) := z6_new w
  have ZF : Hid (∀ j, (w.alloc (.cells #[.int .i64 0, .int .i64 0, .int .i64 0, .bool false, .bool false, .bool false] 32)).frozen? ⟨w.heap.size, j, none⟩ = false) := fz_new w _ _
  have hb0 : w.heap.size < (w.alloc (.cells #[.int .i64 0, .int .i64 0, .int .i64 0, .bool false, .bool false, .bool false] 32)).heap.size := by simp
  have CS : Hid (Calls _ _ _ _ _) := h (w.alloc (.cells #[.int .i64 0, .int .i64 0, .int .i64 0, .bool false, .bool false, .bool false] 32)) (below_new w _)
  clear h
  go_enter Try.func29, Try.ntmps29
  go_wp2_with fail
  generalize (w.alloc (.cells #[.int .i64 0, .int .i64 0, .int .i64 0, .bool false, .bool false, .bool false] 32)) = W0 at *
  generalize hbz : w.heap.size = b0 at *
  refine CS.out.mono ?_
  rintro e w1 ⟨rfl, hb⟩
  have B1 : Hid (Below b0 w w1) := B0.out.trans (hb.mono (by omega))
  have hsz := hb.size
  obtain ⟨y0, y1, y2, y3, y4, y5⟩ := Z0.out.below hb0 hb
  have yf : ∀ j, w1.frozen? ⟨b0, j, none⟩ = false := fun j => (hb.frozen (p := ⟨b0, j, none⟩) hb0).trans (ZF.out j)
  have y6 := yf 0
  have y7 := yf 1
  have y8 := yf 2
  have y9 := yf 3
  have y10 := yf 4
  have y11 := yf 5
  have hbl : b0 < w1.heap.size := by omega
  clear hb CS Z0 ZF yf
  go_wp2
  exact bodyPost_ret (v := .tuple #[.agg #[.int .i64 0, .int .i64 0, .int .i64 0, .bool false, .bool false, .bool false], .bool false, .int .i64 er]) (by simp [results, Try.results29, go_sem, *]) rfl ⟨rfl, by subst hbz; exact (B1.out.grown (grown6 _ _ _ _ _ _ _ _ _ _ _ _ _ _) B1.out.size (fun k hk => by injection hk with hk; omega)).alloc (Nat.le_trans B1.out.size (grown6 _ _ _ _ _ _ _ _ _ _ _ _ _ _).size) _⟩
theorem RFind_ok {w : World} {F : Nat → Prop} {p n : Nat} {l : List Tr} (h : Ca w F p n l) (a g : Int) :
    Calls Try.prog 29 #[.pointer (some ⟨p, 0, none⟩), .int .i64 a, .int .i64 g] w fun e w' => e = .returned (.tuple #[.agg #[.int .i64 (pk a g l).1.a, .int .i64 (pk a g l).1.p, .int .i64 (pk a g l).1.f, .bool (pk a g l).1.r, .bool (pk a g l).1.w, .bool (pk a g l).1.d], .bool (pk a g l).2.1, .int .i64 (pk a g l).2.2]) ∧ Lv w F p n (fd a g l) w' := by
  rcases isT_cases (a := a) (p := g) (l := l) with ⟨ha, hg, k, x, hx, e⟩ | ⟨ha, hg, hx, e⟩ | hb
  · rw [show pk a g l = (x, true, 0) by simp [pk, ha, hg, e], show fd a g l = x :: rm a g l by simp [fd, ha, hg, e]]
    exact RFind_hit h a g ha hg hx
  · rw [show pk a g l = (z0, false, 0) by simp [pk, ha, hg, e], show fd a g l = l by simp [fd, ha, hg, e]]
    refine (RFind_miss (miss_none h ha hg hx)).mono ?_
    rintro e w' ⟨he, hb⟩
    exact ⟨he, Lv.of_below h hb⟩
  · rw [show pk a g l = (z0, false, 2) by simp [pk, bad_and hb], show fd a g l = l by simp [fd, bad_and hb]]
    refine (RFind_miss (miss_bad h hb)).mono ?_
    rintro e w' ⟨he, hb⟩
    exact ⟨he, Lv.of_below h hb⟩
theorem RDrop_miss {w : World} {q : Option Addr} {a g er : Int} (h : Miss w q a g er) :
    Calls Try.prog 33 #[.pointer q, .int .i64 a, .int .i64 g] w fun e w' => e = .returned (.tuple #[.bool false, .int .i64 er]) ∧ Below w.heap.size w w' := by
  have CS : Hid (Calls _ _ _ _ _) := h w (Below.refl _ w)
  clear h
  go_enter Try.func33, Try.ntmps33
  go_wp2_with fail
  refine CS.out.mono ?_
  rintro e w1 ⟨rfl, hb⟩
  have B1 : Hid (Below w.heap.size w w1) := hb
  clear hb CS
  go_wp2
  go_ret2
  exact ⟨rfl, B1.out.alloc B1.out.size _⟩
theorem RMark_miss {w : World} {q : Option Addr} {a g er : Int} (h : Miss w q a g er) :
    Calls Try.prog 32 #[.pointer q, .int .i64 a, .int .i64 g] w fun e w' => e = .returned (.tuple #[.bool false, .int .i64 er]) ∧ Below w.heap.size w w' := by
  have CS : Hid (Calls _ _ _ _ _) := h w (Below.refl _ w)
  clear h
  go_enter Try.func32, Try.ntmps32
  go_wp2_with fail
  refine CS.out.mono ?_
  rintro e w1 ⟨rfl, hb⟩
  have B1 : Hid (Below w.heap.size w w1) := hb
  clear hb CS
  go_wp2
  go_ret2
  exact ⟨rfl, B1.out.alloc B1.out.size _⟩
set_option maxHeartbeats 2000000 in
theorem RDrop_hit {w : World} {F : Nat → Prop} {p n : Nat} {l : List Tr} (h : Ca w F p n l) (a g : Int) (ha : okA a = true) (hg : okP g = true) {k : Nat} {x : Tr} (hx : Ix a g l k x) :
    Calls Try.prog 33 #[.pointer (some ⟨p, 0, none⟩), .int .i64 a, .int .i64 g] w fun e w' => e = .returned (.tuple #[.bool true, .int .i64 0]) ∧ Lv w F p n (rm a g l) w' := by
  obtain ⟨v, hP⟩ := h
  have HP : Hid (Pt w F p n v l) := hP
  have hl := hP.c.len
  have hn := hP.c.n64
  have HX : Hid (Ix a g l k x) := hx
  have CS : Hid (Calls _ _ _ _ _) := RPeek_hit HP.out.ca a g ha hg hx
  clear hP ha hg hx
  go_enter Try.func33, Try.ntmps33
  go_wp2_with fail
  refine CS.out.mono ?_
  rintro e w1 ⟨rfl, hb⟩
  have T1 : Hid (Pt w1 F p n v l) := HP.out.below hb
  have B1 : Hid (Below w.heap.size w w1) := hb
  have hsz := hb.size
  clear hb CS HP
  go_wp2_with fail
  have T2 : Hid (Pt (w1.alloc (.cells #[.int .i64 x.a, .int .i64 x.p, .int .i64 x.f, .bool x.r, .bool x.w, .bool x.d] 32)).drew F p n v l) := T1.out.below (below_new _ _).drew
  have B2 : Hid (Below w.heap.size w (w1.alloc (.cells #[.int .i64 x.a, .int .i64 x.p, .int .i64 x.f, .bool x.r, .bool x.w, .bool x.d] 32)).drew) := (B1.out.alloc (by omega) _).drew
  generalize hw2 : w1.alloc (.cells #[.int .i64 x.a, .int .i64 x.p, .int .i64 x.f, .bool x.r, .bool x.w, .bool x.d] 32) = w2 at *
  clear hw2
  have CT : Hid (Calls _ _ _ _ _) := at_told T2.out.c HX.out
  have CW : Hid (Calls _ _ _ _ _) := Rwithout_any T2.out.c.own (by omega) (k : Int)
  have HR : Hid (wo (k : Int) l = rm a g l) := wo_rm T2.out.c.uq HX.out
  rw [HR.out] at CW
  have hrl := rm_len a g l
  have HLN : Hid ((rm a g l).length ≤ n) := by unfold Hid; omega
  have HUQ : Hid (Uq (rm a g l)) := rm_uq a g T2.out.c.uq
  have q1 := T2.out.c.c1
  have z1 := T2.out.c.z1
  go_region_with (first
      | (go_at_call 46; refine CT.out.mono ?_; rintro e w' ⟨rfl, rfl⟩)
      | (go_at_call 37; refine CW.out.mono ?_; rintro e w4 ⟨v4, rfl, o4, hb4⟩; obtain ⟨a4, m4, c4, rfl⟩ := o4.sl; have q1 := (T2.out.below hb4).c.c1; have z1 := (T2.out.below hb4).c.z1; have L5 : Hid (Lv w2.drew F p n (rm a g l) (w4.setCell ⟨p, 1, none⟩ (.slice a4 m4 c4))) := T2.out.put hb4 o4 HLN.out HUQ.out; clear o4 hb4))
  all_goals (
    clear q1 z1 CT CW
    go_wp2
    go_ret2
    exact ⟨rfl, Lv.pre B2.out L5.out⟩)
theorem RDrop_ok {w : World} {F : Nat → Prop} {p n : Nat} {l : List Tr} (h : Ca w F p n l) (a g : Int) :
    Calls Try.prog 33 #[.pointer (some ⟨p, 0, none⟩), .int .i64 a, .int .i64 g] w fun e w' => e = .returned (.tuple #[.bool (isT a g l).1, .int .i64 (isT a g l).2]) ∧ Lv w F p n (rmL a g l) w' := by
  rcases isT_cases (a := a) (p := g) (l := l) with ⟨ha, hg, k, x, hx, e⟩ | ⟨ha, hg, hx, e⟩ | hb
  · rw [show isT a g l = (true, 0) by simp [isT, ha, hg, e], show rmL a g l = rm a g l by simp [rmL, ha, hg]]
    exact RDrop_hit h a g ha hg hx
  · rw [show isT a g l = (false, 0) by simp [isT, ha, hg, e], show rmL a g l = l by simp [rmL, ha, hg, rm_none hx]]
    refine (RDrop_miss (miss_none h ha hg hx)).mono ?_
    rintro e w' ⟨he, hb⟩
    exact ⟨he, Lv.of_below h hb⟩
  · rw [show isT a g l = (false, 2) by simp [isT, bad_and hb], show rmL a g l = l by simp [rmL, bad_and hb]]
    refine (RDrop_miss (miss_bad h hb)).mono ?_
    rintro e w' ⟨he, hb⟩
    exact ⟨he, Lv.of_below h hb⟩
end Go.Proofs.Ytkgmdalekakgpaa
