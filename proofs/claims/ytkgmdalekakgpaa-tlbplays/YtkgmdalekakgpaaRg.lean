/- The reference's TLB: front, Peek, Find, Drop, Empty, All. -/
import Derived.Test.YtkgmdalekakgpaaRf
import Derived.Deep.RegionHeld3
import Derived.Deep.DeepCutAuto
namespace Go.Proofs.Ytkgmdalekakgpaa
open Go.ChangeShapes Go.WideShapes Go.ChangeAt Go.RowKit
set_option linter.unusedVariables false

set_option maxHeartbeats 1000000 in
theorem front_any {w : World} {v : Value} {l : List Tr} (ho : Own 0 w v l) (hl : l.length ≤ 1000) (a p f : Int) (r w' d : Bool) :
    Calls Try.prog 45 #[.agg #[.int .i64 a, .int .i64 p, .int .i64 f, .bool r, .bool w', .bool d], v] w fun e w1 => ∃ v', e = .returned v' ∧ Own w.heap.size w1 v' (⟨a, p, f, r, w', d⟩ :: l) ∧ Below w.heap.size w w1 := by
  obtain ⟨ao, cap, hv⟩ := ho.len
  subst hv
  have X1 : Hid (Six (w.alloc (.cells #[.int .i64 a, .int .i64 p, .int .i64 f, .bool r, .bool w', .bool d] 32)) w.heap.size 0 ⟨a, p, f, r, w', d⟩) := six_new w ⟨a, p, f, r, w', d⟩ 32
  have B1 : Hid (Below w.heap.size w (w.alloc (.cells #[.int .i64 a, .int .i64 p, .int .i64 f, .bool r, .bool w', .bool d] 32))) := below_new _ _
  have hb1 : w.heap.size < (w.alloc (.cells #[.int .i64 a, .int .i64 p, .int .i64 f, .bool r, .bool w', .bool d] 32)).heap.size := by simp
  have O1 : Hid (Own 0 (w.alloc (.cells #[.int .i64 a, .int .i64 p, .int .i64 f, .bool r, .bool w', .bool d] 32)) (.slice ao l.length cap) l) := ho.below (below_new _ _)
  clear ho
  go_enter Try.func45, Try.ntmps45
  go_upto_region 1 with fail
  generalize w.alloc (.cells #[.int .i64 a, .int .i64 p, .int .i64 f, .bool r, .bool w', .bool d] 32) = W1 at *
  obtain ⟨x0, x1, x2, x3, x4, x5⟩ := X1.out
  have HFR : Hid (∀ ty, ∃ v' w6, (Builtin.append_ #[35, 35] ty #[.slice (some ⟨W1.heap.size, 0, none⟩) 1 1, .slice ao l.length cap]).run Try.prog (W1.alloc (.cells #[.int .i64 a, .int .i64 p, .int .i64 f, .bool r, .bool w', .bool d] 32)) = .ok v' w6 ∧ (Own w.heap.size w6 v' (⟨a, p, f, r, w', d⟩ :: l.take l.length) ∧ (W1.alloc (.cells #[.int .i64 a, .int .i64 p, .int .i64 f, .bool r, .bool w', .bool d] 32)).grownBy w6 (some W1.heap.size))) := fun ty =>
    front_run (blk_new W1 (tc ⟨a, p, f, r, w', d⟩) 32) (by omega) (O1.out.below (below_new _ _)) (Nat.le_refl _) hl ty
  go_wp2_with (at_builtin; refine wpList_append_any rfl (.tmp 8) (.tmp 9) rfl _ _ rfl rfl (HFR.out _) ?_; rintro v6 w6 ⟨o6, g6⟩)
  go_ret
  refine ⟨_, rfl, ?_, (B1.out.alloc (by omega) _).grown g6 (by simp; omega) (fun k hk => by injection hk with hk; omega)⟩
  rw [List.take_of_length_le (Nat.le_refl _)] at o6
  exact o6
/-- The row's slice is another one now, made since. -/
theorem Pt.put {w w3 : World} {F : Nat → Prop} {p n : Nat} {v v' : Value} {l l' : List Tr} (h : Pt w F p n v l) (hb : Below w.heap.size w w3) (ho : Own w.heap.size w3 v' l') (hl : l'.length ≤ n) (hu : Uq l') :
    Lv w F p n l' (w3.setCell ⟨p, 1, none⟩ v') := by
  have T3 := h.below hb
  have G := grown_setCell' w3 p 1 v'
  have hp := h.c.lt
  obtain ⟨F', P', K'⟩ := h.turn_new (w' := w3.setCell ⟨p, 1, none⟩ v') v' l' (G.os.trans hb.os) (G.tape.trans hb.tape) (G.output.trans hb.output) (Nat.le_trans hb.size G.size) (fun i hi hip _ => (G.block i (Nat.lt_of_lt_of_le hi hb.size) (some_ne hip)).trans (hb.block i hi)) (by
      rw [World.cell?_setCell_other _ _ _ _ (by intro h; cases h)]
      exact T3.c.c0) (World.cell?_setCell_same _ _ _ T3.c.c1) (by
      rw [World.frozen?_setCell]
      exact T3.c.z1) ((ho.weak (Nat.zero_le _)).of_eq (fun g hg => by
        have := ho.lt g hg
        exact G.block g this.2 (some_ne (by omega)))) (fun g hg => Or.inr (ho.lt g hg).1) hl hu
  exact ⟨F', ⟨_, P'⟩, K'⟩
set_option maxHeartbeats 1000000 in
theorem RPeek_hit {w : World} {F : Nat → Prop} {p n : Nat} {l : List Tr} (h : Ca w F p n l) (a g : Int) (ha : okA a = true) (hg : okP g = true) {k : Nat} {x : Tr} (hx : Ix a g l k x) :
    Calls Try.prog 30 #[.pointer (some ⟨p, 0, none⟩), .int .i64 a, .int .i64 g] w fun e w' => e = .returned (.tuple #[.agg #[.int .i64 x.a, .int .i64 x.p, .int .i64 x.f, .bool x.r, .bool x.w, .bool x.d], .bool true, .int .i64 0]) ∧ Below w.heap.size w w' := by
  obtain ⟨v, hP⟩ := h
  have B0 : Hid (Below w.heap.size w (w.alloc (.cells #[.int .i64 0, .int .i64 0, .int .i64 0, .bool false, .bool false, .bool false] 32))) := below_new _ _
  have Z0 : Hid (Six (w.alloc (.cells #[.int .i64 0, .int .i64 0, .int .i64 0, .bool false, .bool false, .bool false] 32)) w.heap.size 0 z0) := z6_new w
  have ZF : Hid (∀ j, (w.alloc (.cells #[.int .i64 0, .int .i64 0, .int .i64 0, .bool false, .bool false, .bool false] 32)).frozen? ⟨w.heap.size, j, none⟩ = false) := fz_new w _ _
  have hb0 : w.heap.size < (w.alloc (.cells #[.int .i64 0, .int .i64 0, .int .i64 0, .bool false, .bool false, .bool false] 32)).heap.size := by simp
  have HP : Hid (Tb (w.alloc (.cells #[.int .i64 0, .int .i64 0, .int .i64 0, .bool false, .bool false, .bool false] 32)) p n v l) := hP.c.below (below_new _ _)
  have hl := hP.c.len
  have hn := hP.c.n64
  have hplt := hP.c.lt
  have hne : Hid (∀ g, v.ownBlock = some g → g < w.heap.size) := fun g hg => (hP.c.own.lt g hg).2
  have HX : Hid (l[k]? = some x) := hx.at'
  have hkl : k < l.length := (List.getElem?_eq_some_iff.1 hx.at').1
  have CA : Hid (Calls Try.prog 47 #[.pointer (some ⟨p, 0, none⟩), .int .i64 a, .int .i64 g] (w.alloc (.cells #[.int .i64 0, .int .i64 0, .int .i64 0, .bool false, .bool false, .bool false] 32)) fun e w' => e = .returned (.int .i64 0) ∧ w' = (w.alloc (.cells #[.int .i64 0, .int .i64 0, .int .i64 0, .bool false, .bool false, .bool false] 32))) := by
    have := asked_any HP.out a g
    rw [show askE a g = 0 by simp [askE, ha, hg]] at this
    exact this
  have CT : Hid (Calls Try.prog 46 #[.pointer (some ⟨p, 0, none⟩), .int .i64 a, .int .i64 g] (w.alloc (.cells #[.int .i64 0, .int .i64 0, .int .i64 0, .bool false, .bool false, .bool false] 32)) fun e w' => e = .returned (.int .i64 k) ∧ w' = (w.alloc (.cells #[.int .i64 0, .int .i64 0, .int .i64 0, .bool false, .bool false, .bool false] 32))) := by
    have := at_any HP.out a g
    rw [show atI a g l = (k : Int) by unfold atI; rw [aix_at hx.ahead hx.at' hx.is]] at this
    exact this
  clear hP ha hg hx
  go_enter Try.func30, Try.ntmps30
  go_wp2_with fail
  generalize (w.alloc (.cells #[.int .i64 0, .int .i64 0, .int .i64 0, .bool false, .bool false, .bool false] 32)) = W0 at *
  generalize hbz : w.heap.size = b0 at *
  refine CA.out.mono ?_
  rintro e w1 ⟨rfl, rfl⟩
  go_wp2_with fail
  refine CT.out.mono ?_
  rintro e w1 ⟨rfl, rfl⟩
  obtain ⟨y0, y1, y2, y3, y4, y5⟩ := Z0.out
  have y6 := ZF.out 0
  have y7 := ZF.out 1
  have y8 := ZF.out 2
  have y9 := ZF.out 3
  have y10 := ZF.out 4
  have y11 := ZF.out 5
  obtain ⟨gr, cap, e1, h6, _, hgl, hc1, hc2⟩ := HP.out.own.cell HX.out
  have hgb : gr < b0 := hne.out gr (by rw [e1]; rfl)
  have hc := HP.out.c1
  rw [e1] at hc
  obtain ⟨d0, d1, d2, d3, d4, d5⟩ := h6
  clear CA CT e1
  unfold maxLen at hc2
  go_wp2
  exact bodyPost_ret (v := .tuple #[.agg #[.int .i64 x.a, .int .i64 x.p, .int .i64 x.f, .bool x.r, .bool x.w, .bool x.d], .bool true, .int .i64 0]) (by simp [results, Try.results30, go_sem, *]) rfl ⟨rfl, by subst hbz; exact B0.out.grown (grown6 _ _ _ _ _ _ _ _ _ _ _ _ _ _) B0.out.size (fun k hk => by injection hk with hk; omega)⟩
set_option maxHeartbeats 1000000 in
theorem RPeek_none {w : World} {F : Nat → Prop} {p n : Nat} {l : List Tr} (h : Ca w F p n l) (a g : Int) (ha : okA a = true) (hg : okP g = true) (hx : ∀ x ∈ l, hk a g x = false) :
    Calls Try.prog 30 #[.pointer (some ⟨p, 0, none⟩), .int .i64 a, .int .i64 g] w fun e w' => e = .returned (.tuple #[.agg #[.int .i64 0, .int .i64 0, .int .i64 0, .bool false, .bool false, .bool false], .bool false, .int .i64 0]) ∧ Below w.heap.size w w' := by
  obtain ⟨v, hP⟩ := h
  have B0 : Hid (Below w.heap.size w (w.alloc (.cells #[.int .i64 0, .int .i64 0, .int .i64 0, .bool false, .bool false, .bool false] 32))) := below_new _ _
  have Z0 : Hid (Six (w.alloc (.cells #[.int .i64 0, .int .i64 0, .int .i64 0, .bool false, .bool false, .bool false] 32)) w.heap.size 0 z0) := z6_new w
  have ZF : Hid (∀ j, (w.alloc (.cells #[.int .i64 0, .int .i64 0, .int .i64 0, .bool false, .bool false, .bool false] 32)).frozen? ⟨w.heap.size, j, none⟩ = false) := fz_new w _ _
  have HP : Hid (Tb (w.alloc (.cells #[.int .i64 0, .int .i64 0, .int .i64 0, .bool false, .bool false, .bool false] 32)) p n v l) := hP.c.below (below_new _ _)
  have CA : Hid (Calls Try.prog 47 #[.pointer (some ⟨p, 0, none⟩), .int .i64 a, .int .i64 g] (w.alloc (.cells #[.int .i64 0, .int .i64 0, .int .i64 0, .bool false, .bool false, .bool false] 32)) fun e w' => e = .returned (.int .i64 0) ∧ w' = (w.alloc (.cells #[.int .i64 0, .int .i64 0, .int .i64 0, .bool false, .bool false, .bool false] 32))) := by
    have := asked_any HP.out a g
    rw [show askE a g = 0 by simp [askE, ha, hg]] at this
    exact this
  have CT : Hid (Calls Try.prog 46 #[.pointer (some ⟨p, 0, none⟩), .int .i64 a, .int .i64 g] (w.alloc (.cells #[.int .i64 0, .int .i64 0, .int .i64 0, .bool false, .bool false, .bool false] 32)) fun e w' => e = .returned (.int .i64 (-1)) ∧ w' = (w.alloc (.cells #[.int .i64 0, .int .i64 0, .int .i64 0, .bool false, .bool false, .bool false] 32))) := by
    have := at_any HP.out a g
    rw [show atI a g l = -1 by unfold atI; rw [aix_none hx]] at this
    exact this
  clear hP ha hg hx
  go_enter Try.func30, Try.ntmps30
  go_wp2_with fail
  generalize (w.alloc (.cells #[.int .i64 0, .int .i64 0, .int .i64 0, .bool false, .bool false, .bool false] 32)) = W0 at *
  generalize hbz : w.heap.size = b0 at *
  refine CA.out.mono ?_
  rintro e w1 ⟨rfl, rfl⟩
  go_wp2_with fail
  refine CT.out.mono ?_
  rintro e w1 ⟨rfl, rfl⟩
  obtain ⟨y0, y1, y2, y3, y4, y5⟩ := Z0.out
  have y6 := ZF.out 0
  have y7 := ZF.out 1
  have y8 := ZF.out 2
  have y9 := ZF.out 3
  have y10 := ZF.out 4
  have y11 := ZF.out 5
  clear CA CT
  go_wp2
  exact bodyPost_ret (v := .tuple #[.agg #[.int .i64 0, .int .i64 0, .int .i64 0, .bool false, .bool false, .bool false], .bool false, .int .i64 0]) (by simp [results, Try.results30, go_sem, *]) rfl ⟨rfl, by subst hbz; exact B0.out.grown (grown6 _ _ _ _ _ _ _ _ _ _ _ _ _ _) B0.out.size (fun k hk => by injection hk with hk; omega)⟩
set_option maxHeartbeats 1000000 in
theorem RPeek_err {w : World} {q : Option Addr} (a g : Int) (er : Int) (he : (er != 0) = true) (hA : ∀ W, Below w.heap.size w W → Calls Try.prog 47 #[.pointer q, .int .i64 a, .int .i64 g] W fun e w' => e = .returned (.int .i64 er) ∧ w' = W) :
    Calls Try.prog 30 #[.pointer q, .int .i64 a, .int .i64 g] w fun e w' => e = .returned (.tuple #[.agg #[.int .i64 0, .int .i64 0, .int .i64 0, .bool false, .bool false, .bool false], .bool false, .int .i64 er]) ∧ Below w.heap.size w w' := by
  have B0 : Hid (Below w.heap.size w (w.alloc (.cells #[.int .i64 0, .int .i64 0, .int .i64 0, .bool false, .bool false, .bool false] 32))) := below_new _ _
  have Z0 : Hid (Six (w.alloc (.cells #[.int .i64 0, .int .i64 0, .int .i64 0, .bool false, .bool false, .bool false] 32)) w.heap.size 0 z0) := z6_new w
  have ZF : Hid (∀ j, (w.alloc (.cells #[.int .i64 0, .int .i64 0, .int .i64 0, .bool false, .bool false, .bool false] 32)).frozen? ⟨w.heap.size, j, none⟩ = false) := fz_new w _ _
  have CA : Hid (Calls Try.prog 47 #[.pointer q, .int .i64 a, .int .i64 g] (w.alloc (.cells #[.int .i64 0, .int .i64 0, .int .i64 0, .bool false, .bool false, .bool false] 32)) fun e w' => e = .returned (.int .i64 er) ∧ w' = (w.alloc (.cells #[.int .i64 0, .int .i64 0, .int .i64 0, .bool false, .bool false, .bool false] 32))) := hA _ (below_new _ _)
  clear hA
  go_enter Try.func30, Try.ntmps30
  go_wp2_with fail
  generalize (w.alloc (.cells #[.int .i64 0, .int .i64 0, .int .i64 0, .bool false, .bool false, .bool false] 32)) = W0 at *
  generalize hbz : w.heap.size = b0 at *
  refine CA.out.mono ?_
  rintro e w1 ⟨rfl, rfl⟩
  obtain ⟨y0, y1, y2, y3, y4, y5⟩ := Z0.out
  have y6 := ZF.out 0
  have y7 := ZF.out 1
  have y8 := ZF.out 2
  have y9 := ZF.out 3
  have y10 := ZF.out 4
  have y11 := ZF.out 5
  clear CA
  go_wp2
  exact bodyPost_ret (v := .tuple #[.agg #[.int .i64 0, .int .i64 0, .int .i64 0, .bool false, .bool false, .bool false], .bool false, .int .i64 er]) (by simp [results, Try.results30, go_sem, *]) rfl ⟨rfl, by subst hbz; exact B0.out.grown (grown6 _ _ _ _ _ _ _ _ _ _ _ _ _ _) B0.out.size (fun k hk => by injection hk with hk; omega)⟩
theorem RPeek_ok {w : World} {F : Nat → Prop} {p n : Nat} {l : List Tr} (h : Ca w F p n l) (a g : Int) :
    Calls Try.prog 30 #[.pointer (some ⟨p, 0, none⟩), .int .i64 a, .int .i64 g] w fun e w' => e = .returned (.tuple #[.agg #[.int .i64 (pk a g l).1.a, .int .i64 (pk a g l).1.p, .int .i64 (pk a g l).1.f, .bool (pk a g l).1.r, .bool (pk a g l).1.w, .bool (pk a g l).1.d], .bool (pk a g l).2.1, .int .i64 (pk a g l).2.2]) ∧ Below w.heap.size w w' := by
  rcases isT_cases (a := a) (p := g) (l := l) with ⟨ha, hg, k, x, hx, e⟩ | ⟨ha, hg, hx, e⟩ | hb
  · rw [show pk a g l = (x, true, 0) by simp [pk, ha, hg, e]]
    exact RPeek_hit h a g ha hg hx
  · rw [show pk a g l = (z0, false, 0) by simp [pk, ha, hg, e]]
    exact RPeek_none h a g ha hg hx
  · rw [show pk a g l = (z0, false, 2) by simp [pk, bad_and hb]]
    obtain ⟨v, hP⟩ := h
    refine RPeek_err a g 2 rfl (fun W hW => ?_)
    have := asked_any (hP.c.below hW) a g
    rw [show askE a g = 2 by simp [askE, bad_and hb]] at this
    exact this
theorem RPeek_nil (w : World) (a g : Int) :
    Calls Try.prog 30 #[.pointer none, .int .i64 a, .int .i64 g] w fun e w' => e = .returned (.tuple #[.agg #[.int .i64 0, .int .i64 0, .int .i64 0, .bool false, .bool false, .bool false], .bool false, .int .i64 1]) ∧ Below w.heap.size w w' :=
  RPeek_err a g 1 rfl (fun W _ => asked_nil a g W)
/-- A call of at, told. -/
theorem at_told {w : World} {p n : Nat} {v : Value} {l : List Tr} (hM : Tb w p n v l) {a g : Int} {k : Nat} {x : Tr} (hx : Ix a g l k x) :
    Calls Try.prog 46 #[.pointer (some ⟨p, 0, none⟩), .int .i64 a, .int .i64 g] w fun e w' => e = .returned (.int .i64 k) ∧ w' = w := by
  have := at_any hM a g
  rw [show atI a g l = (k : Int) by unfold atI; rw [aix_at hx.ahead hx.at' hx.is]] at this
  exact this
theorem wo_rm {a g : Int} {l : List Tr} {k : Nat} {x : Tr} (hu : Uq l) (hx : Ix a g l k x) : wo (k : Int) l = rm a g l := by
  rw [rm_at hu hx.at' hx.is]
  unfold wo
  rw [if_neg (by omega), Int.toNat_natCast, List.eraseIdx_eq_take_drop_succ]
end Go.Proofs.Ytkgmdalekakgpaa
