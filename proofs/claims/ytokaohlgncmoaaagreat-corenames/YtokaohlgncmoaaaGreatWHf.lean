/- What Fill of package tlb gives back and writes. -/
import Derived.Test.YtokaohlgncmoaaaGreatWHe
import Derived.Deep.QuietTactic
import Derived.BigQuiet
import Derived.Deep.RegionLaw
import Derived.Maps.AppendAt
import Derived.Laws.AppendOwnNone
namespace Go.Proofs.YtokaohlgncmoaaaGreat.T
open Go.ChangeShapes Go.WideShapes Go.ChangeAt Go.RowKit
set_option linter.unusedVariables false
set_option maxRecDepth 8192

set_option maxHeartbeats 1000000 in
theorem Fill_hit {w : World} {F : Nat → Prop} {p n : Nat} {l : List Tr} (h : Ca w F p n l) (x : Tr) (ha : okA x.a = true) (hg : okP x.p = true) (hf : okF x.f = true) {k : Nat} {y : Tr} (hx : Ix x.a x.p l k y) :
    Calls Tryz.prog 47 #[.pointer (some ⟨p, 0, none⟩), .agg #[.int .i64 x.a, .int .i64 x.p, .int .i64 x.f, .bool x.r, .bool x.w, .bool x.d]] w fun e w' => e = .returned (.int .i64 0) ∧ Lv w F p n (fil n x l) w' := by
  obtain ⟨v, hP⟩ := h
  have B0 : Hid (Below w.heap.size w (w.alloc (.cells #[.int .i64 x.a, .int .i64 x.p, .int .i64 x.f, .bool x.r, .bool x.w, .bool x.d] 43))) := below_new _ _
  have X0 : Hid (Six (w.alloc (.cells #[.int .i64 x.a, .int .i64 x.p, .int .i64 x.f, .bool x.r, .bool x.w, .bool x.d] 43)) w.heap.size 0 x) := six_new w x 43
  have hb0 : w.heap.size < (w.alloc (.cells #[.int .i64 x.a, .int .i64 x.p, .int .i64 x.f, .bool x.r, .bool x.w, .bool x.d] 43)).heap.size := by simp
  have HP : Hid (Pt (w.alloc (.cells #[.int .i64 x.a, .int .i64 x.p, .int .i64 x.f, .bool x.r, .bool x.w, .bool x.d] 43)) F p n v l) := hP.below (below_new _ _)
  have hl := hP.c.len
  have hn := hP.c.n64
  have hplt := hP.c.lt
  have hne : Hid (∀ g, v.ownBlock = some g → g < w.heap.size) := fun g hg => (hP.c.own.lt g hg).2
  have HF : Hid (∀ k, F k → k < w.heap.size) := hP.lt
  have HX : Hid (Ix x.a x.p l k y) := hx
  have hkl : k < l.length := (List.getElem?_eq_some_iff.1 hx.at').1
  have CS : Hid (Calls _ _ _ _ _) := seek_ok HP.out.c x.a x.p ha hg hx
  have CF : Hid (∀ W, Calls Tryz.prog 88 #[.int .i64 x.f] W fun e w' => e = .returned (.bool true) ∧ w' = W) := fun W => by rw [← hf]; exact isFrame_any x.f W
  clear hP ha hg hx hf
  obtain ⟨d0, d1, d2, d3, d4, d5⟩ := X0.out
  go_enter Tryz.func47, Tryz.ntmps47
  go_wp2_with fail
  generalize w.alloc (.cells #[.int .i64 x.a, .int .i64 x.p, .int .i64 x.f, .bool x.r, .bool x.w, .bool x.d] 43) = W0 at *
  generalize hbz : w.heap.size = b0 at *
  clear d0 d1 d2 d3 d4 d5
  refine CS.out.mono ?_
  rintro e w1 ⟨rfl, hb⟩
  have T1 : Hid (Pt w1 F p n v l) := HP.out.below hb
  have B1 : Hid (Below b0 w w1) := B0.out.trans (hb.mono (by omega))
  have hsz := hb.size
  have X1 : Hid (Six w1 b0 0 x) := X0.out.below hb0 hb
  clear hb CS X0
  obtain ⟨d0, d1, d2, d3, d4, d5⟩ := X1.out
  go_wp2_with fail
  refine (CF.out _).mono ?_
  rintro e w' ⟨rfl, rfl⟩
  go_wp2_with fail
  clear d0 d1 d2 d3 d4 d5
  obtain ⟨gr, cap, L, e3, _, hB, hc1, hm, hL, hT⟩ := T1.out.c.own.shape.resolve_left (by rintro ⟨_, e⟩; rw [e] at hkl; simp at hkl)
  subst e3
  have hgb : gr < b0 := hne.out gr rfl
  have hpg : p ≠ gr := fun e => T1.out.c.vp (by rw [e]; rfl)
  have HL : Hid (∀ w2, w'.grownBy w2 (some gr) → Blk w2 gr 43 (tc x ++ (L.take (k * 6) ++ L.drop ((k + 1) * 6))) → Lv w' F p n (fil n x l) w2) := fun w2 G hB' => by
    have e := rm_at T1.out.c.uq HX.out.at' HX.out.is
    have ef : fil n x l = x :: rm x.a x.p l := by
      unfold fil
      rw [List.take_of_length_le]
      have := rm_len_at T1.out.c.uq HX.out.at' HX.out.is
      simp
      omega
    rw [ef, e]
    refine T1.out.led hm hc1 hL hT hkl x G hB' ?_
    rw [← e]
    exact T1.out.c.uq.front x
  have CL : Hid (Calls _ _ _ _ _) := lead_ok hB T1.out.c.lt T1.out.c.c1 hpg k hkl (by omega) hc1 hm hL (by rw [hT]; exact tv_one l) x
  clear hB hm hL hT T1
  refine CL.out.mono ?_
  rintro e w3 ⟨rfl, G, hB'⟩
  have L3 : Hid (Lv w F p n (fil n x l) w3) := (HL.out w3 G hB').pre (by subst hbz; exact B1.out)
  clear HL CL G hB'
  go_wp2
  go_ret
  exact ⟨rfl, L3.out⟩
set_option maxHeartbeats 1000000 in
theorem Fill_full {w : World} {F : Nat → Prop} {p n : Nat} {l : List Tr} (h : Ca w F p n l) (x : Tr) (ha : okA x.a = true) (hg : okP x.p = true) (hf : okF x.f = true) (hx : ∀ y ∈ l, hk x.a x.p y = false) (hlen : l.length = n) :
    Calls Tryz.prog 47 #[.pointer (some ⟨p, 0, none⟩), .agg #[.int .i64 x.a, .int .i64 x.p, .int .i64 x.f, .bool x.r, .bool x.w, .bool x.d]] w fun e w' => e = .returned (.int .i64 0) ∧ Lv w F p n (fil n x l) w' := by
  obtain ⟨v, hP⟩ := h
  have B0 : Hid (Below w.heap.size w (w.alloc (.cells #[.int .i64 x.a, .int .i64 x.p, .int .i64 x.f, .bool x.r, .bool x.w, .bool x.d] 43))) := below_new _ _
  have X0 : Hid (Six (w.alloc (.cells #[.int .i64 x.a, .int .i64 x.p, .int .i64 x.f, .bool x.r, .bool x.w, .bool x.d] 43)) w.heap.size 0 x) := six_new w x 43
  have hb0 : w.heap.size < (w.alloc (.cells #[.int .i64 x.a, .int .i64 x.p, .int .i64 x.f, .bool x.r, .bool x.w, .bool x.d] 43)).heap.size := by simp
  have HP : Hid (Pt (w.alloc (.cells #[.int .i64 x.a, .int .i64 x.p, .int .i64 x.f, .bool x.r, .bool x.w, .bool x.d] 43)) F p n v l) := hP.below (below_new _ _)
  have hl := hP.c.len
  have hn := hP.c.n64
  have hplt := hP.c.lt
  have hne : Hid (∀ g, v.ownBlock = some g → g < w.heap.size) := fun g hg => (hP.c.own.lt g hg).2
  have HF : Hid (∀ k, F k → k < w.heap.size) := hP.lt
  have HX : Hid (∀ y ∈ l, hk x.a x.p y = false) := hx
  have hn1 := hP.c.n1
  have CS : Hid (Calls _ _ _ _ _) := seek_none HP.out.c x.a x.p ha hg hx
  have CF : Hid (∀ W, Calls Tryz.prog 88 #[.int .i64 x.f] W fun e w' => e = .returned (.bool true) ∧ w' = W) := fun W => by rw [← hf]; exact isFrame_any x.f W
  clear hP ha hg hx hf
  obtain ⟨d0, d1, d2, d3, d4, d5⟩ := X0.out
  go_enter Tryz.func47, Tryz.ntmps47
  go_wp2_with fail
  generalize w.alloc (.cells #[.int .i64 x.a, .int .i64 x.p, .int .i64 x.f, .bool x.r, .bool x.w, .bool x.d] 43) = W0 at *
  generalize hbz : w.heap.size = b0 at *
  clear d0 d1 d2 d3 d4 d5
  refine CS.out.mono ?_
  rintro e w1 ⟨rfl, hb⟩
  have T1 : Hid (Pt w1 F p n v l) := HP.out.below hb
  have B1 : Hid (Below b0 w w1) := B0.out.trans (hb.mono (by omega))
  have hsz := hb.size
  have X1 : Hid (Six w1 b0 0 x) := X0.out.below hb0 hb
  clear hb CS X0
  obtain ⟨d0, d1, d2, d3, d4, d5⟩ := X1.out
  go_wp2_with fail
  refine (CF.out _).mono ?_
  rintro e w' ⟨rfl, rfl⟩
  obtain ⟨gr, cap, L, e3, _, hB, hc1, hm, hL, hT⟩ := T1.out.c.own.shape.resolve_left (by rintro ⟨_, e⟩; rw [e] at hlen; simp at hlen; omega)
  subst e3
  have q0 := T1.out.c.c0
  have q1 := T1.out.c.c1
  obtain ⟨k, hk⟩ : ∃ k, l.length = k + 1 := ⟨l.length - 1, by omega⟩
  have hkl : k < l.length := by omega
  have HK : Hid (l.length = k + 1) := hk
  rw [hk] at q1
  have hn2 : n = k + 1 := by omega
  have HN : Hid (n = k + 1) := hn2
  rw [hn2] at q0
  clear hn2 hk hlen
  go_wp2_with fail
  go_quiet (fail)
  clear q0 q1 d0 d1 d2 d3 d4 d5
  have T2 : Hid (Pt (w'.drewN nq) F p n (.slice (some ⟨gr, 0, none⟩) l.length cap) l) := T1.out.below (below_drewN _ _ _)
  have B2 : Hid (Below b0 w (w'.drewN nq)) := B1.out.trans (below_drewN _ _ _)
  have X2 : Hid (Six (w'.drewN nq) b0 0 x) := X1.out.of_eq rfl
  have hB2 : Blk (w'.drewN nq) gr 43 L := hB
  clear hB T1 B1 X1
  have hB := hB2
  clear hB2
  generalize w'.drewN nq = w5 at *
  clear hsz
  have T1 := T2
  have B1 := B2
  have X1 := X2
  clear T2 B2 X2
  generalize w5 = w' at *
  obtain ⟨d0, d1, d2, d3, d4, d5⟩ := X1.out
  have q1 := T1.out.c.c1
  rw [HK.out] at q1
  go_wp2_with fail
  clear d0 d1 d2 d3 d4 d5 q1
  have hgb : gr < b0 := hne.out gr rfl
  have hpg : p ≠ gr := fun e => T1.out.c.vp (by rw [e]; rfl)
  have HL : Hid (∀ w2, w'.grownBy w2 (some gr) → Blk w2 gr 43 (tc x ++ (L.take (k * 6) ++ L.drop ((k + 1) * 6))) → Lv w' F p n (fil n x l) w2) := fun w2 G hB' => by
    have ef : fil n x l = x :: (l.take k ++ l.drop (k + 1)) := by
      unfold fil
      rw [rm_none HX.out, HN.out, List.take_succ_cons, List.drop_eq_nil_of_le (by rw [HK.out]; exact Nat.le_refl _), List.append_nil]
    rw [ef]
    refine T1.out.led hm hc1 hL hT hkl x G hB' ?_
    rw [← ef]
    exact fil_uq n x T1.out.c.uq
  have CL : Hid (Calls _ _ _ _ _) := lead_ok hB T1.out.c.lt T1.out.c.c1 hpg k hkl (by omega) hc1 hm hL (by rw [hT]; exact tv_one l) x
  clear hB hm hL hT T1
  refine CL.out.mono ?_
  rintro e w3 ⟨rfl, G, hB'⟩
  have L3 : Hid (Lv w F p n (fil n x l) w3) := (HL.out w3 G hB').pre (by subst hbz; exact B1.out)
  clear HL CL G hB'
  go_wp2
  go_ret
  exact ⟨rfl, L3.out⟩
theorem box_cells (w : World) (x : Tr) (ty : TypeId) : ∀ j u, (tc x)[j]? = some u → (w.alloc (.cells (tc x).toArray ty)).cell? ((⟨w.heap.size, 0, none⟩ : Addr).add j) = some u := by
  intro j u hj
  rw [Go.WideShapes.add_plain, Nat.zero_add, (blk_new w (tc x) ty).cell j]
  exact hj
theorem snoc_uq {l : List Tr} {x : Tr} (h : Uq l) (hx : ∀ y ∈ l, hk x.a x.p y = false) : Uq (l ++ [x]) := by
  unfold Uq
  rw [List.pairwise_append]
  refine ⟨h, List.pairwise_singleton _ _, fun y hy z hz => ?_⟩
  simp at hz
  subst hz
  have := hx y hy
  simp only [hk] at this ⊢
  rw [show (z.a == y.a) = (y.a == z.a) from Bool.beq_comm, show (z.p == y.p) = (y.p == z.p) from Bool.beq_comm]
  exact this
theorem fill_grow {w' w1 : World} {F : Nat → Prop} {p n k cap g1 k1 : Nat} {ao : Option Addr} {l : List Tr} {x : Tr} (T : Pt w' F p n (.slice ao l.length cap) l) (hk : l.length = k) (hlen : k < n) (hx : ∀ y ∈ l, Proofs.YtokaohlgncmoaaaGreat.T.hk x.a x.p y = false)
    (G : w'.grownBy w1 (Value.slice ao k cap).ownBlock) (o : w1.ownsRow 0 43 6 (.slice (some ⟨g1, 0, none⟩) (k + 1) k1) (k + 1) (tv l ++ tc x)) (hat : (Value.slice ao k cap).ownBlock = some g1 ∨ w'.heap.size ≤ g1) :
    ∃ F2, Pt (w1.setCell ⟨p, 1, none⟩ (.slice (some ⟨g1, 0, none⟩) (k + 1) k1)) F2 p n (.slice (some ⟨g1, 0, none⟩) (k + 1) k1) (l ++ [x]) ∧ Kp F F2 w' (w1.setCell ⟨p, 1, none⟩ (.slice (some ⟨g1, 0, none⟩) (k + 1) k1)) := by
  subst hk
  have G2 := grown_setCell' w1 p 1 (.slice (some ⟨g1, 0, none⟩) (l.length + 1) k1)
  have hp := T.c.lt
  have s1 := G.size
  have s2 := G2.size
  have hpg : p ≠ g1 := by
    intro e
    rcases hat with q | q
    · exact T.c.vp (by rw [q, e])
    · omega
  have c1 : w1.cell? ⟨p, 1, none⟩ = some (.slice ao l.length cap) := (G.cell_far ⟨p, 1, none⟩ hp (fun e => T.c.vp e.symm)).trans T.c.c1
  refine T.turn_new _ _ (G2.os.trans G.os) (G2.tape.trans G.tape) (G2.output.trans G.output) (by omega) (fun i hi hip hiv => (G2.block i (by omega) (some_ne hip)).trans (G.block i hi hiv)) ?_ (World.cell?_setCell_same _ _ _ c1) ?_ ?_ (fun g hg => ?_) (by simp; omega) (snoc_uq T.c.uq hx)
  · rw [World.cell?_setCell_other _ _ _ _ (by intro h; cases h)]
    exact (G.cell_far ⟨p, 0, none⟩ hp (fun e => T.c.vp e.symm)).trans T.c.c0
  · rw [World.frozen?_setCell]
    exact (G.frozen_far ⟨p, 1, none⟩ hp (fun e => T.c.vp e.symm)).trans T.c.z1
  · have ho : Own 0 w1 (.slice (some ⟨g1, 0, none⟩) (l.length + 1) k1) (l ++ [x]) := by
      unfold Own
      rw [tv_app, show tv [x] = tc x by simp [tv]]
      simpa using o
    refine ho.of_eq (fun g hg => G2.block g (ho.lt g hg).2 (some_ne ?_))
    cases hg
    exact fun e => hpg e.symm
  · cases hg
    exact hat
set_option maxHeartbeats 1000000 in
theorem Fill_new {w : World} {F : Nat → Prop} {p n : Nat} {l : List Tr} (h : Ca w F p n l) (x : Tr) (ha : okA x.a = true) (hg : okP x.p = true) (hf : okF x.f = true) (hx : ∀ y ∈ l, hk x.a x.p y = false) (hlen : l.length < n) :
    Calls Tryz.prog 47 #[.pointer (some ⟨p, 0, none⟩), .agg #[.int .i64 x.a, .int .i64 x.p, .int .i64 x.f, .bool x.r, .bool x.w, .bool x.d]] w fun e w' => e = .returned (.int .i64 0) ∧ Lv w F p n (fil n x l) w' := by
  obtain ⟨v, hP⟩ := h
  have B0 : Hid (Below w.heap.size w (w.alloc (.cells #[.int .i64 x.a, .int .i64 x.p, .int .i64 x.f, .bool x.r, .bool x.w, .bool x.d] 43))) := below_new _ _
  have X0 : Hid (Six (w.alloc (.cells #[.int .i64 x.a, .int .i64 x.p, .int .i64 x.f, .bool x.r, .bool x.w, .bool x.d] 43)) w.heap.size 0 x) := six_new w x 43
  have hb0 : w.heap.size < (w.alloc (.cells #[.int .i64 x.a, .int .i64 x.p, .int .i64 x.f, .bool x.r, .bool x.w, .bool x.d] 43)).heap.size := by simp
  have HP : Hid (Pt (w.alloc (.cells #[.int .i64 x.a, .int .i64 x.p, .int .i64 x.f, .bool x.r, .bool x.w, .bool x.d] 43)) F p n v l) := hP.below (below_new _ _)
  have hl := hP.c.len
  have hn := hP.c.n64
  have hplt := hP.c.lt
  have hne : Hid (∀ g, v.ownBlock = some g → g < w.heap.size) := fun g hg => (hP.c.own.lt g hg).2
  have HF : Hid (∀ k, F k → k < w.heap.size) := hP.lt
  have HX : Hid (∀ y ∈ l, hk x.a x.p y = false) := hx
  have hn1 := hP.c.n1
  have CS : Hid (Calls _ _ _ _ _) := seek_none HP.out.c x.a x.p ha hg hx
  have CF : Hid (∀ W, Calls Tryz.prog 88 #[.int .i64 x.f] W fun e w' => e = .returned (.bool true) ∧ w' = W) := fun W => by rw [← hf]; exact isFrame_any x.f W
  clear hP ha hg hx hf
  obtain ⟨d0, d1, d2, d3, d4, d5⟩ := X0.out
  go_enter Tryz.func47, Tryz.ntmps47
  go_wp2_with fail
  generalize w.alloc (.cells #[.int .i64 x.a, .int .i64 x.p, .int .i64 x.f, .bool x.r, .bool x.w, .bool x.d] 43) = W0 at *
  generalize hbz : w.heap.size = b0 at *
  clear d0 d1 d2 d3 d4 d5
  refine CS.out.mono ?_
  rintro e w1 ⟨rfl, hb⟩
  have T1 : Hid (Pt w1 F p n v l) := HP.out.below hb
  have B1 : Hid (Below b0 w w1) := B0.out.trans (hb.mono (by omega))
  have hsz := hb.size
  have X1 : Hid (Six w1 b0 0 x) := X0.out.below hb0 hb
  clear hb CS X0
  obtain ⟨d0, d1, d2, d3, d4, d5⟩ := X1.out
  go_wp2_with fail
  refine (CF.out _).mono ?_
  rintro e w' ⟨rfl, rfl⟩
  obtain ⟨ao, cap, hv⟩ := T1.out.c.own.len
  subst hv
  have q0 := T1.out.c.c0
  have q1 := T1.out.c.c1
  obtain ⟨k, hk⟩ : ∃ k, l.length = k := ⟨_, rfl⟩
  have HK : Hid (l.length = k) := hk
  rw [hk] at q1 hlen hl
  clear hk
  go_wp2_with fail
  go_quiet (fail)
  clear q0 q1 d0 d1 d2 d3 d4 d5
  have T2 : Hid (Pt (w'.drewN nq) F p n (.slice ao l.length cap) l) := T1.out.below (below_drewN _ _ _)
  have B2 : Hid (Below b0 w (w'.drewN nq)) := B1.out.trans (below_drewN _ _ _)
  have X2 : Hid (Six (w'.drewN nq) b0 0 x) := X1.out.of_eq rfl
  clear T1 B1 X1
  generalize w'.drewN nq = w5 at *
  clear hsz
  have T1 := T2
  have B1 := B2
  have X1 := X2
  clear T2 B2 X2
  generalize w5 = w' at *
  obtain ⟨d0, d1, d2, d3, d4, d5⟩ := X1.out
  have q1 := T1.out.c.c1
  rw [HK.out] at q1
  go_wp2_with fail
  obtain ⟨i0, hi0, hz0, hz1, hz2⟩ := info_parts Tryz.infoT
  have f1 := T1.out.c.z1
  have HO : Hid (∀ W, Below w'.heap.size w' W → W.ownsRow 0 43 6 (.slice ao k cap) k (tv l)) := fun W hW => by
    have := T1.out.c.own.below hW
    unfold Own at this
    rw [HK.out] at this
    exact this
  have HB1 : Hid (Below w'.heap.size w' (w'.alloc (.cells #[.int .i64 x.a, .int .i64 x.p, .int .i64 x.f, .bool x.r, .bool x.w, .bool x.d] 43)).drew) := (below_new _ _).drew
  have HN1 : Hid (∀ j u, (tc x)[j]? = some u → (w'.alloc (.cells #[.int .i64 x.a, .int .i64 x.p, .int .i64 x.f, .bool x.r, .bool x.w, .bool x.d] 43)).drew.cell? ((⟨w'.heap.size, 0, none⟩ : Addr).add j) = some u) := box_cells w' x 43
  have HT : Hid (∀ v ∈ tc x, v.oneCell' = true) := tc_one x
  have HC : Hid (∀ w1, w'.grownBy w1 (Value.slice ao k cap).ownBlock → w1.cell? ⟨p, 1, none⟩ = some (.slice ao k cap)) := fun w1 G => by
    have := (G.cell_far ⟨p, 1, none⟩ T1.out.c.lt (fun e => T1.out.c.vp (by rw [HK.out]; exact e.symm))).trans T1.out.c.c1
    rw [HK.out] at this
    exact this
  have HZ : Hid (∀ w1, w'.grownBy w1 (Value.slice ao k cap).ownBlock → w1.frozen? ⟨p, 1, none⟩ = false) := fun w1 G => (G.frozen_far ⟨p, 1, none⟩ T1.out.c.lt (fun e => T1.out.c.vp (by rw [HK.out]; exact e.symm))).trans T1.out.c.z1
  have q2 : (w'.alloc (.cells #[.int .i64 x.a, .int .i64 x.p, .int .i64 x.f, .bool x.r, .bool x.w, .bool x.d] 43)).cell? ⟨p, 1, none⟩ = some (.slice ao k cap) := ((below_new w' _).cell (p := ⟨p, 1, none⟩) T1.out.c.lt).trans q1
  go_region_law (refine step_append_lies _ rfl (.tmp 39) (.tmp 41) 114 rfl 0 43 i0 _ 6 32 Tryz.underlying114 hi0 hz0 hz1 hz2 rfl (by decide) (.slice ao k cap) k (tv l) rfl (HO.out _ HB1.out) ⟨w'.heap.size, 0, none⟩ 1 1 (tc x) rfl rfl HN1.out HT.out (by omega) (by unfold maxLen; omega) (by omega) (Nat.zero_le _) (w'.heap.size + 1) (by simp) ?_; intro g1 k1 w1 o1 gr1 at1 lt1; have G1 : Hid (w'.grownBy w1 (Value.slice ao k cap).ownBlock) := ((World.grownBy_alloc w' _ _).trans (drew_grown _ _)).trans gr1; have r1 := HC.out w1 G1.out; have r2 := HZ.out w1 G1.out)
  all_goals (
    have O1 : Hid (w1.ownsRow 0 43 6 (.slice (some ⟨g1, 0, none⟩) (k + 1) k1) (k + 1) (tv l ++ tc x)) := o1
    have A1 : Hid ((Value.slice ao k cap).ownBlock = some g1 ∨ w'.heap.size ≤ g1) := by
      rcases at1 with q | q
      · exact Or.inl q
      · exact Or.inr (by omega)
    clear o1 gr1 at1 r1 r2 d0 d1 d2 d3 d4 d5 q1 q2 f1
    have hbw : b0 < w'.heap.size := World.block_lt_of_cell? w' _ X1.out.c0
    obtain ⟨F2, T2, K2⟩ := fill_grow T1.out HK.out hlen HX.out G1.out O1.out A1.out
    have HT2 : Hid (Pt (w1.setCell ⟨p, 1, none⟩ (.slice (some ⟨g1, 0, none⟩) (k + 1) k1)) F2 p n (.slice (some ⟨g1, 0, none⟩) (k + 1) k1) (l ++ [x])) := T2
    have HK2 : Hid (Kp F F2 w (w1.setCell ⟨p, 1, none⟩ (.slice (some ⟨g1, 0, none⟩) (k + 1) k1))) := (Kp.of_below F (by subst hbz; exact B1.out)).trans K2
    have X2 : Hid (Six (w1.setCell ⟨p, 1, none⟩ (.slice (some ⟨g1, 0, none⟩) (k + 1) k1)) b0 0 x) := X1.out.of_eq (((grown_setCell' w1 p 1 _).block b0 (by have := G1.out.size; have := B1.out.size; omega) (some_ne (by omega))).trans (G1.out.block b0 (by omega) (fun e => by have := hne.out b0 (by rw [HK.out]; exact e.symm); omega)))
    clear T2 K2 G1 O1 A1 T1 B1 X1
    generalize w1.setCell ⟨p, 1, none⟩ (.slice (some ⟨g1, 0, none⟩) (k + 1) k1) = w2 at *
    obtain ⟨d0, d1, d2, d3, d4, d5⟩ := X2.out
    have q1 := HT2.out.c.c1
    go_wp2_with fail
    clear d0 d1 d2 d3 d4 d5 q1
    have hll : (l ++ [x]).length = k + 1 := by simp [HK.out]
    obtain ⟨gr', cap', L, e3, _, hB, hc1, hm, hL, hT⟩ := HT2.out.c.own.shape.resolve_left (by rintro ⟨e, _⟩; cases e)
    rw [hll] at e3 hc1 hT
    cases e3
    have hpg : p ≠ g1 := fun e => HT2.out.c.vp (by rw [e]; rfl)
    have HL : Hid (∀ w3, w2.grownBy w3 (some g1) → Blk w3 g1 43 (tc x ++ (L.take (k * 6) ++ L.drop ((k + 1) * 6))) → Lv w2 F2 p n (fil n x l) w3) := fun w3 G hB' => by
      have ef : fil n x l = x :: ((l ++ [x]).take k ++ (l ++ [x]).drop (k + 1)) := by
        unfold fil
        rw [rm_none HX.out, List.drop_eq_nil_of_le (by rw [hll]; exact Nat.le_refl _), List.append_nil, ← HK.out, List.take_left, List.take_of_length_le]
        simp
        rw [HK.out]
        omega
      rw [ef]
      have T3 := HT2.out
      rw [← hll] at T3
      refine T3.led (cap := k1) hm (by rw [hll]; exact hc1) hL (by rw [hll]; exact hT) (by rw [hll]; omega) x G hB' ?_
      rw [← ef]
      refine fil_uq n x ?_
      exact HT2.out.c.uq.sub (List.sublist_append_left _ _)
    have CL : Hid (Calls _ _ _ _ _) := lead_ok hB HT2.out.c.lt HT2.out.c.c1 hpg k (by omega) (by omega) hc1 hm hL (by rw [hT]; exact tv_one _) x
    clear hB hm hL hT
    refine CL.out.mono ?_
    rintro e w3 ⟨rfl, G, hB'⟩
    have L3 : Hid (Lv w F p n (fil n x l) w3) := by
      obtain ⟨F3, c3, k3⟩ := HL.out w3 G hB'
      exact ⟨F3, c3, HK2.out.trans k3⟩
    clear HL CL G hB'
    go_wp2
    go_ret
    exact ⟨rfl, L3.out⟩)
theorem Fill_bad {w : World} {F : Nat → Prop} {p n : Nat} {l : List Tr} (h : Ca w F p n l) (x : Tr) (hbd : okA x.a = false ∨ okP x.p = false) :
    Calls Tryz.prog 47 #[.pointer (some ⟨p, 0, none⟩), .agg #[.int .i64 x.a, .int .i64 x.p, .int .i64 x.f, .bool x.r, .bool x.w, .bool x.d]] w fun e w' => e = .returned (.int .i64 2) ∧ Below w.heap.size w w' := by
  obtain ⟨v, hP⟩ := h
  have B0 : Hid (Below w.heap.size w (w.alloc (.cells #[.int .i64 x.a, .int .i64 x.p, .int .i64 x.f, .bool x.r, .bool x.w, .bool x.d] 43))) := below_new _ _
  have X0 : Hid (Six (w.alloc (.cells #[.int .i64 x.a, .int .i64 x.p, .int .i64 x.f, .bool x.r, .bool x.w, .bool x.d] 43)) w.heap.size 0 x) := six_new w x 43
  have CS : Hid (Calls _ _ _ _ _) := seek_bad (w := w.alloc (.cells #[.int .i64 x.a, .int .i64 x.p, .int .i64 x.f, .bool x.r, .bool x.w, .bool x.d] 43)) (hP.c.below (below_new _ _)) x.a x.p hbd
  clear hP hbd
  obtain ⟨d0, d1, d2, d3, d4, d5⟩ := X0.out
  go_enter Tryz.func47, Tryz.ntmps47
  go_wp2_with fail
  refine CS.out.mono ?_
  rintro e w1 ⟨rfl, rfl⟩
  clear CS
  go_wp2
  go_ret
  exact ⟨rfl, B0.out⟩
theorem Fill_frame {w : World} {F : Nat → Prop} {p n : Nat} {l : List Tr} (h : Ca w F p n l) (x : Tr) (ha : okA x.a = true) (hg : okP x.p = true) (hf : okF x.f = false) :
    Calls Tryz.prog 47 #[.pointer (some ⟨p, 0, none⟩), .agg #[.int .i64 x.a, .int .i64 x.p, .int .i64 x.f, .bool x.r, .bool x.w, .bool x.d]] w fun e w' => e = .returned (.int .i64 2) ∧ Below w.heap.size w w' := by
  obtain ⟨v, hP⟩ := h
  have B0 : Hid (Below w.heap.size w (w.alloc (.cells #[.int .i64 x.a, .int .i64 x.p, .int .i64 x.f, .bool x.r, .bool x.w, .bool x.d] 43))) := below_new _ _
  have X0 : Hid (Six (w.alloc (.cells #[.int .i64 x.a, .int .i64 x.p, .int .i64 x.f, .bool x.r, .bool x.w, .bool x.d] 43)) w.heap.size 0 x) := six_new w x 43
  have hb0 : w.heap.size < (w.alloc (.cells #[.int .i64 x.a, .int .i64 x.p, .int .i64 x.f, .bool x.r, .bool x.w, .bool x.d] 43)).heap.size := by simp
  have CS : ∃ c : Int, -1 ≤ c ∧ Calls Tryz.prog 68 #[.pointer (some ⟨p, 0, none⟩), .int .i64 x.a, .int .i64 x.p] (w.alloc (.cells #[.int .i64 x.a, .int .i64 x.p, .int .i64 x.f, .bool x.r, .bool x.w, .bool x.d] 43)) fun e w' => e = .returned (.tuple #[.int .i64 c, .int .i64 0]) ∧ Below (w.alloc (.cells #[.int .i64 x.a, .int .i64 x.p, .int .i64 x.f, .bool x.r, .bool x.w, .bool x.d] 43)).heap.size (w.alloc (.cells #[.int .i64 x.a, .int .i64 x.p, .int .i64 x.f, .bool x.r, .bool x.w, .bool x.d] 43)) w' := by
    rcases ix_or x.a x.p l with ⟨k, y, hx, _⟩ | ⟨hx, _⟩
    · exact ⟨k, by omega, seek_ok (hP.c.below (below_new _ _)) x.a x.p ha hg hx⟩
    · exact ⟨-1, by omega, seek_none (hP.c.below (below_new _ _)) x.a x.p ha hg hx⟩
  obtain ⟨c, hc, CS⟩ := CS
  have CS : Hid (Calls _ _ _ _ _) := CS
  have CF : Hid (∀ W, Calls Tryz.prog 88 #[.int .i64 x.f] W fun e w' => e = .returned (.bool false) ∧ w' = W) := fun W => by rw [← hf]; exact isFrame_any x.f W
  clear hP ha hg hf
  obtain ⟨d0, d1, d2, d3, d4, d5⟩ := X0.out
  go_enter Tryz.func47, Tryz.ntmps47
  go_wp2_with fail
  generalize w.alloc (.cells #[.int .i64 x.a, .int .i64 x.p, .int .i64 x.f, .bool x.r, .bool x.w, .bool x.d] 43) = W0 at *
  generalize hbz : w.heap.size = b0 at *
  clear d0 d1 d2 d3 d4 d5
  refine CS.out.mono ?_
  rintro e w1 ⟨rfl, hb⟩
  have B1 : Hid (Below b0 w w1) := B0.out.trans (hb.mono (by omega))
  have X1 : Hid (Six w1 b0 0 x) := X0.out.below hb0 hb
  clear hb CS X0
  obtain ⟨d0, d1, d2, d3, d4, d5⟩ := X1.out
  go_wp2_with fail
  refine (CF.out _).mono ?_
  rintro e w' ⟨rfl, rfl⟩
  go_wp2
  go_ret
  exact ⟨rfl, by subst hbz; exact B1.out⟩
def filE (x : Tr) : Int := if okA x.a && okP x.p && okF x.f then 0 else 2
def filL (n : Nat) (x : Tr) (l : List Tr) : List Tr := if okA x.a && okP x.p && okF x.f then fil n x l else l
theorem Fill_ok {w : World} {F : Nat → Prop} {p n : Nat} {l : List Tr} (h : Ca w F p n l) (x : Tr) :
    Calls Tryz.prog 47 #[.pointer (some ⟨p, 0, none⟩), .agg #[.int .i64 x.a, .int .i64 x.p, .int .i64 x.f, .bool x.r, .bool x.w, .bool x.d]] w fun e w' => e = .returned (.int .i64 (filE x)) ∧ Lv w F p n (filL n x l) w' := by
  by_cases hok : (okA x.a && okP x.p && okF x.f) = true
  · rw [show filE x = 0 by simp only [filE, hok, if_true], show filL n x l = fil n x l by simp only [filL, hok, if_true]]
    simp only [Bool.and_eq_true] at hok
    obtain ⟨⟨ha, hg⟩, hf⟩ := hok
    rcases ix_or x.a x.p l with ⟨k, y, hx, _⟩ | ⟨hx, _⟩
    · exact Fill_hit h x ha hg hf hx
    · obtain ⟨v, hP⟩ := h
      have hl := hP.c.len
      by_cases e : l.length = n
      · exact Fill_full ⟨v, hP⟩ x ha hg hf hx e
      · exact Fill_new ⟨v, hP⟩ x ha hg hf hx (by omega)
  · have hok' : (okA x.a && okP x.p && okF x.f) = false := by simpa using hok
    rw [show filE x = 2 by simp [filE, hok'], show filL n x l = l by simp [filL, hok']]
    cases ha : okA x.a with
    | false =>
      refine (Fill_bad h x (Or.inl ha)).mono ?_
      rintro e w' ⟨he, hb⟩
      exact ⟨he, Lv.of_below h hb⟩
    | true =>
      cases hg : okP x.p with
      | false =>
        refine (Fill_bad h x (Or.inr hg)).mono ?_
        rintro e w' ⟨he, hb⟩
        exact ⟨he, Lv.of_below h hb⟩
      | true =>
        have hf : okF x.f = false := by simpa [ha, hg] using hok'
        refine (Fill_frame h x ha hg hf).mono ?_
        rintro e w' ⟨he, hb⟩
        exact ⟨he, Lv.of_below h hb⟩
end Go.Proofs.YtokaohlgncmoaaaGreat.T
namespace Go.Proofs.YtokaohlgncmoaaaGreat.T
open Go.ChangeShapes Go.WideShapes Go.ChangeAt Go.RowKit
set_option linter.unusedVariables false
set_option maxRecDepth 8192

theorem isT_cases {a p : Int} {l : List Tr} : (okA a = true ∧ okP p = true ∧ ∃ k x, Ix a p l k x ∧ look a p l = some x) ∨ (okA a = true ∧ okP p = true ∧ (∀ x ∈ l, hk a p x = false) ∧ look a p l = none) ∨ (okA a = false ∨ okP p = false) := by
  cases ha : okA a with
  | false => exact Or.inr (Or.inr (Or.inl rfl))
  | true =>
    cases hg : okP p with
    | false => exact Or.inr (Or.inr (Or.inr rfl))
    | true =>
      rcases ix_or a p l with ⟨k, x, h1, h2⟩ | ⟨h1, h2⟩
      · exact Or.inl ⟨rfl, rfl, k, x, h1, h2⟩
      · exact Or.inr (Or.inl ⟨rfl, rfl, h1, h2⟩)
theorem bad_and {a p : Int} (h : okA a = false ∨ okP p = false) : (okA a && okP p) = false := by
  rcases h with h | h <;> simp [h]
theorem Find_ok {w : World} {F : Nat → Prop} {p n : Nat} {l : List Tr} (h : Ca w F p n l) (a g : Int) :
    Calls Tryz.prog 19 #[.pointer (some ⟨p, 0, none⟩), .int .i64 a, .int .i64 g] w fun e w' => e = .returned (.tuple #[.agg #[.int .i64 (pk a g l).1.a, .int .i64 (pk a g l).1.p, .int .i64 (pk a g l).1.f, .bool (pk a g l).1.r, .bool (pk a g l).1.w, .bool (pk a g l).1.d], .bool (pk a g l).2.1, .int .i64 (pk a g l).2.2]) ∧ Lv w F p n (fd a g l) w' := by
  rcases isT_cases (a := a) (p := g) (l := l) with ⟨ha, hg, k, x, hx, e⟩ | ⟨ha, hg, hx, e⟩ | hb
  · rw [show pk a g l = (x, true, 0) by simp [pk, ha, hg, e], show fd a g l = x :: rm a g l by simp [fd, ha, hg, e]]
    exact Find_hit h a g ha hg hx
  · rw [show pk a g l = (z0, false, 0) by simp [pk, ha, hg, e], show fd a g l = l by simp [fd, ha, hg, e]]
    refine (Find_none h a g ha hg hx).mono ?_
    rintro e w' ⟨he, hb⟩
    exact ⟨he, Lv.of_below h hb⟩
  · rw [show pk a g l = (z0, false, 2) by simp [pk, bad_and hb], show fd a g l = l by simp [fd, bad_and hb]]
    refine (Find_bad h a g hb).mono ?_
    rintro e w' ⟨he, hb⟩
    exact ⟨he, Lv.of_below h hb⟩
end Go.Proofs.YtokaohlgncmoaaaGreat.T
namespace Go.Proofs.YtokaohlgncmoaaaGreat.T
open Go.ChangeShapes Go.WideShapes Go.ChangeAt Go.RowKit
set_option linter.unusedVariables false
set_option maxRecDepth 8192

theorem Pt.emptied {w : World} {F : Nat → Prop} {p n : Nat} {v : Value} {l : List Tr} (T : Pt w F p n v l) : Lv w F p n [] (w.setCell ⟨p, 1, none⟩ (.slice none 0 0)) := by
  have G := grown_setCell' w p 1 (.slice none 0 0)
  obtain ⟨F', P', K'⟩ := T.turn_new (w' := w.setCell ⟨p, 1, none⟩ (.slice none 0 0)) (.slice none 0 0) [] G.os G.tape G.output G.size (fun i hi hip _ => G.block i hi (some_ne hip)) (by
      rw [World.cell?_setCell_other _ _ _ _ (by intro h; cases h)]
      exact T.c.c0) (World.cell?_setCell_same _ _ _ T.c.c1) (by
      rw [World.frozen?_setCell]
      exact T.c.z1) (Own.nil _ _) (fun g hg => by cases hg) (by simp) List.Pairwise.nil
  exact ⟨F', ⟨_, P'⟩, K'⟩
theorem Empty_ok {w : World} {F : Nat → Prop} {p n : Nat} {l : List Tr} (h : Ca w F p n l) :
    Calls Tryz.prog 65 #[.pointer (some ⟨p, 0, none⟩)] w fun e w' => e = .returned (.tuple #[.int .i64 l.length, .int .i64 0]) ∧ Lv w F p n [] w' := by
  obtain ⟨v, hP⟩ := h
  have CM : Hid (Calls _ _ _ _ _) := made_any hP.c
  have HL : Hid (Lv w F p n [] (w.setCell ⟨p, 1, none⟩ (.slice none 0 0))) := hP.emptied
  obtain ⟨ao, cap, hv⟩ := hP.c.own.len
  have q1 := hP.c.c1
  have z1 := hP.c.z1
  rw [hv] at q1
  have hl := hP.c.len
  have hn := hP.c.n64
  clear hP hv
  go_enter Tryz.func65, Tryz.ntmps65
  go_wp2_with fail
  refine CM.out.mono ?_
  rintro e w' ⟨rfl, rfl⟩
  go_wp2
  go_ret2
  exact ⟨rfl, HL.out⟩
end Go.Proofs.YtokaohlgncmoaaaGreat.T
namespace Go.Proofs.YtokaohlgncmoaaaGreat.T
open Go.ChangeShapes Go.WideShapes Go.ChangeAt Go.RowKit
set_option linter.unusedVariables false
set_option maxRecDepth 8192

theorem wp_append_any {w : World} {o : Oper} {a : Act} {K : Act → World → Prop} {Q : Exit → Act → World → Prop} {R : Value → World → Prop} (s x : Operand)
    (ho : o.op = .call { callee := .builtin .append, args := #[s, x], argTypes := #[114, 114] }) (vs vx : Value) (hs : a.eval s = vs) (hx : a.eval x = vx)
    (hr : ∃ v' w', (Builtin.append_ #[114, 114] o.type #[vs, vx]).run Tryz.prog w = .ok v' w' ∧ R v' w') (h : ∀ v' w', R v' w' → K (a.put o.dst v') w') : o.wp Tryz.prog a w K Q := by
  obtain ⟨v', w', hr, hR⟩ := hr
  unfold Oper.wp execOp
  simp only [ho, resolve, invoke, builtin, Sem.run_bind, Sem.run_pure, Result.andThen_ok, List.map_toArray, List.map_cons, List.map_nil, hs, hx, hr]
  exact h v' w' hR
theorem wpList_append_any {w : World} {ops : Array Oper} {rest : List Oper} {o : Oper} {a : Act} {Q : Exit → Act → World → Prop} {R : Value → World → Prop} (hgd : o.guard = none) (s x : Operand)
    (ho : o.op = .call { callee := .builtin .append, args := #[s, x], argTypes := #[114, 114] }) (vs vx : Value) (hs : a.eval s = vs) (hx : a.eval x = vx)
    (hr : ∃ v' w', (Builtin.append_ #[114, 114] o.type #[vs, vx]).run Tryz.prog w = .ok v' w' ∧ R v' w') (h : ∀ v' w', R v' w' → wpList Tryz.prog ops Q rest (a.put o.dst v') w') : wpList Tryz.prog ops Q (o :: rest) a w :=
  wpList_plain hgd fun _ hK => wp_append_any s x ho vs vx hs hx hr fun v' w' hR => hK _ _ (h v' w' hR)
theorem front_run {W : World} {g0 r vrc k B : Nat} {vr0 : Option Addr} {L : List Tr} {x : Tr} (hB : Blk W g0 43 (tc x)) (hb : B ≤ g0) (ho : Own 0 W (.slice vr0 r vrc) L) (hk : k ≤ L.length) (hl : L.length ≤ 1000) (ty : TypeId) :
    ∃ v' w', (Builtin.append_ #[114, 114] ty #[.slice (some ⟨g0, 0, none⟩) 1 1, .slice vr0 k vrc]).run Tryz.prog W = .ok v' w' ∧ (Own B w' v' (x :: L.take k) ∧ W.grownBy w' (some g0)) := by
  obtain ⟨i0, hi0, hz0, hz1, hz2⟩ := info_parts Tryz.infoT
  have hown : Own B W (.slice (some ⟨g0, 0, none⟩) 1 1) [x] := Own.of_blk (l := [x]) hb hB (by simp) (by unfold maxLen; omega) (by rfl) (by simp [tv]; rfl)
  have hlt := hB.lt
  rcases ho.shape with ⟨e, rfl⟩ | ⟨g, cap, L', e, _, hB2, h1, h2, h3, h4⟩
  · cases e
    obtain rfl : k = 0 := by simpa using hk
    refine ⟨_, _, run_append_owned_none (P := Tryz.prog) (w := W) B 114 ty 43 i0 6 Tryz.underlying114 hi0 _ 1 (tv [x]) hown, ?_, World.grownBy.refl _ _⟩
    simpa using hown
  · cases e
    have ht : (tv (L.take k)).length = k * 6 := by rw [tv_len]; simp; omega
    obtain ⟨v', w', hr, o, G, _⟩ := run_append_own (P := Tryz.prog) W B 114 ty 43 i0 _ 6 32 Tryz.underlying114 hi0 hz0 hz1 hz2 rfl (by decide) (.slice (some ⟨g0, 0, none⟩) 1 1) 1 (tv [x]) hown ⟨g, 0, none⟩ k vrc (tv (L.take k)) ht (fun j u hu => by
      have hj := (List.getElem?_eq_some_iff.1 hu).1
      rw [ht] at hj
      rw [Go.WideShapes.add_plain, Nat.zero_add, hB2.cell, ← List.getElem?_take_of_lt (j := L.length * 6) (by omega), h4, ← List.getElem?_take_of_lt (j := k * 6) (by omega), tv_take]
      exact hu) (tv_one _) (by unfold maxLen; omega) (by omega) (by omega)
    refine ⟨v', w', hr, ?_, G⟩
    unfold Own
    rw [show x :: L.take k = [x] ++ L.take k by rfl, tv_app, List.length_append]
    have : (L.take k).length = k := by simp; omega
    rw [this]
    exact o
end Go.Proofs.YtokaohlgncmoaaaGreat.T
