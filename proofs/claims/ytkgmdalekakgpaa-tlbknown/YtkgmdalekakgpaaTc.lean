/- What Peek, Find, Fill and Mark of package tlb give back and write. -/
import Derived.Test.YtkgmdalekakgpaaRo
namespace Go.Proofs.Ytkgmdalekakgpaa
open Go.ChangeShapes Go.WideShapes Go.ChangeAt Go.RowKit
set_option linter.unusedVariables false

def z0 : Tr := ⟨0, 0, 0, false, false, false⟩
/-- What Peek and Find tell. -/
def pk (a p : Int) (l : List Tr) : Tr × Bool × Int := if okA a && okP p then (match look a p l with | some x => (x, true, 0) | none => (z0, false, 0)) else (z0, false, 2)
/-- What Find leaves. -/
def fd (a p : Int) (l : List Tr) : List Tr := if okA a && okP p then (match look a p l with | some x => x :: rm a p l | none => l) else l
/-- What Mark and Drop tell. -/
def isT (a p : Int) (l : List Tr) : Bool × Int := if okA a && okP p then ((look a p l).isSome, 0) else (false, 2)
theorem Lv.pre {w w1 w2 : World} {F : Nat → Prop} {p n : Nat} {l' : List Tr} (b : Below w.heap.size w w1) (h : Lv w1 F p n l' w2) : Lv w F p n l' w2 := by
  obtain ⟨F', c, k⟩ := h
  exact ⟨F', c, (Kp.of_below F b).trans k⟩
theorem Lv.post {w w1 w2 : World} {F : Nat → Prop} {p n : Nat} {l' : List Tr} (h : Lv w F p n l' w1) (b : Below w1.heap.size w1 w2) : Lv w F p n l' w2 := by
  obtain ⟨F', c, k⟩ := h
  exact ⟨F', c.below b, k.trans (Kp.of_below F' b)⟩
/-- A write to a block that was new ahead of the call. -/
theorem Lv.fin {w w2 w3 w4 : World} {F : Nat → Prop} {p n b0 : Nat} {l' : List Tr} (hF : ∀ k, F k → k < w.heap.size) (b : Below w.heap.size w w2) (h : Lv w2 F p n l' w3) (G : w3.grownBy w4 (some b0)) (h0 : w.heap.size ≤ b0) (hlt : b0 < w2.heap.size) : Lv w F p n l' w4 := by
  obtain ⟨F', c, k⟩ := h
  have hs := b.size
  have hs2 := k.size
  refine ⟨F', c.of_eq G.size (fun i hi => G.block i (c.lt i hi) (some_ne ?_)), ⟨G.os.trans (k.os.trans b.os), G.tape.trans (k.tape.trans b.tape), G.output.trans (k.output.trans b.output), by have := G.size; omega, fun i hi hFi => ?_, fun i hi => ?_⟩⟩
  · rcases k.new i hi with q | q
    · have := hF i q; omega
    · omega
  · exact (G.block i (by omega) (some_ne (by omega))).trans ((k.block i (by omega) hFi).trans (b.block i hi))
  · rcases k.new i hi with q | q
    · exact Or.inl q
    · exact Or.inr (by omega)
theorem Pt.below {w w' : World} {F : Nat → Prop} {p n : Nat} {v : Value} {l : List Tr} (h : Pt w F p n v l) (k : Below w.heap.size w w') : Pt w' F p n v l :=
  ⟨fun i hi => Nat.lt_of_lt_of_le (h.lt i hi) k.size, h.c.below k, h.fp, h.fv⟩
/-- The row's cells behind lead. -/
theorem lead_list {L : List Value} {l : List Tr} (h : L.take (l.length * 6) = tv l) (hL : l.length * 6 ≤ L.length) {k : Nat} (hk : k < l.length) (x : Tr) :
    (tc x ++ (L.take (k * 6) ++ L.drop ((k + 1) * 6))).take (l.length * 6) = tv (x :: (l.take k ++ l.drop (k + 1))) := by
  have e1 : L.take (k * 6) = tv (l.take k) := by
    rw [← tv_take, ← h, List.take_take, Nat.min_eq_left (by omega)]
  have e2 : (L.drop ((k + 1) * 6)).take ((l.length - (k + 1)) * 6) = tv (l.drop (k + 1)) := by
    rw [← tv_drop, ← h, List.drop_take]
    congr 1
    omega
  have l1 : (tv (l.take k)).length = k * 6 := by rw [tv_len]; simp; omega
  rw [e1, show l.length * 6 = (tc x).length + ((tv (l.take k)).length + (l.length - (k + 1)) * 6) by rw [l1]; simp [tc]; omega, List.take_length_add_append, List.take_length_add_append, e2, tv_cons, tv_app]
/-- Behind lead: a row with another one ahead, in the stead of the k-th. -/
theorem Pt.led {w w' : World} {F : Nat → Prop} {p n g cap : Nat} {l : List Tr} {L : List Value} {k : Nat} (h : Pt w F p n (.slice (some ⟨g, 0, none⟩) l.length cap) l) (hc2 : cap ≤ maxLen) (hc1 : l.length ≤ cap) (hL : L.length = cap * 6) (hT : L.take (l.length * 6) = tv l) (hk : k < l.length) (x : Tr)
    (G : w.grownBy w' (some g)) (hB : Blk w' g 32 (tc x ++ (L.take (k * 6) ++ L.drop ((k + 1) * 6)))) (hu : Uq (x :: (l.take k ++ l.drop (k + 1)))) : Lv w F p n (x :: (l.take k ++ l.drop (k + 1))) w' := by
  have el : (x :: (l.take k ++ l.drop (k + 1))).length = l.length := by simp; omega
  have hlen := h.c.len
  refine h.turn_in _ g rfl G ?_ (by omega) hu
  rw [← el]
  refine Own.of_blk (Nat.zero_le _) hB (by omega) hc2 (by simp [tc]; omega) ?_
  rw [el]
  exact lead_list hT (by omega) hk x
theorem NoT.below {w w' : World} {q : Option Addr} (h : NoT w q) (k : Below w.heap.size w w') : NoT w' q := by
  rcases h with h | ⟨p, h1, h2⟩
  · exact Or.inl h
  · refine Or.inr ⟨p, h1, (k.cell (p := ⟨p, 0, none⟩) ?_).trans h2⟩
    exact World.block_lt_of_cell? w _ h2
theorem z6_new (w : World) : Six (w.alloc (.cells #[.int .i64 0, .int .i64 0, .int .i64 0, .bool false, .bool false, .bool false] 32)) w.heap.size 0 z0 := six_new w z0 32
theorem fz_new (w : World) (cs : Array Value) (t : TypeId) (j : Nat) : (w.alloc (.cells cs t)).frozen? ⟨w.heap.size, j, none⟩ = false := Blk.frozen (L := cs.toList) (blk_new w cs.toList t) j
set_option maxHeartbeats 1000000 in
theorem Peek_hit {w : World} {F : Nat → Prop} {p n : Nat} {l : List Tr} (h : Ca w F p n l) (a g : Int) (ha : okA a = true) (hg : okP g = true) {k : Nat} {x : Tr} (hx : Ix a g l k x) :
    Calls Try.prog 24 #[.pointer (some ⟨p, 0, none⟩), .int .i64 a, .int .i64 g] w fun e w' => e = .returned (.tuple #[.agg #[.int .i64 x.a, .int .i64 x.p, .int .i64 x.f, .bool x.r, .bool x.w, .bool x.d], .bool true, .int .i64 0]) ∧ Below w.heap.size w w' := by
  obtain ⟨v, hP⟩ := h
  have B0 : Hid (Below w.heap.size w (w.alloc (.cells #[.int .i64 0, .int .i64 0, .int .i64 0, .bool false, .bool false, .bool false] 32))) := below_new _ _
  have Z0 : Hid (Six (w.alloc (.cells #[.int .i64 0, .int .i64 0, .int .i64 0, .bool false, .bool false, .bool false] 32)) w.heap.size 0 z0) := z6_new w
  have ZF : Hid (∀ j, (w.alloc (.cells #[.int .i64 0, .int .i64 0, .int .i64 0, .bool false, .bool false, .bool false] 32)).frozen? ⟨w.heap.size, j, none⟩ = false) := fz_new w _ _
  have hb0 : w.heap.size < (w.alloc (.cells #[.int .i64 0, .int .i64 0, .int .i64 0, .bool false, .bool false, .bool false] 32)).heap.size := by simp
  have HP : Hid (Tb (w.alloc (.cells #[.int .i64 0, .int .i64 0, .int .i64 0, .bool false, .bool false, .bool false] 32)) p n v l) := hP.c.below (below_new _ _)
  have hl := hP.c.len
  have hn := hP.c.n64
  have hplt := hP.c.lt
  have hne : Hid (∀ g, v.ownBlock = some g → g < w.heap.size) := fun g hg => (hP.c.own.lt g hg).2
  have HX : Hid (l[k]? = some x) := hx.at'
  have hkl : k < l.length := (List.getElem?_eq_some_iff.1 hx.at').1
  have CS : Hid (Calls _ _ _ _ _) := seek_ok HP.out a g ha hg hx
  clear hP ha hg hx
  go_enter Try.func24, Try.ntmps24
  go_wp2_with fail
  generalize (w.alloc (.cells #[.int .i64 0, .int .i64 0, .int .i64 0, .bool false, .bool false, .bool false] 32)) = W0 at *
  generalize hbz : w.heap.size = b0 at *
  refine CS.out.mono ?_
  rintro e w1 ⟨rfl, hb⟩
  have T1 : Hid (Tb w1 p n v l) := HP.out.below hb
  have B1 : Hid (Below b0 w w1) := B0.out.trans (hb.mono (by omega))
  have hsz := hb.size
  obtain ⟨y0, y1, y2, y3, y4, y5⟩ := Z0.out.below hb0 hb
  have yf : ∀ j, w1.frozen? ⟨b0, j, none⟩ = false := fun j => (hb.frozen (p := ⟨b0, j, none⟩) hb0).trans (ZF.out j)
  have y6 := yf 0
  have y7 := yf 1
  have y8 := yf 2
  have y9 := yf 3
  have y10 := yf 4
  have y11 := yf 5
  obtain ⟨gr, cap, e1, h6, _, hgl, hc1, hc2⟩ := T1.out.own.cell HX.out
  have hgb : gr < b0 := hne.out gr (by rw [e1]; rfl)
  have hc := T1.out.c1
  rw [e1] at hc
  obtain ⟨d0, d1, d2, d3, d4, d5⟩ := h6
  clear hb CS yf e1
  unfold maxLen at hc2
  go_wp2
  exact bodyPost_ret (v := .tuple #[.agg #[.int .i64 x.a, .int .i64 x.p, .int .i64 x.f, .bool x.r, .bool x.w, .bool x.d], .bool true, .int .i64 0]) (by simp [results, Try.results24, go_sem, *]) rfl ⟨rfl, by subst hbz; exact B1.out.grown (grown6 _ _ _ _ _ _ _ _ _ _ _ _ _ _) B1.out.size (fun k hk => by injection hk with hk; omega)⟩
set_option maxHeartbeats 1000000 in
theorem Peek_none {w : World} {F : Nat → Prop} {p n : Nat} {l : List Tr} (h : Ca w F p n l) (a g : Int) (ha : okA a = true) (hg : okP g = true) (hx : ∀ x ∈ l, hk a g x = false) :
    Calls Try.prog 24 #[.pointer (some ⟨p, 0, none⟩), .int .i64 a, .int .i64 g] w fun e w' => e = .returned (.tuple #[.agg #[.int .i64 0, .int .i64 0, .int .i64 0, .bool false, .bool false, .bool false], .bool false, .int .i64 0]) ∧ Below w.heap.size w w' := by
  have B0 : Hid (Below w.heap.size w (w.alloc (.cells #[.int .i64 0, .int .i64 0, .int .i64 0, .bool false, .bool false, .bool false] 32))) := below_new _ _
  have Z0 : Hid (Six (w.alloc (.cells #[.int .i64 0, .int .i64 0, .int .i64 0, .bool false, .bool false, .bool false] 32)) w.heap.size 0 z0) := z6_new w
  have ZF : Hid (∀ j, (w.alloc (.cells #[.int .i64 0, .int .i64 0, .int .i64 0, .bool false, .bool false, .bool false] 32)).frozen? ⟨w.heap.size, j, none⟩ = false) := fz_new w _ _
  have hb0 : w.heap.size < (w.alloc (.cells #[.int .i64 0, .int .i64 0, .int .i64 0, .bool false, .bool false, .bool false] 32)).heap.size := by simp
  have CS : Hid (Calls _ _ _ _ _) := (by obtain ⟨v, hP⟩ := h; exact seek_none (hP.c.below (below_new _ _)) a g ha hg hx : Calls Try.prog 38 #[.pointer (some ⟨p, 0, none⟩), .int .i64 a, .int .i64 g] (w.alloc (.cells #[.int .i64 0, .int .i64 0, .int .i64 0, .bool false, .bool false, .bool false] 32)) _)
  clear ha hg hx h
  go_enter Try.func24, Try.ntmps24
  go_wp2_with fail
  generalize (w.alloc (.cells #[.int .i64 0, .int .i64 0, .int .i64 0, .bool false, .bool false, .bool false] 32)) = W0 at *
  generalize hbz : w.heap.size = b0 at *
  refine CS.out.mono ?_
  rintro e w1 ⟨rfl, hb⟩
  have B1 : Hid (Below b0 w w1) := B0.out.trans (hb.mono (by omega))
  have hsz := hb.size
  obtain ⟨y0, y1, y2, y3, y4, y5⟩ := Z0.out.below hb0 hb
  have yf : ∀ j, w1.frozen? ⟨b0, j, none⟩ = false := fun j => (hb.frozen (p := ⟨b0, j, none⟩) hb0).trans (ZF.out j)
  have y6 := yf 0
  have y7 := yf 1
  have y8 := yf 2
  have y9 := yf 3
  have y10 := yf 4
  have y11 := yf 5
  clear hb CS yf
  go_wp2
  exact bodyPost_ret (v := .tuple #[.agg #[.int .i64 0, .int .i64 0, .int .i64 0, .bool false, .bool false, .bool false], .bool false, .int .i64 0]) (by simp [results, Try.results24, go_sem, *]) rfl ⟨rfl, by subst hbz; exact B1.out.grown (grown6 _ _ _ _ _ _ _ _ _ _ _ _ _ _) B1.out.size (fun k hk => by injection hk with hk; omega)⟩
set_option maxHeartbeats 1000000 in
theorem Peek_bad {w : World} {F : Nat → Prop} {p n : Nat} {l : List Tr} (h : Ca w F p n l) (a g : Int) (hbd : okA a = false ∨ okP g = false) :
    Calls Try.prog 24 #[.pointer (some ⟨p, 0, none⟩), .int .i64 a, .int .i64 g] w fun e w' => e = .returned (.tuple #[.agg #[.int .i64 0, .int .i64 0, .int .i64 0, .bool false, .bool false, .bool false], .bool false, .int .i64 2]) ∧ Below w.heap.size w w' := by
  have B0 : Hid (Below w.heap.size w (w.alloc (.cells #[.int .i64 0, .int .i64 0, .int .i64 0, .bool false, .bool false, .bool false] 32))) := below_new _ _
  have Z0 : Hid (Six (w.alloc (.cells #[.int .i64 0, .int .i64 0, .int .i64 0, .bool false, .bool false, .bool false] 32)) w.heap.size 0 z0) := z6_new w
  have ZF : Hid (∀ j, (w.alloc (.cells #[.int .i64 0, .int .i64 0, .int .i64 0, .bool false, .bool false, .bool false] 32)).frozen? ⟨w.heap.size, j, none⟩ = false) := fz_new w _ _
  have hb0 : w.heap.size < (w.alloc (.cells #[.int .i64 0, .int .i64 0, .int .i64 0, .bool false, .bool false, .bool false] 32)).heap.size := by simp
  have CS : Hid (Calls _ _ _ _ _) := (by obtain ⟨v, hP⟩ := h; exact seek_bad (hP.c.below (below_new _ _)) a g hbd : Calls Try.prog 38 #[.pointer (some ⟨p, 0, none⟩), .int .i64 a, .int .i64 g] (w.alloc (.cells #[.int .i64 0, .int .i64 0, .int .i64 0, .bool false, .bool false, .bool false] 32)) _)
  clear hbd h
  go_enter Try.func24, Try.ntmps24
  go_wp2_with fail
  generalize (w.alloc (.cells #[.int .i64 0, .int .i64 0, .int .i64 0, .bool false, .bool false, .bool false] 32)) = W0 at *
  generalize hbz : w.heap.size = b0 at *
  refine CS.out.mono ?_
  rintro e w1 ⟨rfl, rfl⟩
  have hb : Below w1.heap.size w1 w1 := Below.refl _ _
  have B1 : Hid (Below b0 w w1) := B0.out.trans (hb.mono (by omega))
  have hsz := hb.size
  obtain ⟨y0, y1, y2, y3, y4, y5⟩ := Z0.out.below hb0 hb
  have yf : ∀ j, w1.frozen? ⟨b0, j, none⟩ = false := fun j => (hb.frozen (p := ⟨b0, j, none⟩) hb0).trans (ZF.out j)
  have y6 := yf 0
  have y7 := yf 1
  have y8 := yf 2
  have y9 := yf 3
  have y10 := yf 4
  have y11 := yf 5
  clear hb CS yf
  go_wp2
  exact bodyPost_ret (v := .tuple #[.agg #[.int .i64 0, .int .i64 0, .int .i64 0, .bool false, .bool false, .bool false], .bool false, .int .i64 2]) (by simp [results, Try.results24, go_sem, *]) rfl ⟨rfl, by subst hbz; exact B1.out.grown (grown6 _ _ _ _ _ _ _ _ _ _ _ _ _ _) B1.out.size (fun k hk => by injection hk with hk; omega)⟩
set_option maxHeartbeats 1000000 in
theorem Peek_nil {w : World} {q : Option Addr} (hN : NoT w q) (a g : Int) :
    Calls Try.prog 24 #[.pointer q, .int .i64 a, .int .i64 g] w fun e w' => e = .returned (.tuple #[.agg #[.int .i64 0, .int .i64 0, .int .i64 0, .bool false, .bool false, .bool false], .bool false, .int .i64 1]) ∧ Below w.heap.size w w' := by
  have B0 : Hid (Below w.heap.size w (w.alloc (.cells #[.int .i64 0, .int .i64 0, .int .i64 0, .bool false, .bool false, .bool false] 32))) := below_new _ _
  have Z0 : Hid (Six (w.alloc (.cells #[.int .i64 0, .int .i64 0, .int .i64 0, .bool false, .bool false, .bool false] 32)) w.heap.size 0 z0) := z6_new w
  have ZF : Hid (∀ j, (w.alloc (.cells #[.int .i64 0, .int .i64 0, .int .i64 0, .bool false, .bool false, .bool false] 32)).frozen? ⟨w.heap.size, j, none⟩ = false) := fz_new w _ _
  have hb0 : w.heap.size < (w.alloc (.cells #[.int .i64 0, .int .i64 0, .int .i64 0, .bool false, .bool false, .bool false] 32)).heap.size := by simp
  have CS : Hid (Calls _ _ _ _ _) := seek_nil (w := (w.alloc (.cells #[.int .i64 0, .int .i64 0, .int .i64 0, .bool false, .bool false, .bool false] 32))) (hN.below (below_new w _)) a g
  clear hN
  go_enter Try.func24, Try.ntmps24
  go_wp2_with fail
  generalize (w.alloc (.cells #[.int .i64 0, .int .i64 0, .int .i64 0, .bool false, .bool false, .bool false] 32)) = W0 at *
  generalize hbz : w.heap.size = b0 at *
  refine CS.out.mono ?_
  rintro e w1 ⟨rfl, rfl⟩
  have hb : Below w1.heap.size w1 w1 := Below.refl _ _
  have B1 : Hid (Below b0 w w1) := B0.out.trans (hb.mono (by omega))
  have hsz := hb.size
  obtain ⟨y0, y1, y2, y3, y4, y5⟩ := Z0.out.below hb0 hb
  have yf : ∀ j, w1.frozen? ⟨b0, j, none⟩ = false := fun j => (hb.frozen (p := ⟨b0, j, none⟩) hb0).trans (ZF.out j)
  have y6 := yf 0
  have y7 := yf 1
  have y8 := yf 2
  have y9 := yf 3
  have y10 := yf 4
  have y11 := yf 5
  clear hb CS yf
  go_wp2
  exact bodyPost_ret (v := .tuple #[.agg #[.int .i64 0, .int .i64 0, .int .i64 0, .bool false, .bool false, .bool false], .bool false, .int .i64 1]) (by simp [results, Try.results24, go_sem, *]) rfl ⟨rfl, by subst hbz; exact B1.out.grown (grown6 _ _ _ _ _ _ _ _ _ _ _ _ _ _) B1.out.size (fun k hk => by injection hk with hk; omega)⟩
set_option maxHeartbeats 1000000 in
theorem Find_none {w : World} {F : Nat → Prop} {p n : Nat} {l : List Tr} (h : Ca w F p n l) (a g : Int) (ha : okA a = true) (hg : okP g = true) (hx : ∀ x ∈ l, hk a g x = false) :
    Calls Try.prog 16 #[.pointer (some ⟨p, 0, none⟩), .int .i64 a, .int .i64 g] w fun e w' => e = .returned (.tuple #[.agg #[.int .i64 0, .int .i64 0, .int .i64 0, .bool false, .bool false, .bool false], .bool false, .int .i64 0]) ∧ Below w.heap.size w w' := by
  have B0 : Hid (Below w.heap.size w (w.alloc (.cells #[.int .i64 0, .int .i64 0, .int .i64 0, .bool false, .bool false, .bool false] 32))) := below_new _ _
  have Z0 : Hid (Six (w.alloc (.cells #[.int .i64 0, .int .i64 0, .int .i64 0, .bool false, .bool false, .bool false] 32)) w.heap.size 0 z0) := z6_new w
  have ZF : Hid (∀ j, (w.alloc (.cells #[.int .i64 0, .int .i64 0, .int .i64 0, .bool false, .bool false, .bool false] 32)).frozen? ⟨w.heap.size, j, none⟩ = false) := fz_new w _ _
  have hb0 : w.heap.size < (w.alloc (.cells #[.int .i64 0, .int .i64 0, .int .i64 0, .bool false, .bool false, .bool false] 32)).heap.size := by simp
  have CS : Hid (Calls _ _ _ _ _) := (by obtain ⟨v, hP⟩ := h; exact seek_none (hP.c.below (below_new _ _)) a g ha hg hx : Calls Try.prog 38 #[.pointer (some ⟨p, 0, none⟩), .int .i64 a, .int .i64 g] (w.alloc (.cells #[.int .i64 0, .int .i64 0, .int .i64 0, .bool false, .bool false, .bool false] 32)) _)
  clear ha hg hx h
  go_enter Try.func16, Try.ntmps16
  go_wp2_with fail
  generalize (w.alloc (.cells #[.int .i64 0, .int .i64 0, .int .i64 0, .bool false, .bool false, .bool false] 32)) = W0 at *
  generalize hbz : w.heap.size = b0 at *
  refine CS.out.mono ?_
  rintro e w1 ⟨rfl, hb⟩
  have B1 : Hid (Below b0 w w1) := B0.out.trans (hb.mono (by omega))
  have hsz := hb.size
  obtain ⟨y0, y1, y2, y3, y4, y5⟩ := Z0.out.below hb0 hb
  have yf : ∀ j, w1.frozen? ⟨b0, j, none⟩ = false := fun j => (hb.frozen (p := ⟨b0, j, none⟩) hb0).trans (ZF.out j)
  have y6 := yf 0
  have y7 := yf 1
  have y8 := yf 2
  have y9 := yf 3
  have y10 := yf 4
  have y11 := yf 5
  clear hb CS yf
  go_wp2
  exact bodyPost_ret (v := .tuple #[.agg #[.int .i64 0, .int .i64 0, .int .i64 0, .bool false, .bool false, .bool false], .bool false, .int .i64 0]) (by simp [results, Try.results16, go_sem, *]) rfl ⟨rfl, by subst hbz; exact B1.out.grown (grown6 _ _ _ _ _ _ _ _ _ _ _ _ _ _) B1.out.size (fun k hk => by injection hk with hk; omega)⟩
set_option maxHeartbeats 1000000 in
theorem Find_bad {w : World} {F : Nat → Prop} {p n : Nat} {l : List Tr} (h : Ca w F p n l) (a g : Int) (hbd : okA a = false ∨ okP g = false) :
    Calls Try.prog 16 #[.pointer (some ⟨p, 0, none⟩), .int .i64 a, .int .i64 g] w fun e w' => e = .returned (.tuple #[.agg #[.int .i64 0, .int .i64 0, .int .i64 0, .bool false, .bool false, .bool false], .bool false, .int .i64 2]) ∧ Below w.heap.size w w' := by
  have B0 : Hid (Below w.heap.size w (w.alloc (.cells #[.int .i64 0, .int .i64 0, .int .i64 0, .bool false, .bool false, .bool false] 32))) := below_new _ _
  have Z0 : Hid (Six (w.alloc (.cells #[.int .i64 0, .int .i64 0, .int .i64 0, .bool false, .bool false, .bool false] 32)) w.heap.size 0 z0) := z6_new w
  have ZF : Hid (∀ j, (w.alloc (.cells #[.int .i64 0, .int .i64 0, .int .i64 0, .bool false, .bool false, .bool false] 32)).frozen? ⟨w.heap.size, j, none⟩ = false) := fz_new w _ _
  have hb0 : w.heap.size < (w.alloc (.cells #[.int .i64 0, .int .i64 0, .int .i64 0, .bool false, .bool false, .bool false] 32)).heap.size := by simp
  have CS : Hid (Calls _ _ _ _ _) := (by obtain ⟨v, hP⟩ := h; exact seek_bad (hP.c.below (below_new _ _)) a g hbd : Calls Try.prog 38 #[.pointer (some ⟨p, 0, none⟩), .int .i64 a, .int .i64 g] (w.alloc (.cells #[.int .i64 0, .int .i64 0, .int .i64 0, .bool false, .bool false, .bool false] 32)) _)
  clear hbd h
  go_enter Try.func16, Try.ntmps16
  go_wp2_with fail
  generalize (w.alloc (.cells #[.int .i64 0, .int .i64 0, .int .i64 0, .bool false, .bool false, .bool false] 32)) = W0 at *
  generalize hbz : w.heap.size = b0 at *
  refine CS.out.mono ?_
  rintro e w1 ⟨rfl, rfl⟩
  have hb : Below w1.heap.size w1 w1 := Below.refl _ _
  have B1 : Hid (Below b0 w w1) := B0.out.trans (hb.mono (by omega))
  have hsz := hb.size
  obtain ⟨y0, y1, y2, y3, y4, y5⟩ := Z0.out.below hb0 hb
  have yf : ∀ j, w1.frozen? ⟨b0, j, none⟩ = false := fun j => (hb.frozen (p := ⟨b0, j, none⟩) hb0).trans (ZF.out j)
  have y6 := yf 0
  have y7 := yf 1
  have y8 := yf 2
  have y9 := yf 3
  have y10 := yf 4
  have y11 := yf 5
  clear hb CS yf
  go_wp2
  exact bodyPost_ret (v := .tuple #[.agg #[.int .i64 0, .int .i64 0, .int .i64 0, .bool false, .bool false, .bool false], .bool false, .int .i64 2]) (by simp [results, Try.results16, go_sem, *]) rfl ⟨rfl, by subst hbz; exact B1.out.grown (grown6 _ _ _ _ _ _ _ _ _ _ _ _ _ _) B1.out.size (fun k hk => by injection hk with hk; omega)⟩
set_option maxHeartbeats 1000000 in
theorem Find_nil {w : World} {q : Option Addr} (hN : NoT w q) (a g : Int) :
    Calls Try.prog 16 #[.pointer q, .int .i64 a, .int .i64 g] w fun e w' => e = .returned (.tuple #[.agg #[.int .i64 0, .int .i64 0, .int .i64 0, .bool false, .bool false, .bool false], .bool false, .int .i64 1]) ∧ Below w.heap.size w w' := by
  have B0 : Hid (Below w.heap.size w (w.alloc (.cells #[.int .i64 0, .int .i64 0, .int .i64 0, .bool false, .bool false, .bool false] 32))) := below_new _ _
  have Z0 : Hid (Six (w.alloc (.cells #[.int .i64 0, .int .i64 0, .int .i64 0, .bool false, .bool false, .bool false] 32)) w.heap.size 0 z0) := z6_new w
  have ZF : Hid (∀ j, (w.alloc (.cells #[.int .i64 0, .int .i64 0, .int .i64 0, .bool false, .bool false, .bool false] 32)).frozen? ⟨w.heap.size, j, none⟩ = false) := fz_new w _ _
  have hb0 : w.heap.size < (w.alloc (.cells #[.int .i64 0, .int .i64 0, .int .i64 0, .bool false, .bool false, .bool false] 32)).heap.size := by simp
  have CS : Hid (Calls _ _ _ _ _) := seek_nil (w := (w.alloc (.cells #[.int .i64 0, .int .i64 0, .int .i64 0, .bool false, .bool false, .bool false] 32))) (hN.below (below_new w _)) a g
  clear hN
  go_enter Try.func16, Try.ntmps16
  go_wp2_with fail
  generalize (w.alloc (.cells #[.int .i64 0, .int .i64 0, .int .i64 0, .bool false, .bool false, .bool false] 32)) = W0 at *
  generalize hbz : w.heap.size = b0 at *
  refine CS.out.mono ?_
  rintro e w1 ⟨rfl, rfl⟩
  have hb : Below w1.heap.size w1 w1 := Below.refl _ _
  have B1 : Hid (Below b0 w w1) := B0.out.trans (hb.mono (by omega))
  have hsz := hb.size
  obtain ⟨y0, y1, y2, y3, y4, y5⟩ := Z0.out.below hb0 hb
  have yf : ∀ j, w1.frozen? ⟨b0, j, none⟩ = false := fun j => (hb.frozen (p := ⟨b0, j, none⟩) hb0).trans (ZF.out j)
  have y6 := yf 0
  have y7 := yf 1
  have y8 := yf 2
  have y9 := yf 3
  have y10 := yf 4
  have y11 := yf 5
  clear hb CS yf
  go_wp2
  exact bodyPost_ret (v := .tuple #[.agg #[.int .i64 0, .int .i64 0, .int .i64 0, .bool false, .bool false, .bool false], .bool false, .int .i64 1]) (by simp [results, Try.results16, go_sem, *]) rfl ⟨rfl, by subst hbz; exact B1.out.grown (grown6 _ _ _ _ _ _ _ _ _ _ _ _ _ _) B1.out.size (fun k hk => by injection hk with hk; omega)⟩
set_option maxHeartbeats 1000000 in
theorem Find_hit {w : World} {F : Nat → Prop} {p n : Nat} {l : List Tr} (h : Ca w F p n l) (a g : Int) (ha : okA a = true) (hg : okP g = true) {k : Nat} {x : Tr} (hx : Ix a g l k x) :
    Calls Try.prog 16 #[.pointer (some ⟨p, 0, none⟩), .int .i64 a, .int .i64 g] w fun e w' => e = .returned (.tuple #[.agg #[.int .i64 x.a, .int .i64 x.p, .int .i64 x.f, .bool x.r, .bool x.w, .bool x.d], .bool true, .int .i64 0]) ∧ Lv w F p n (x :: rm a g l) w' := by
  obtain ⟨v, hP⟩ := h
  have B0 : Hid (Below w.heap.size w (w.alloc (.cells #[.int .i64 0, .int .i64 0, .int .i64 0, .bool false, .bool false, .bool false] 32))) := below_new _ _
  have Z0 : Hid (Six (w.alloc (.cells #[.int .i64 0, .int .i64 0, .int .i64 0, .bool false, .bool false, .bool false] 32)) w.heap.size 0 z0) := z6_new w
  have ZF : Hid (∀ j, (w.alloc (.cells #[.int .i64 0, .int .i64 0, .int .i64 0, .bool false, .bool false, .bool false] 32)).frozen? ⟨w.heap.size, j, none⟩ = false) := fz_new w _ _
  have hb0 : w.heap.size < (w.alloc (.cells #[.int .i64 0, .int .i64 0, .int .i64 0, .bool false, .bool false, .bool false] 32)).heap.size := by simp
  have HP : Hid (Pt (w.alloc (.cells #[.int .i64 0, .int .i64 0, .int .i64 0, .bool false, .bool false, .bool false] 32)) F p n v l) := hP.below (below_new _ _)
  have hl := hP.c.len
  have hn := hP.c.n64
  have hplt := hP.c.lt
  have hne : Hid (∀ g, v.ownBlock = some g → g < w.heap.size) := fun g hg => (hP.c.own.lt g hg).2
  have HF : Hid (∀ k, F k → k < w.heap.size) := hP.lt
  have HX : Hid (Ix a g l k x) := hx
  have hkl : k < l.length := (List.getElem?_eq_some_iff.1 hx.at').1
  have CS : Hid (Calls _ _ _ _ _) := seek_ok HP.out.c a g ha hg hx
  clear hP ha hg hx
  go_enter Try.func16, Try.ntmps16
  go_wp2_with fail
  generalize (w.alloc (.cells #[.int .i64 0, .int .i64 0, .int .i64 0, .bool false, .bool false, .bool false] 32)) = W0 at *
  generalize hbz : w.heap.size = b0 at *
  refine CS.out.mono ?_
  rintro e w1 ⟨rfl, hb⟩
  have T1 : Hid (Pt w1 F p n v l) := HP.out.below hb
  have B1 : Hid (Below b0 w w1) := B0.out.trans (hb.mono (by omega))
  have hsz := hb.size
  have Z1 : Hid (Six w1 b0 0 z0) := Z0.out.below hb0 hb
  have ZF1 : Hid (∀ j, w1.frozen? ⟨b0, j, none⟩ = false) := fun j => (hb.frozen (p := ⟨b0, j, none⟩) hb0).trans (ZF.out j)
  obtain ⟨gr, cap, e1, h6, _, hgl, hc1, hc2⟩ := T1.out.c.own.cell HX.out.at'
  have hgb : gr < b0 := hne.out gr (by rw [e1]; rfl)
  subst e1
  obtain ⟨d0, d1, d2, d3, d4, d5⟩ := h6
  have hc := T1.out.c.c1
  clear hb CS Z0 ZF
  unfold maxLen at hc2
  go_wp2_with fail
  clear hc d0 d1 d2 d3 d4 d5
  have T2 : Hid (Pt (w1.alloc (.cells #[.int .i64 x.a, .int .i64 x.p, .int .i64 x.f, .bool x.r, .bool x.w, .bool x.d] 32)) F p n (.slice (some ⟨gr, 0, none⟩) l.length cap) l) := T1.out.below (below_new _ _)
  have B2 : Hid (Below b0 w (w1.alloc (.cells #[.int .i64 x.a, .int .i64 x.p, .int .i64 x.f, .bool x.r, .bool x.w, .bool x.d] 32))) := B1.out.alloc (by omega) _
  have Z2 : Hid (Six (w1.alloc (.cells #[.int .i64 x.a, .int .i64 x.p, .int .i64 x.f, .bool x.r, .bool x.w, .bool x.d] 32)) b0 0 z0) := Z1.out.below (by omega) (below_new _ _)
  have ZF2 : Hid (∀ j, (w1.alloc (.cells #[.int .i64 x.a, .int .i64 x.p, .int .i64 x.f, .bool x.r, .bool x.w, .bool x.d] 32)).frozen? ⟨b0, j, none⟩ = false) := fun j => ((below_new w1 _).frozen (p := ⟨b0, j, none⟩) (show b0 < w1.heap.size by omega)).trans (ZF1.out j)
  have X2 : Hid (Six (w1.alloc (.cells #[.int .i64 x.a, .int .i64 x.p, .int .i64 x.f, .bool x.r, .bool x.w, .bool x.d] 32)) w1.heap.size 0 x) := six_new w1 x 32
  have hb2 : w1.heap.size < (w1.alloc (.cells #[.int .i64 x.a, .int .i64 x.p, .int .i64 x.f, .bool x.r, .bool x.w, .bool x.d] 32)).heap.size := by simp
  generalize w1.alloc (.cells #[.int .i64 x.a, .int .i64 x.p, .int .i64 x.f, .bool x.r, .bool x.w, .bool x.d] 32) = w2 at *
  generalize hbx : w1.heap.size = bx at *
  clear Z1 ZF1
  obtain ⟨gr', cap', L, e3, _, hB, _, hm, hL, hT⟩ := T2.out.c.own.shape.resolve_left (by rintro ⟨e, _⟩; cases e)
  cases e3
  have hpg : p ≠ gr := fun e => T2.out.c.vp (by rw [e]; rfl)
  have HL : Hid (∀ w', w2.grownBy w' (some gr) → Blk w' gr 32 (tc x ++ (L.take (k * 6) ++ L.drop ((k + 1) * 6))) → Lv w2 F p n (x :: rm a g l) w') := fun w' G hB' => by
    have e := rm_at T2.out.c.uq HX.out.at' HX.out.is
    rw [e]
    refine T2.out.led hm hc1 hL hT hkl x G hB' ?_
    rw [← e]
    obtain ⟨e1, e2⟩ := hk_eq HX.out.is
    rw [← e1, ← e2]
    exact T2.out.c.uq.front x
  have CL : Hid (Calls _ _ _ _ _) := lead_ok hB T2.out.c.lt T2.out.c.c1 hpg k hkl (by omega) hc1 hm hL (by rw [hT]; exact tv_one l) x
  clear hB hm hL hT T2
  refine CL.out.mono ?_
  rintro e w3 ⟨rfl, G, hB'⟩
  have L3 : Hid (Lv w2 F p n (x :: rm a g l) w3) := HL.out w3 G hB'
  have hs3 := G.size
  have X3 : Hid (Six w3 bx 0 x) := X2.out.of_eq (G.block bx (by omega) (some_ne (by omega)))
  have Z3 : Hid (Six w3 b0 0 z0) := Z2.out.of_eq (G.block b0 (by omega) (some_ne (by omega)))
  have ZF3 : Hid (∀ j, w3.frozen? ⟨b0, j, none⟩ = false) := fun j => (G.frozen_far ⟨b0, j, none⟩ (show b0 < w2.heap.size by omega) (some_ne (show b0 ≠ gr by omega))).trans (ZF2.out j)
  clear HL CL G hB' X2 Z2 ZF2
  obtain ⟨y0, y1, y2, y3, y4, y5⟩ := Z3.out
  obtain ⟨d0, d1, d2, d3, d4, d5⟩ := X3.out
  have y6 := ZF3.out 0
  have y7 := ZF3.out 1
  have y8 := ZF3.out 2
  have y9 := ZF3.out 3
  have y10 := ZF3.out 4
  have y11 := ZF3.out 5
  go_wp2
  exact bodyPost_ret (v := .tuple #[.agg #[.int .i64 x.a, .int .i64 x.p, .int .i64 x.f, .bool x.r, .bool x.w, .bool x.d], .bool true, .int .i64 0]) (by simp [results, Try.results16, go_sem, *]) rfl ⟨rfl, by subst hbz; exact L3.out.fin HF.out B2.out (grown6 _ _ _ _ _ _ _ _ _ _ _ _ _ _) (Nat.le_refl _) (by omega)⟩
end Go.Proofs.Ytkgmdalekakgpaa
