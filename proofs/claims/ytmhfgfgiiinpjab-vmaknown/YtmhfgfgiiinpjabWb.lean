/- The small functions of package vma; no condition but the ranges that each theorem names. -/
import Derived.Test.YtmhfgfgiiinpjabWa
namespace Go.Proofs.Ytmhfgfgiiinpjab.V
open Go.ChangeShapes Go.WideShapes Go.ChangeAt Go.RowKit
set_option linter.unusedVariables false
set_option maxRecDepth 8192

/-- A region as a value. -/
def rv (r : Rg) : Value := .agg #[.int .i64 r.p, .int .i64 r.n, .int .u8 r.m]
theorem dec_iff {b : Bool} {p : Prop} [Decidable p] (h : b = true ↔ p) : b = decide p := Bool.eq_iff_iff.2 (h.trans decide_eq_true_iff.symm)
/-- A world of a class; a region that draws its order, whose operations read and whose callees leave the worlds of a class within it: one walk, in the order of the text. -/
structure Idx (S : World → Prop) where
  W : World
  h : S W
theorem wp_region_cls {P : Program} {id : Nat} {Q : Exit → Act → World → Prop} {a : Act} {w : World} {l : List Oper} (S : World → Prop) (hm : P.follows .mixedOrders = true) (hB : Region.lexB .any l.toArray = true) (hS : S w.drew)
    (h : wpQuiet P l.toArray (fun w' => ∃ n : Idx S, w' = n.W) (fun a' => ∀ w', (∃ n : Idx S, w' = n.W) → Q .normal a' w') l a) : (Code.region id l.toArray true).wp P Q a w :=
  wp_region_quiet (C := fun w' => ∃ n : Idx S, w' = n.W) hm hB ⟨⟨w.drew, hS⟩, rfl⟩ (by simpa using h)
theorem cls {P : Program} {f : FuncId} {args : Array Value} {S : World → Prop} {n : Idx S} {v : Value} (h : Calls P f args n.W fun e w' => e = .returned v ∧ Below n.W.heap.size n.W w') (hst : ∀ w w', S w → Below w.heap.size w w' → S w') :
    Calls P f args n.W fun e w'' => e = .returned v ∧ ∃ m : Idx S, w'' = m.W := h.mono fun e w' he => ⟨he.1, ⟨⟨w', hst _ _ n.h he.2⟩, rfl⟩⟩
theorem permMayBe_any (m : Int) (w : World) : Calls Try.prog 21 #[.int .u8 m] w fun e w' => e = .returned (.bool (decide (prm m))) ∧ w' = w := by
  go_enter Try.func21, Try.ntmps21
  go_wp2
  all_goals (go_ret; exact ⟨ret_bool (dec_iff (by unfold prm; simp; try omega)), rfl⟩)
theorem pagesMayBe_any (p n : Int) (hp : -9223372036854775808 ≤ p ∧ p < 9223372036854775808) (w : World) : Calls Try.prog 20 #[.agg #[.int .i64 p, .int .i64 n]] w fun e w' => e = .returned (.bool (decide (pgs p n))) ∧ Below w.heap.size w w' := by
  obtain ⟨hp1, hp2⟩ := hp
  go_enter Try.func20, Try.ntmps20
  go_wp2
  all_goals (go_ret; exact ⟨ret_bool (dec_iff (by unfold pgs; simp; try omega)), by first | exact ((Below.refl _ _).alloc (Nat.le_refl _) _) | exact ((Below.refl _ _).alloc (Nat.le_refl _) _).drew⟩)
theorem Try.infoSp : (Try.prog.info? 34).map (fun i => (i.zero, i.size, i.bytes)) = some (some (.agg #[.int .i64 0, .int .i64 0]), 2, 16) := by kernel_rfl
theorem Try.sizeSp : (Try.prog.info? 34).map (·.size) = some 2 := by kernel_rfl
theorem Try.sizeRg : (Try.prog.info? 26).map (·.size) = some 3 := by kernel_rfl
theorem below1 (w : World) (o : Obj) : Below w.heap.size w (w.alloc o) := (Below.refl _ _).alloc (Nat.le_refl _) _
theorem below2 (w : World) (o1 o2 : Obj) : Below w.heap.size w ((w.alloc o1).alloc o2) := (below1 w o1).alloc (by simp) _
theorem bs {w w1 w2 : World} (a : Below w.heap.size w w1) (b : Below w1.heap.size w1 w2) : Below w.heap.size w w2 := a.trans (b.mono a.size)
theorem pages_any (p n m : Int) (w : World) : Calls Try.prog 18 #[.agg #[.int .i64 p, .int .i64 n, .int .u8 m]] w fun e w' => e = .returned (.agg #[.int .i64 p, .int .i64 n]) ∧ Below w.heap.size w w' := by
  have HB : Hid (Below w.heap.size w ((w.alloc (.cells #[.int .i64 p, .int .i64 n, .int .u8 m] 26)).alloc (.cells #[.int .i64 p, .int .i64 n] 34))) := below2 w _ _
  have HN : Hid (((w.alloc (.cells #[.int .i64 p, .int .i64 n, .int .u8 m] 26)).alloc (.cells #[.int .i64 p, .int .i64 n] 34)).heap[w.heap.size + 1]? = some (.cells #[.int .i64 p, .int .i64 n] 34 (0, 0))) := by
    have := heap_alloc_last (w.alloc (.cells #[.int .i64 p, .int .i64 n, .int .u8 m] 26)) (.cells #[.int .i64 p, .int .i64 n] 34)
    rwa [World.size_alloc] at this
  go_enter Try.func18, Try.ntmps18
  go_wp2
  exact bodyPost_ret (v := .agg #[.int .i64 p, .int .i64 n]) (results_cell_row Try.results18 _ _ (w.heap.size + 1) 34 _ (0, 0) _ rfl HN.out Try.underlying34 rfl Try.sizeSp) rfl ⟨rfl, HB.out⟩
theorem end_any (p n m : Int) (h : -9223372036854775808 ≤ p + n ∧ p + n < 9223372036854775808) (w : World) : Calls Try.prog 15 #[.agg #[.int .i64 p, .int .i64 n, .int .u8 m]] w fun e w' => e = .returned (.int .i64 (p + n)) ∧ Below w.heap.size w w' := by
  obtain ⟨h1, h2⟩ := h
  go_enter Try.func15, Try.ntmps15
  go_wp2
  go_ret
  exact ⟨rfl, by first | exact ((Below.refl _ _).alloc (Nat.le_refl _) _) | exact ((Below.refl _ _).alloc (Nat.le_refl _) _).drew⟩
theorem cell_at (w : World) (cs : Array Value) (t : TypeId) {w2 : World} (k : Below (w.alloc (.cells cs t)).heap.size (w.alloc (.cells cs t)) w2) (i : Nat) : w2.cell? ⟨w.heap.size, i, none⟩ = cs[i]? := by
  rw [k.cell (p := ⟨w.heap.size, i, none⟩) (by simp)]
  exact World.cell?_alloc_new w cs t i
theorem regionMayBe_any (p n m : Int) (h : wfR ⟨p, n, m⟩) (w : World) : Calls Try.prog 14 #[.agg #[.int .i64 p, .int .i64 n, .int .u8 m]] w fun e w' => e = .returned (.bool (decide ((⟨p, n, m⟩ : Rg).Ok))) ∧ Below w.heap.size w w' := by
  have HO : Hid (∀ b c : Bool, (b = true ↔ pgs p n) → (c = true ↔ prm m) → (b && c) = decide ((⟨p, n, m⟩ : Rg).Ok)) := fun b c hb hc => dec_iff (by rw [Bool.and_eq_true, hb, hc]; exact ⟨fun q => ⟨q.1, q.2⟩, fun q => ⟨q.pg, q.pm⟩⟩)
  obtain ⟨d, hd⟩ : ∃ d, decide ((⟨p, n, m⟩ : Rg).Ok) = d := ⟨_, rfl⟩
  rw [hd] at HO ⊢
  obtain ⟨b, hb⟩ : ∃ b, decide (pgs p n) = b := ⟨_, rfl⟩
  obtain ⟨c, hc⟩ : ∃ c, decide (prm m) = c := ⟨_, rfl⟩
  have HP : Hid (∀ w : World, Calls Try.prog 20 #[.agg #[.int .i64 p, .int .i64 n]] w fun e w' => e = .returned (.bool b) ∧ Below w.heap.size w w') := fun w => by have := pagesMayBe_any p n h.1 w; rwa [hb] at this
  have HM : Hid (∀ w : World, Calls Try.prog 21 #[.int .u8 m] w fun e w' => e = .returned (.bool c) ∧ w' = w) := fun w => by have := permMayBe_any m w; rwa [hc] at this
  have HE : Hid ((b && c) = d) := HO.out b c (by rw [← hb]; simp) (by rw [← hc]; simp)
  clear h HO hd hb hc
  go_enter Try.func14, Try.ntmps14
  go_wp2_with fail
  refine (pages_any p n m _).mono ?_
  rintro e w1 ⟨rfl, b1⟩
  have B1 : Hid (Below w.heap.size w w1) := bs (below1 w _) b1
  go_wp2_with fail
  refine (HP.out _).mono ?_
  rintro e w2 ⟨rfl, b2⟩
  have B2 : Hid (Below w.heap.size w w2) := bs B1.out b2
  have d2 := cell_at w #[.int .i64 p, .int .i64 n, .int .u8 m] 26 (bs b1 b2) 2
  simp at d2
  clear b1 b2
  cases b with
  | false =>
    go_wp2
    go_ret
    exact ⟨ret_bool HE.out, B2.out⟩
  | true =>
    go_wp2_with fail
    refine (HM.out _).mono ?_
    rintro e w' ⟨rfl, rfl⟩
    go_wp2
    go_ret
    exact ⟨ret_bool HE.out, B2.out⟩
theorem areOne_any (a b : Rg) (ha : -9223372036854775808 ≤ a.p + a.n ∧ a.p + a.n < 9223372036854775808) (w : World) : Calls Try.prog 16 #[.agg #[.int .i64 a.p, .int .i64 a.n, .int .u8 a.m], .agg #[.int .i64 b.p, .int .i64 b.n, .int .u8 b.m]] w fun e w' => e = .returned (.bool (decide (a.e = b.p ∧ a.m = b.m))) ∧ Below w.heap.size w w' := by
  obtain ⟨ap, an, am⟩ := a
  obtain ⟨bp, bn, bm⟩ := b
  have HE : Hid (∀ w : World, Calls Try.prog 15 #[.agg #[.int .i64 ap, .int .i64 an, .int .u8 am]] w fun e w' => e = .returned (.int .i64 (ap + an)) ∧ Below w.heap.size w w') := fun w => end_any ap an am ha w
  show Calls _ _ _ _ (fun e w' => e = .returned (.bool (decide (ap + an = bp ∧ am = bm))) ∧ Below w.heap.size w w')
  generalize ap + an = x at *
  obtain ⟨d, hd⟩ : ∃ d, decide (x = bp ∧ am = bm) = d := ⟨_, rfl⟩
  rw [hd]
  have HD : Hid (decide (x = bp ∧ am = bm) = d) := hd
  clear hd ha
  have HB2 : Hid (Below w.heap.size w ((w.alloc (.cells #[.int .i64 ap, .int .i64 an, .int .u8 am] 26)).alloc (.cells #[.int .i64 bp, .int .i64 bn, .int .u8 bm] 26))) := below2 w _ _
  obtain ⟨W, hW⟩ : ∃ W, ((w.alloc (.cells #[.int .i64 ap, .int .i64 an, .int .u8 am] 26)).alloc (.cells #[.int .i64 bp, .int .i64 bn, .int .u8 bm] 26)) = W := ⟨_, rfl⟩
  have HS : Hid (W.heap.size = w.heap.size + 1 + 1) := by subst hW; show _ = _; simp
  have HC : Hid (∀ W', Below W.heap.size W W' → (W'.cell? ⟨w.heap.size, 0, none⟩ = some (.int .i64 ap) ∧ W'.cell? ⟨w.heap.size, 1, none⟩ = some (.int .i64 an) ∧ W'.cell? ⟨w.heap.size, 2, none⟩ = some (.int .u8 am)) ∧ W'.cell? ⟨w.heap.size + 1, 0, none⟩ = some (.int .i64 bp) ∧ W'.cell? ⟨w.heap.size + 1, 2, none⟩ = some (.int .u8 bm)) := fun W' h => by
    subst hW
    have q (i) := cell_at w #[.int .i64 ap, .int .i64 an, .int .u8 am] 26 (bs (below1 _ _) h) i
    have r (i) := cell_at (w.alloc (.cells #[.int .i64 ap, .int .i64 an, .int .u8 am] 26)) #[.int .i64 bp, .int .i64 bn, .int .u8 bm] 26 h i
    rw [World.size_alloc] at r
    exact ⟨⟨q 0, q 1, q 2⟩, r 0, r 2⟩
  have HC0 := HC.out W (Below.refl _ _)
  have HB3 : Hid (Below w.heap.size w W) := by subst hW; exact HB2.out
  have hd : decide (x = bp) = decide (x = bp) := rfl
  clear HB2
  go_enter Try.func16, Try.ntmps16
  go_wp2_with fail
  clear hW hd
  have k0 : ∀ n : Idx (Below W.heap.size W), n.W.cell? ⟨w.heap.size, 0, none⟩ = some (.int .i64 ap) := fun n => (HC.out n.W n.h).1.1
  have k1 : ∀ n : Idx (Below W.heap.size W), n.W.cell? ⟨w.heap.size, 1, none⟩ = some (.int .i64 an) := fun n => (HC.out n.W n.h).1.2.1
  have k2 : ∀ n : Idx (Below W.heap.size W), n.W.cell? ⟨w.heap.size, 2, none⟩ = some (.int .u8 am) := fun n => (HC.out n.W n.h).1.2.2
  have k3 : ∀ n : Idx (Below W.heap.size W), n.W.cell? ⟨w.heap.size + 1, 0, none⟩ = some (.int .i64 bp) := fun n => (HC.out n.W n.h).2.1
  have k4 : ∀ n : Idx (Below W.heap.size W), n.W.cell? ⟨w.heap.size + 1, 2, none⟩ = some (.int .u8 bm) := fun n => (HC.out n.W n.h).2.2
  clear HC HC0
  have hne : Nonempty (Idx (Below W.heap.size W)) := ⟨⟨W, Below.refl _ _⟩⟩
  by_cases he : x = bp
  case pos =>
    subst he
    refine wp_region_cls (Below W.heap.size W) (by kernel_rfl) (by kernel_rfl) ((Below.refl _ _).drew) ?_
    repeat (go_big_quiet_step ((go_at_call 15; exact cls (HE.out _) (fun _ _ h k => bs h k))))
    refine wpQuiet_nil ?_
    rintro w5 ⟨⟨_, hS5⟩, rfl⟩
    clear k0 k1 k2 k3 k4 hne
    go_wp2
    go_ret
    exact ⟨ret_bool (by rw [← HD.out]; exact dec_iff (by simp)), HB3.out.trans (hS5.mono (by rw [HS.out]; omega))⟩
  case neg =>
    have he2 : (x == bp) = false := by simpa using he
    refine wp_region_cls (Below W.heap.size W) (by kernel_rfl) (by kernel_rfl) ((Below.refl _ _).drew) ?_
    repeat (go_big_quiet_step ((go_at_call 15; exact cls (HE.out _) (fun _ _ h k => bs h k))))
    refine wpQuiet_nil ?_
    rintro w5 ⟨⟨_, hS5⟩, rfl⟩
    clear k0 k1 k2 k3 k4 hne
    go_wp2
    go_ret
    exact ⟨ret_bool (by rw [← HD.out]; exact dec_iff (by simp [he])), HB3.out.trans (hS5.mono (by rw [HS.out]; omega))⟩
end Go.Proofs.Ytmhfgfgiiinpjab.V
