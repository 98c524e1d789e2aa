/- What a core's sweep, Zero, Copy, Bring give back and leave; no condition but those named. -/
import Derived.Test.YtokaohlgncmoaaaGreatWJc
import Derived.Test.YtokaohlgncmoaaaGreatWHa
import Derived.Test.YtokaohlgncmoaaaGreatWFa
namespace Go.Proofs.YtokaohlgncmoaaaGreat.E
open Go.ChangeShapes Go.WideShapes Go.ChangeAt Go.RowKit
set_option linter.unusedVariables false
set_option maxRecDepth 8192

def swF (fs : Nat → Nat) (m : Nat) (x : Nat) : Nat := fs (x % m) * 256 + x / m * 16
theorem swF_at (fs : Nat → Nat) {m i j : Nat} (hj : j < m) : swF fs m (i * m + j) = fs j * 256 + i * 16 := by
  unfold swF
  have h1 : (i * m + j) % m = j := by rw [Nat.mul_comm, Nat.mul_add_mod]; exact Nat.mod_eq_of_lt hj
  have h2 : (i * m + j) / m = i := by rw [Nat.mul_comm, Nat.mul_add_div (by omega), Nat.div_eq_of_lt hj]; rfl
  rw [h1, h2]
theorem arg_kp {w w' : World} {ao : Option Addr} {l : Nat} {f : Nat → Int} {X X' : Nat → Prop} (h : Arg w ao l f) (k : C.Kp X X' w w') (hX : ∀ b off, ao = some ⟨b, off, none⟩ → ¬ X b) : Arg w' ao l f := by
  rcases h with h | ⟨b, off, rfl, hb, hc⟩
  · exact Or.inl h
  · exact Or.inr ⟨b, off, rfl, Nat.lt_of_lt_of_le hb k.size, fun i hi => (World.cell?_of_block (w := w) (a := ⟨b, off + i, none⟩) (k.block b hb (hX b off rfl))).trans (hc i hi)⟩
theorem Gv.touch {w w1 : World} {X : Nat → Prop} {p : Nat} {h : Hw} {s : Sc} (K : Gv pK w X p h s w1) (pa : Nat) (hp : pa < h.n * 256) :
    Calls Tryz.prog 63 #[.pointer (some ⟨p, 0, none⟩), .int .u64 pa] w1 fun e w' => e = .returned (.agg #[.bool (hA h s pa), .bool (hB h s pa)]) ∧ Gv pK w X p h (tou h s pa) w' := by
  obtain ⟨X1, c, k⟩ := K
  refine (touch_ok c pa hp).mono ?_
  rintro e w' ⟨rfl, g⟩
  exact ⟨rfl, g.pre k⟩
theorem Gv.kp {w w1 : World} {X : Nat → Prop} {p : Nat} {h : Hw} {s : Sc} (K : Gv pK w X p h s w1) : ∃ X', C.Kp X X' w w1 := by
  obtain ⟨X1, _, k⟩ := K
  exact ⟨X1, k⟩
set_option maxHeartbeats 1000000 in
theorem sweep_ok {w : World} {X : Nat → Prop} {p : Nat} {h : Hw} {s : Sc} (K : Cr pK w X p h s) {ao : Option Addr} {m c : Nat} {fs : Nat → Nat} (hm : 1 ≤ m) (hm2 : m ≤ 2) (ha : Arg w ao m (fun i => (fs i : Int))) (hX : ∀ b off, ao = some ⟨b, off, none⟩ → ¬ X b) (hin : ∀ i, i < m → fs i < h.n) :
    Calls Tryz.prog 71 #[.pointer (some ⟨p, 0, none⟩), .slice ao m c] w fun e w' => e = .returned (.tuple #[]) ∧ Gv pK w X p h (tw h s (swF fs m) (16 * m)) w' := by
  have hn := K.ok.n2
  have HK0 : Hid (Gv pK w X p h (tw h s (swF fs m) 0) w) := K.gv (Below.refl _ _)
  have HA0 : Hid (Arg w ao m (fun i => (fs i : Int))) := ha
  have HIN : Hid (∀ i, i < m → fs i < h.n) := hin
  have HX : Hid (∀ b off, ao = some ⟨b, off, none⟩ → ¬ X b) := hX
  clear K ha hin hX
  go_enter Tryz.func71, Tryz.ntmps71
  go_wp2_with fail
  go_loopw [9] (fun i wr => ∃ k : Nat, k ≤ 16 ∧ i = .int .i64 k ∧ Gv pK w X p h (tw h s (swF fs m) (k * m)) wr) (fun i _ => 16 - (D.iv i).toNat)
  case atStart => exact ⟨0, by omega, rfl, by rw [Nat.zero_mul]; exact HK0.out⟩
  case round =>
    obtain ⟨k, hk, rfl, hG⟩ := hrel
    have HG : Hid (Gv pK w X p h (tw h s (swF fs m) (k * m)) wr) := hG
    clear hG
    by_cases hlt : k < 16
    case' pos =>
      have hd : decide ((k : Int) < 16) = true := by rw [decide_eq_true_eq]; omega
      go_wp2_with fail
      go_loopw [14] (fun i wr => ∃ j : Nat, j ≤ m ∧ i = .int .i64 j ∧ Gv pK w X p h (tw h s (swF fs m) (k * m + j)) wr) (fun i _ => m - (D.iv i).toNat)
      case atStart => exact ⟨0, by omega, rfl, HG.out⟩
      case round =>
        obtain ⟨j, hj, rfl, hG⟩ := hrel
        have HGj : Hid (Gv pK w X p h (tw h s (swF fs m) (k * m + j)) wr) := hG
        clear hG HG
        by_cases hjm : j < m
        case' pos =>
          obtain ⟨X1, kp⟩ := HGj.out.kp
          obtain ⟨b, off, rfl, hc⟩ := (arg_kp HA0.out kp HX.out).at' (Below.refl _ _) hjm
          have hfj := HIN.out j hjm
          have hsw : tw h s (swF fs m) (k * m + (j + 1)) = tou h (tw h s (swF fs m) (k * m + j)) (fs j * 256 + k * 16) := by
            rw [← swF_at fs hjm]
            rfl
          have HSW : Hid (tw h s (swF fs m) (k * m + (j + 1)) = tou h (tw h s (swF fs m) (k * m + j)) (fs j * 256 + k * 16)) := hsw
          clear hsw kp
          generalize fs j = fj at *
          have CP : Hid (∀ w : World, Calls Tryz.prog 111 #[.int .i64 (fj : Nat), .int .i64 ((k : Int) * 16)] w fun e w' => e = .returned (.tuple #[.int .u64 ((fj * 256 + k * 16 : Nat) : Int), .int .i64 0]) ∧ w' = w) := fun w => by
            have := F.Place_ok (fj : Int) ((k : Int) * 16) (by omega) (by omega) (by omega) (by omega) w
            have e : ((fj : Int) * 256 + (k : Int) * 16) = ((fj * 256 + k * 16 : Nat) : Int) := by push_cast; rfl
            rw [e] at this
            exact this
          have CT : Hid (Calls _ _ _ _ _) := HGj.out.touch (fj * 256 + k * 16) (by omega)
          rw [← HSW.out] at CT
          generalize hA h (tw h s (swF fs m) (k * m + j)) (fj * 256 + k * 16) = xa at *
          generalize hB h (tw h s (swF fs m) (k * m + j)) (fj * 256 + k * 16) = xb at *
          generalize fj * 256 + k * 16 = pa at *
          go_wp2_with (first
            | (go_at_call 111; refine (CP.out _).mono ?_; rintro e w' ⟨rfl, rfl⟩)
            | (go_at_call 63; refine CT.out.mono ?_; rintro e w3 ⟨rfl, hg⟩; have HG3 : Hid (Gv pK w X p h (tw h s (swF fs m) (k * m + (j + 1))) w3) := hg; clear hg))
          go_roundw
          case rel => exact ⟨j + 1, by omega, by go_num, HG3.out⟩
          case measure => simp [D.iv]; omega
        case' neg =>
          obtain rfl : j = m := by omega
          go_wp2
          go_roundw
          case rel => exact ⟨k + 1, by omega, by go_num, by rw [Nat.add_mul, Nat.one_mul]; exact HGj.out⟩
          case measure => simp [D.iv]; omega
    case' neg =>
      obtain rfl : k = 16 := by omega
      go_wp2
      go_end0
      exact ⟨rfl, HG.out⟩
def sw1 (h : Hw) (s : Sc) (a : Nat) : Sc := tw h s (swF (fun _ => a) 1) 16
def sw2 (h : Hw) (s : Sc) (a b : Nat) : Sc := tw h s (swF (fun i => if i = 0 then a else b) 2) 32
theorem Gv.sweep1 {w w1 : World} {X : Nat → Prop} {p : Nat} {h : Hw} {s : Sc} (K : Gv pK w X p h s w1) (a : Nat) (ha : a < h.n) :
    Calls Tryz.prog 71 #[.pointer (some ⟨p, 0, none⟩), .slice (some ⟨w1.heap.size, 0, none⟩) 1 1] (w1.alloc (.cells #[.int .i64 (a : Nat)] 3)) fun e w' => e = .returned (.tuple #[]) ∧ Gv pK w X p h (sw1 h s a) w' := by
  obtain ⟨X1, c, k⟩ := K
  have b : Below w1.heap.size w1 (w1.alloc (.cells #[.int .i64 (a : Nat)] 3)) := (Below.refl _ _).alloc (Nat.le_refl _) _
  have hb := C.blk_new w1 [.int .i64 (a : Nat)] 3
  refine (sweep_ok (c.below b) (fs := fun _ => a) (Nat.le_refl 1) (by omega) (Or.inr ⟨w1.heap.size, 0, rfl, hb.lt, fun i hi => ?_⟩) (fun g off e z => ?_) (fun i hi => ha)).mono ?_
  · obtain rfl : i = 0 := by omega
    exact hb.cell 0
  · injection e with e; injection e with e1 e2 e3; subst e1
    have := c.lt _ z; omega
  · rintro e w' ⟨rfl, g⟩
    exact ⟨rfl, (g.pre (kp_of_below _ b)).pre k⟩
theorem Gv.sweep2 {w w1 : World} {X : Nat → Prop} {p : Nat} {h : Hw} {s : Sc} (K : Gv pK w X p h s w1) (a a' : Nat) (ha : a < h.n) (ha' : a' < h.n) :
    Calls Tryz.prog 71 #[.pointer (some ⟨p, 0, none⟩), .slice (some ⟨w1.heap.size, 0, none⟩) 2 2] (w1.alloc (.cells #[.int .i64 (a : Nat), .int .i64 (a' : Nat)] 3)) fun e w' => e = .returned (.tuple #[]) ∧ Gv pK w X p h (sw2 h s a a') w' := by
  obtain ⟨X1, c, k⟩ := K
  have b : Below w1.heap.size w1 (w1.alloc (.cells #[.int .i64 (a : Nat), .int .i64 (a' : Nat)] 3)) := (Below.refl _ _).alloc (Nat.le_refl _) _
  have hb := C.blk_new w1 [.int .i64 (a : Nat), .int .i64 (a' : Nat)] 3
  refine (sweep_ok (c.below b) (fs := fun i => if i = 0 then a else a') (by omega) (Nat.le_refl 2) (Or.inr ⟨w1.heap.size, 0, rfl, hb.lt, fun i hi => ?_⟩) (fun g off e z => ?_) (fun i hi => ?_)).mono ?_
  · rcases (show i = 0 ∨ i = 1 by omega) with rfl | rfl
    · exact hb.cell 0
    · exact hb.cell 1
  · injection e with e; injection e with e1 e2 e3; subst e1
    have := c.lt _ z; omega
  · show (if i = 0 then a else a') < h.n
    split
    · exact ha
    · exact ha'
  · rintro e w' ⟨rfl, g⟩
    exact ⟨rfl, (g.pre (kp_of_below _ b)).pre k⟩
theorem Cr.memt {w : World} {X : Nat → Prop} {p : Nat} {h : Hw} {s : Sc} (K : Cr pK w X p h s) : ∃ pm gm, w.cell? ⟨p, 0, none⟩ = some (.pointer (some ⟨pm, 0, none⟩)) ∧ F.Mem w pm gm h.n s.m ∧ X gm ∧ ∀ w' m', F.Mem w' pm gm h.n m' → w.grownBy w' (some gm) → Gv pK w X p h { s with m := m' } w' := by
  obtain ⟨G, P, c, rfl, rfl⟩ := K
  refine ⟨_, _, c.c0, c.mm, ⟨1, c.gg⟩, fun w' m' hM hg => ?_⟩
  obtain ⟨c', k'⟩ := c.t1 hM hg
  exact c'.gv k'
theorem Zero_ok {w : World} {X : Nat → Prop} {p : Nat} {h : Hw} {s : Sc} (K : Cr pK w X p h s) (a : Nat) (ha : a < h.n) :
    Calls Tryz.prog 21 #[.pointer (some ⟨p, 0, none⟩), .int .i64 (a : Nat)] w fun e w' => e = .returned (.int .i64 0) ∧ Gv pK w X p h (sw1 h { s with m := F.lay s.m (a * 256) 256 (fun _ => 0) } a) w' := by
  have HK : Hid (Calls _ _ _ _ _) := K.made
  have hn := K.ok.n2
  obtain ⟨pm, gm, c0, hM, _, ht⟩ := K.memt
  have CZ : Hid (Calls _ _ _ _ _) := F.Zero_ok hM hn a ha
  have HT : Hid (∀ w' m', F.Mem w' pm gm h.n m' → w.grownBy w' (some gm) → Gv pK w X p h { s with m := m' } w') := ht
  clear K hM ht
  go_enter Tryz.func21, Tryz.ntmps21
  go_wp2_with (first
    | (go_at_call 59; refine HK.out.mono ?_; rintro e w' ⟨rfl, rfl⟩)
    | (go_at_call 70; refine CZ.out.mono ?_; rintro e w1 ⟨rfl, m1, g1⟩; have H1 : Hid (Gv pK _ X p h { s with m := F.lay s.m (a * 256) 256 (fun _ => 0) } w1) := HT.out _ _ m1 g1; clear m1 g1)
    | (go_at_call 71; refine (H1.out.sweep1 a ha).mono ?_; rintro e w2 ⟨rfl, hg⟩; have H2 : Hid (Gv pK _ X p h _ w2) := hg; clear hg))
  go_ret
  exact ⟨rfl, H2.out⟩
theorem Zero_no {w : World} {X : Nat → Prop} {p : Nat} {h : Hw} {s : Sc} (K : Cr pK w X p h s) (a : Int) (ha : ¬ (0 ≤ a ∧ a < h.n)) :
    Calls Tryz.prog 21 #[.pointer (some ⟨p, 0, none⟩), .int .i64 a] w fun e w' => e = .returned (.int .i64 2) ∧ w' = w := by
  have HK : Hid (Calls _ _ _ _ _) := K.made
  obtain ⟨pm, gm, c0, hM, _, ht⟩ := K.memt
  have CZ : Hid (Calls _ _ _ _ _) := F.Zero_no hM K.ok.n1 K.ok.n2 a ha
  clear K hM ht ha
  go_enter Tryz.func21, Tryz.ntmps21
  go_wp2_with (first
    | (go_at_call 59; refine HK.out.mono ?_; rintro e w' ⟨rfl, rfl⟩)
    | (go_at_call 70; refine CZ.out.mono ?_; rintro e w' ⟨rfl, rfl⟩))
  go_ret
  exact ⟨rfl, rfl⟩
theorem Zero_nil {w : World} {q : Option Addr} (hN : NoR w q) (a : Int) : Calls Tryz.prog 21 #[.pointer q, .int .i64 a] w fun e w' => e = .returned (.int .i64 1) ∧ w' = w := by
  go_enter Tryz.func21, Tryz.ntmps21
  go_wp2_with (go_at_call 59; refine (made_no hN).mono ?_; rintro e w' ⟨rfl, rfl⟩)
  go_ret
  exact ⟨rfl, rfl⟩
theorem Copy_ok {w : World} {X : Nat → Prop} {p : Nat} {h : Hw} {s : Sc} (K : Cr pK w X p h s) (a b : Nat) (ha : a < h.n) (hb : b < h.n) :
    Calls Tryz.prog 22 #[.pointer (some ⟨p, 0, none⟩), .int .i64 (a : Nat), .int .i64 (b : Nat)] w fun e w' => e = .returned (.int .i64 0) ∧ Gv pK w X p h (sw2 h { s with m := F.lay s.m (a * 256) 256 (fun i => s.m (b * 256 + i)) } b a) w' := by
  have HK : Hid (Calls _ _ _ _ _) := K.made
  have hn := K.ok.n2
  obtain ⟨pm, gm, c0, hM, _, ht⟩ := K.memt
  have CZ : Hid (Calls _ _ _ _ _) := F.Copy_ok hM hn a b ha hb
  have HT : Hid (∀ w' m', F.Mem w' pm gm h.n m' → w.grownBy w' (some gm) → Gv pK w X p h { s with m := m' } w') := ht
  clear K hM ht
  go_enter Tryz.func22, Tryz.ntmps22
  go_wp2_with (first
    | (go_at_call 59; refine HK.out.mono ?_; rintro e w' ⟨rfl, rfl⟩)
    | (go_at_call 72; refine CZ.out.mono ?_; rintro e w1 ⟨rfl, m1, g1⟩; have H1 : Hid (Gv pK _ X p h { s with m := F.lay s.m (a * 256) 256 (fun i => s.m (b * 256 + i)) } w1) := HT.out _ _ m1 g1; clear m1 g1)
    | (go_at_call 71; refine (H1.out.sweep2 b a hb ha).mono ?_; rintro e w2 ⟨rfl, hg⟩; have H2 : Hid (Gv pK _ X p h _ w2) := hg; clear hg))
  go_ret
  exact ⟨rfl, H2.out⟩
theorem Copy_no {w : World} {X : Nat → Prop} {p : Nat} {h : Hw} {s : Sc} (K : Cr pK w X p h s) (a b : Int) (ha : ¬ (0 ≤ a ∧ a < h.n ∧ 0 ≤ b ∧ b < h.n)) :
    Calls Tryz.prog 22 #[.pointer (some ⟨p, 0, none⟩), .int .i64 a, .int .i64 b] w fun e w' => e = .returned (.int .i64 2) ∧ w' = w := by
  have HK : Hid (Calls _ _ _ _ _) := K.made
  obtain ⟨pm, gm, c0, hM, _, ht⟩ := K.memt
  have CZ : Hid (Calls _ _ _ _ _) := F.Copy_no hM K.ok.n1 K.ok.n2 a b ha
  clear K hM ht ha
  go_enter Tryz.func22, Tryz.ntmps22
  go_wp2_with (first
    | (go_at_call 59; refine HK.out.mono ?_; rintro e w' ⟨rfl, rfl⟩)
    | (go_at_call 72; refine CZ.out.mono ?_; rintro e w' ⟨rfl, rfl⟩))
  go_ret
  exact ⟨rfl, rfl⟩
theorem Copy_nil {w : World} {q : Option Addr} (hN : NoR w q) (a b : Int) : Calls Tryz.prog 22 #[.pointer q, .int .i64 a, .int .i64 b] w fun e w' => e = .returned (.int .i64 1) ∧ w' = w := by
  go_enter Tryz.func22, Tryz.ntmps22
  go_wp2_with (go_at_call 59; refine (made_no hN).mono ?_; rintro e w' ⟨rfl, rfl⟩)
  go_ret
  exact ⟨rfl, rfl⟩
theorem Bring_ok {w : World} {X : Nat → Prop} {p : Nat} {h : Hw} {s : Sc} (K : Cr pK w X p h s) (a : Nat) (ha : a < h.n) (b off cap : Nat) (u : Nat → Int) (hr : F.Rd w b off 256 u) (hu : F.okB 256 u) :
    Calls Tryz.prog 23 #[.pointer (some ⟨p, 0, none⟩), .int .i64 (a : Nat), .slice (some ⟨b, off, none⟩) 256 cap] w fun e w' => e = .returned (.int .i64 0) ∧ Gv pK w X p h (sw1 h { s with m := F.lay s.m (a * 256) 256 u } a) w' := by
  have HK : Hid (Calls _ _ _ _ _) := K.made
  have hn := K.ok.n2
  obtain ⟨pm, gm, c0, hM, _, ht⟩ := K.memt
  have CZ : Hid (Calls _ _ _ _ _) := F.Put_ok hM hn a ha b off cap u hr hu
  have HT : Hid (∀ w' m', F.Mem w' pm gm h.n m' → w.grownBy w' (some gm) → Gv pK w X p h { s with m := m' } w') := ht
  clear K hM ht hr
  go_enter Tryz.func23, Tryz.ntmps23
  go_wp2_with (first
    | (go_at_call 59; refine HK.out.mono ?_; rintro e w' ⟨rfl, rfl⟩)
    | (go_at_call 73; refine CZ.out.mono ?_; rintro e w1 ⟨rfl, m1, g1⟩; have H1 : Hid (Gv pK _ X p h { s with m := F.lay s.m (a * 256) 256 u } w1) := HT.out _ _ m1 g1; clear m1 g1)
    | (go_at_call 71; refine (H1.out.sweep1 a ha).mono ?_; rintro e w2 ⟨rfl, hg⟩; have H2 : Hid (Gv pK _ X p h _ w2) := hg; clear hg))
  go_ret
  exact ⟨rfl, H2.out⟩
theorem Bring_no {w : World} {X : Nat → Prop} {p : Nat} {h : Hw} {s : Sc} (K : Cr pK w X p h s) (a : Int) (ao : Option Addr) (l cap : Nat) (hl : l ≤ maxLen) (ha : ¬ ((0 ≤ a ∧ a < h.n) ∧ l = 256)) :
    Calls Tryz.prog 23 #[.pointer (some ⟨p, 0, none⟩), .int .i64 a, .slice ao l cap] w fun e w' => e = .returned (.int .i64 2) ∧ w' = w := by
  have HK : Hid (Calls _ _ _ _ _) := K.made
  obtain ⟨pm, gm, c0, hM, _, ht⟩ := K.memt
  have CZ : Hid (Calls Tryz.prog 73 #[.pointer (some ⟨pm, 0, none⟩), .int .i64 a, .slice ao l cap] w fun e w' => e = .returned (.int .i64 2) ∧ w' = w) := by
    by_cases h1 : 0 ≤ a ∧ a < h.n
    · obtain ⟨k, rfl⟩ := Int.eq_ofNat_of_zero_le h1.1
      exact F.Put_len hM K.ok.n1 K.ok.n2 k (by omega) ao l cap (fun e => ha ⟨h1, e⟩) hl
    · exact F.Put_no hM K.ok.n1 K.ok.n2 a h1 _
  clear K hM ht ha
  go_enter Tryz.func23, Tryz.ntmps23
  go_wp2_with (first
    | (go_at_call 59; refine HK.out.mono ?_; rintro e w' ⟨rfl, rfl⟩)
    | (go_at_call 73; refine CZ.out.mono ?_; rintro e w' ⟨rfl, rfl⟩))
  go_ret
  exact ⟨rfl, rfl⟩
theorem Bring_nil {w : World} {q : Option Addr} (hN : NoR w q) (a : Int) (v : Value) : Calls Tryz.prog 23 #[.pointer q, .int .i64 a, v] w fun e w' => e = .returned (.int .i64 1) ∧ w' = w := by
  go_enter Tryz.func23, Tryz.ntmps23
  go_wp2_with (go_at_call 59; refine (made_no hN).mono ?_; rintro e w' ⟨rfl, rfl⟩)
  go_ret
  exact ⟨rfl, rfl⟩
end Go.Proofs.YtokaohlgncmoaaaGreat.E
namespace Go.Proofs.YtokaohlgncmoaaaGreat.E
open Go.ChangeShapes Go.WideShapes Go.ChangeAt Go.RowKit
set_option linter.unusedVariables false
set_option maxRecDepth 8192

set_option maxHeartbeats 1000000 in
theorem Touch_no {w : World} {X : Nat → Prop} {p : Nat} {h : Hw} {s : Sc} (K : Cr pK w X p h s) {ao : Option Addr} {l c : Nat} {f : Nat → Nat} (hl : l ≤ maxLen) (ha : AU w ao l f) (hX : ∀ b off, ao = some ⟨b, off, none⟩ → ¬ X b) (hf : ∀ i, i < l → f i < 18446744073709551616) (hbad : ∃ i, i < l ∧ ¬ f i < h.n * 256) :
    Calls Tryz.prog 16 #[.pointer (some ⟨p, 0, none⟩), .slice ao l c] w fun e w' => e = .returned (.tuple #[.agg #[.bool false, .bool false], .int .i64 10]) ∧ Below w.heap.size w w' := by
  have hn := K.ok.n2
  have hplt : p < w.heap.size := by obtain ⟨_, _, _, _, h⟩ := K.mem; exact h
  have B1 : Below w.heap.size w (w.alloc (.cells #[.bool false, .bool false] 59)) := (Below.refl _ _).alloc (Nat.le_refl _) _
  have b1 := C.blk_new w [.bool false, .bool false] 59
  have HK1 : Hid (Cr pK (w.alloc (.cells #[.bool false, .bool false] 59)) X p h s) := K.below B1
  have HA1 : Hid (AU (w.alloc (.cells #[.bool false, .bool false] 59)) ao l f) := ha.below B1
  have HB1 : Hid (Below w.heap.size w (w.alloc (.cells #[.bool false, .bool false] 59))) := B1
  have HR1 : Hid (C.Blk (w.alloc (.cells #[.bool false, .bool false] 59)) w.heap.size 59 [.bool false, .bool false]) := b1
  have HK0 : Hid (Cr pK w X p h s) := K
  have HA0 : Hid (AU w ao l f) := ha
  have HF : Hid (∀ i, i < l → f i < 18446744073709551616) := hf
  have HBAD : Hid (∃ i, i < l ∧ ¬ f i < h.n * 256) := hbad
  have hn1 := K.ok.n1
  have HX : Hid (∀ b off, ao = some ⟨b, off, none⟩ → ¬ X b) := hX
  unfold maxLen at hl
  clear K ha B1 b1 hX hf hbad
  go_enter Tryz.func16, Tryz.ntmps16
  go_wp2_with (go_at_call 59; refine HK1.out.made.mono ?_; rintro e w' ⟨rfl, rfl⟩)
  generalize hw1 : w.alloc (.cells #[.bool false, .bool false] 59) = w1 at *
  clear hw1
  obtain ⟨pm, gm, c0, mm, _⟩ := HK1.out.mem
  have HM : Hid (F.Mem w1 pm gm h.n s.m) := mm
  clear mm
  go_loop [19] (fun i => ∃ k : Nat, k ≤ l ∧ i = .int .i64 k ∧ ∀ j, j < k → f j < h.n * 256) (fun i => l - (D.iv i).toNat)
  case atStart => exact ⟨0, by omega, rfl, fun j hj => by omega⟩
  case round =>
    obtain ⟨k, hk, rfl, hgood⟩ := hrel
    have HGD : Hid (∀ j, j < k → f j < h.n * 256) := hgood
    clear hgood
    by_cases hlt : k < l
    case' pos =>
      obtain ⟨b, off, rfl, hc⟩ := HA1.out.at' hlt
      have hf := HF.out k hlt
      have HFK : Hid (∀ j, j < k + 1 → f k < h.n * 256 → f j < h.n * 256) := fun j hj hh => by
        by_cases e : j < k
        · exact HGD.out j e
        · obtain rfl : j = k := by omega
          exact hh
      obtain ⟨pa, hpa⟩ : ∃ pa, f k = pa := ⟨_, rfl⟩
      rw [hpa] at hc hf HFK
      clear hpa
      by_cases hin : pa < h.n * 256
      case' pos =>
        go_wp2_with (go_at_call 62; refine (F.Byte_ok HM.out hn pa hin).mono ?_; rintro e w' ⟨rfl, rfl⟩)
        go_round
        case rel => exact ⟨k + 1, by omega, by go_num, fun j hj => HFK.out j hj hin⟩
        case measure => simp [D.iv]; omega
      case' neg =>
        have r0 : w1.cell? ⟨w.heap.size, 0, none⟩ = some (.bool false) := HR1.out.cell 0
        have r1 : w1.cell? ⟨w.heap.size, 1, none⟩ = some (.bool false) := HR1.out.cell 1
        have q0 := HR1.out.frozen 0
        have q1 := HR1.out.frozen 1
        have FIN : Hid (Below w.heap.size w ((w1.setCell ⟨w.heap.size, 0, none⟩ (.bool false)).setCell ⟨w.heap.size, 1, none⟩ (.bool false))) := HB1.out.grown ((C.grown_setCell' _ _ _ _).trans (C.grown_setCell' _ _ _ _)) HB1.out.size (fun j hj => by cases hj; exact Nat.le_refl _)
        have HB9 : Hid (C.Blk ((w1.setCell ⟨w.heap.size, 0, none⟩ (.bool false)).setCell ⟨w.heap.size, 1, none⟩ (.bool false)) w.heap.size 59 [.bool false, .bool false]) := (HR1.out.set 0 (.bool false)).set 1 (.bool false)
        go_wp2_with (go_at_call 62; refine (F.Byte_no HM.out hn1 hn (pa : Int) (by omega) (by omega)).mono ?_; rintro e w' ⟨rfl, rfl⟩)
        exact bodyPost_ret (res_hit rfl rfl HB9.out) rfl ⟨rfl, FIN.out⟩
    case' neg =>
      obtain rfl : k = l := by omega
      obtain ⟨i, hi, hn'⟩ := HBAD.out
      exact absurd (HGD.out i hi) hn'
theorem Touch_nil {w : World} {q : Option Addr} (hN : NoR w q) (hl : ∀ p, q = some ⟨p, 0, none⟩ → p < w.heap.size) (v : Value) :
    Calls Tryz.prog 16 #[.pointer q, v] w fun e w' => e = .returned (.tuple #[.agg #[.bool false, .bool false], .int .i64 1]) ∧ Below w.heap.size w w' := by
  have hN' : NoR (w.alloc (.cells #[.bool false, .bool false] 59)) q := by
    rcases hN with h | ⟨p, rfl, hc⟩
    · exact Or.inl h
    · exact Or.inr ⟨p, rfl, (World.cell?_of_block (w := w) (a := ⟨p, 3, none⟩) (((Below.refl w.heap.size w).alloc (Nat.le_refl _) _).block p (hl p rfl))).trans hc⟩
  have B1 : Below w.heap.size w (w.alloc (.cells #[.bool false, .bool false] 59)) := (Below.refl _ _).alloc (Nat.le_refl _) _
  have b1 := C.blk_new w [.bool false, .bool false] 59
  have CM : Hid (Calls _ _ _ _ _) := made_no hN'
  have r0 : (w.alloc (.cells #[.bool false, .bool false] 59)).cell? ⟨w.heap.size, 0, none⟩ = some (.bool false) := b1.cell 0
  have r1 : (w.alloc (.cells #[.bool false, .bool false] 59)).cell? ⟨w.heap.size, 1, none⟩ = some (.bool false) := b1.cell 1
  have q0 := b1.frozen 0
  have q1 := b1.frozen 1
  have HR1 : Hid (C.Blk (w.alloc (.cells #[.bool false, .bool false] 59)) w.heap.size 59 [.bool false, .bool false]) := b1
  have HB1 : Hid (Below w.heap.size w (w.alloc (.cells #[.bool false, .bool false] 59))) := B1
  clear hN hN' B1 b1
  generalize hw1 : w.alloc (.cells #[.bool false, .bool false] 59) = w1 at *
  have FIN : Hid (Below w.heap.size w ((w1.setCell ⟨w.heap.size, 0, none⟩ (.bool false)).setCell ⟨w.heap.size, 1, none⟩ (.bool false))) := HB1.out.grown ((C.grown_setCell' _ _ _ _).trans (C.grown_setCell' _ _ _ _)) HB1.out.size (fun j hj => by cases hj; exact Nat.le_refl _)
  have HB9 : Hid (C.Blk ((w1.setCell ⟨w.heap.size, 0, none⟩ (.bool false)).setCell ⟨w.heap.size, 1, none⟩ (.bool false)) w.heap.size 59 [.bool false, .bool false]) := (HR1.out.set 0 (.bool false)).set 1 (.bool false)
  go_enter Tryz.func16, Tryz.ntmps16
  go_upto_region 1 with fail
  go_wp2_with (go_at_call 59; refine CM.out.mono ?_; rintro e w' ⟨rfl, rfl⟩)
  exact bodyPost_ret (res_hit rfl rfl HB9.out) rfl ⟨rfl, FIN.out⟩
end Go.Proofs.YtokaohlgncmoaaaGreat.E
