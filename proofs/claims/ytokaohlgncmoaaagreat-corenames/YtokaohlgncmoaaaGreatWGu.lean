/- CoreNames walked: the numbers; cores that are not there; the chapter's calls at both ends, of the chapter's configuration and of none. -/
import Derived.Test.YtokaohlgncmoaaaGreatWGq
namespace Go.Proofs.YtokaohlgncmoaaaGreat.E
open Go.ChangeShapes Go.WideShapes Go.ChangeAt Go.RowKit
set_option linter.unusedVariables false
set_option maxRecDepth 100000

def nls (b1 b2 b3 : Nat) : List Dx := [⟨4, none, 0, 0, fun _ => 0, 0, 0, none, 0, 0, fun _ => 0, 4294967296, ⟨0, 0, 0, false, false, false⟩⟩, ⟨4, none, 0, 0, fun _ => 0, 0, 0, none, 0, 0, fun _ => 0, 4294967297, ⟨0, 0, 0, false, false, false⟩⟩, ⟨1, none, 0, 0, fun _ => 0, 63, 0, none, 0, 0, fun _ => 0, 0, ⟨0, 0, 0, false, false, false⟩⟩, ⟨1, none, 0, 0, fun _ => 0, 64, 0, none, 0, 0, fun _ => 0, 0, ⟨0, 0, 0, false, false, false⟩⟩, ⟨2, none, 0, 0, fun _ => 0, 64, (-1), none, 0, 0, fun _ => 0, 0, ⟨0, 0, 0, false, false, false⟩⟩, ⟨3, none, 0, 0, fun _ => 0, 3, 0, some ⟨b1, 0, none⟩, 255, 255, fun _ => 0, 0, ⟨0, 0, 0, false, false, false⟩⟩, ⟨0, some ⟨b2, 0, none⟩, 1, 1, fun _ => 16383, 0, 0, none, 0, 0, fun _ => 0, 0, ⟨0, 0, 0, false, false, false⟩⟩, ⟨0, some ⟨b3, 0, none⟩, 2, 2, fun i => if i = 0 then 0 else 16384, 0, 0, none, 0, 0, fun _ => 0, 0, ⟨0, 0, 0, false, false, false⟩⟩, ⟨0, none, 0, 0, fun _ => 0, 0, 0, none, 0, 0, fun _ => 0, 0, ⟨0, 0, 0, false, false, false⟩⟩, ⟨5, none, 0, 0, fun _ => 0, 0, 0, none, 0, 0, fun _ => 0, 0, ⟨0, 0, 0, false, false, false⟩⟩, ⟨6, none, 0, 0, fun _ => 0, 0, 0, none, 0, 0, fun _ => 0, 0, ⟨0, 0, 0, false, false, false⟩⟩]
def nlc (b1 b2 b3 : Nat) : List Value := (nls b1 b2 b3).flatMap Dx.ce
theorem Din.base {w : World} {x : Dx} (k0 : -9223372036854775808 ≤ x.k) (k1 : x.k < 9223372036854775808) (f0 : -9223372036854775808 ≤ x.f) (f1 : x.f < 9223372036854775808) (n0 : 0 ≤ x.n) (n1 : x.n < 18446744073709551616)
    (al : AU w x.la x.ln x.lf) (hl : x.ln * 8 ≤ 140737488351232) (nl : x.la = none → x.ln = 0 ∧ x.lc = 0) (hf : ∀ i, i < x.ln → x.lf i < 18446744073709551616) (ab : D.Arg w x.ba x.bn x.bu) (hb : x.bn ≤ 140737488351232) (nb : x.ba = none → x.bn = 0 ∧ x.bc = 0) (ok : D.okB x.bn x.bu) :
    Din (fun k => k < w.heap.size) w x := ⟨k0, k1, f0, f1, n0, n1, al, in_of_au al, hl, nl, hf, ab, in_of_arg ab, hb, nb, ok⟩
theorem Dl.below {w w' : World} {ao : Option Addr} {l : Nat} (h : Dl (fun k => k < w.heap.size) w ao l) (b : Below w.heap.size w w') : Dl (fun k => k < w'.heap.size) w' ao l := fun i hi => by
  obtain ⟨g, off, x, e, hz, hc, hd⟩ := h.kz (Kz.of_below b (fun _ z => z)) i hi
  exact ⟨g, off, x, e, Nat.lt_of_lt_of_le hz b.size, hc, hd.wide (fun k hk => Nat.lt_of_lt_of_le hk b.size)⟩
theorem names_dl {w : World} {g b1 b2 b3 : Nat} (hB : C.Blk w g 45 (nlc b1 b2 b3)) (h1 : D.Arg w (some ⟨b1, 0, none⟩) 255 (fun _ => 0)) (h2 : AU w (some ⟨b2, 0, none⟩) 1 (fun _ => 16383)) (h3 : AU w (some ⟨b3, 0, none⟩) 2 (fun i => if i = 0 then 0 else 16384)) :
    Dl (fun k => k < w.heap.size) w (some ⟨g, 0, none⟩) 11 := fun i hi => by
  have hcell : ∀ j, w.cell? ⟨g, 0 + j, none⟩ = (nlc b1 b2 b3)[j]? := fun j => by rw [Nat.zero_add]; exact hB.cell j
  have hx : ∀ x : Dx, (∀ j, j < 12 → (nlc b1 b2 b3)[i * 12 + j]? = (Dx.ce x)[j]?) → ∀ j v, (Dx.ce x)[j]? = some v → w.cell? ⟨g, 0 + i * 12 + j, none⟩ = some v := fun x hh j v hv => by
    have hj : j < 12 := by
      have := (List.getElem?_eq_some_iff.1 hv).1
      simpa [Dx.ce] using this
    rw [Nat.add_assoc, hcell, hh j hj]
    exact hv
  have hs : ∀ j, j < 12 → j = 0 ∨ j = 1 ∨ j = 2 ∨ j = 3 ∨ j = 4 ∨ j = 5 ∨ j = 6 ∨ j = 7 ∨ j = 8 ∨ j = 9 ∨ j = 10 ∨ j = 11 := fun j hj => by omega
  have hlt := hB.lt
  rcases (show i = 0 ∨ i = 1 ∨ i = 2 ∨ i = 3 ∨ i = 4 ∨ i = 5 ∨ i = 6 ∨ i = 7 ∨ i = 8 ∨ i = 9 ∨ i = 10 by omega) with rfl | rfl | rfl | rfl | rfl | rfl | rfl | rfl | rfl | rfl | rfl
  · exact ⟨g, 0, ⟨4, none, 0, 0, fun _ => 0, 0, 0, none, 0, 0, fun _ => 0, 4294967296, ⟨0, 0, 0, false, false, false⟩⟩, rfl, hlt, hx _ (fun j hj => by rcases hs j hj with rfl | rfl | rfl | rfl | rfl | rfl | rfl | rfl | rfl | rfl | rfl | rfl <;> rfl), Din.base (by simp) (by simp) (by simp) (by simp) (by simp) (by simp) (Or.inl rfl) (by simp) (fun _ => ⟨rfl, rfl⟩) (fun k hk => absurd hk (Nat.not_lt_zero k)) (Or.inl rfl) (by simp) (fun _ => ⟨rfl, rfl⟩) (fun k hk => ⟨Int.le_refl 0, by simp⟩)⟩
  · exact ⟨g, 0, ⟨4, none, 0, 0, fun _ => 0, 0, 0, none, 0, 0, fun _ => 0, 4294967297, ⟨0, 0, 0, false, false, false⟩⟩, rfl, hlt, hx _ (fun j hj => by rcases hs j hj with rfl | rfl | rfl | rfl | rfl | rfl | rfl | rfl | rfl | rfl | rfl | rfl <;> rfl), Din.base (by simp) (by simp) (by simp) (by simp) (by simp) (by simp) (Or.inl rfl) (by simp) (fun _ => ⟨rfl, rfl⟩) (fun k hk => absurd hk (Nat.not_lt_zero k)) (Or.inl rfl) (by simp) (fun _ => ⟨rfl, rfl⟩) (fun k hk => ⟨Int.le_refl 0, by simp⟩)⟩
  · exact ⟨g, 0, ⟨1, none, 0, 0, fun _ => 0, 63, 0, none, 0, 0, fun _ => 0, 0, ⟨0, 0, 0, false, false, false⟩⟩, rfl, hlt, hx _ (fun j hj => by rcases hs j hj with rfl | rfl | rfl | rfl | rfl | rfl | rfl | rfl | rfl | rfl | rfl | rfl <;> rfl), Din.base (by simp) (by simp) (by simp) (by simp) (by simp) (by simp) (Or.inl rfl) (by simp) (fun _ => ⟨rfl, rfl⟩) (fun k hk => absurd hk (Nat.not_lt_zero k)) (Or.inl rfl) (by simp) (fun _ => ⟨rfl, rfl⟩) (fun k hk => ⟨Int.le_refl 0, by simp⟩)⟩
  · exact ⟨g, 0, ⟨1, none, 0, 0, fun _ => 0, 64, 0, none, 0, 0, fun _ => 0, 0, ⟨0, 0, 0, false, false, false⟩⟩, rfl, hlt, hx _ (fun j hj => by rcases hs j hj with rfl | rfl | rfl | rfl | rfl | rfl | rfl | rfl | rfl | rfl | rfl | rfl <;> rfl), Din.base (by simp) (by simp) (by simp) (by simp) (by simp) (by simp) (Or.inl rfl) (by simp) (fun _ => ⟨rfl, rfl⟩) (fun k hk => absurd hk (Nat.not_lt_zero k)) (Or.inl rfl) (by simp) (fun _ => ⟨rfl, rfl⟩) (fun k hk => ⟨Int.le_refl 0, by simp⟩)⟩
  · exact ⟨g, 0, ⟨2, none, 0, 0, fun _ => 0, 64, (-1), none, 0, 0, fun _ => 0, 0, ⟨0, 0, 0, false, false, false⟩⟩, rfl, hlt, hx _ (fun j hj => by rcases hs j hj with rfl | rfl | rfl | rfl | rfl | rfl | rfl | rfl | rfl | rfl | rfl | rfl <;> rfl), Din.base (by simp) (by simp) (by simp) (by simp) (by simp) (by simp) (Or.inl rfl) (by simp) (fun _ => ⟨rfl, rfl⟩) (fun k hk => absurd hk (Nat.not_lt_zero k)) (Or.inl rfl) (by simp) (fun _ => ⟨rfl, rfl⟩) (fun k hk => ⟨Int.le_refl 0, by simp⟩)⟩
  · exact ⟨g, 0, ⟨3, none, 0, 0, fun _ => 0, 3, 0, some ⟨b1, 0, none⟩, 255, 255, fun _ => 0, 0, ⟨0, 0, 0, false, false, false⟩⟩, rfl, hlt, hx _ (fun j hj => by rcases hs j hj with rfl | rfl | rfl | rfl | rfl | rfl | rfl | rfl | rfl | rfl | rfl | rfl <;> rfl), Din.base (by simp) (by simp) (by simp) (by simp) (by simp) (by simp) (Or.inl rfl) (by simp) (fun _ => ⟨rfl, rfl⟩) (fun k hk => absurd hk (Nat.not_lt_zero k)) (h1) (by simp) (fun e => by cases e) (fun k hk => ⟨Int.le_refl 0, by simp⟩)⟩
  · exact ⟨g, 0, ⟨0, some ⟨b2, 0, none⟩, 1, 1, fun _ => 16383, 0, 0, none, 0, 0, fun _ => 0, 0, ⟨0, 0, 0, false, false, false⟩⟩, rfl, hlt, hx _ (fun j hj => by rcases hs j hj with rfl | rfl | rfl | rfl | rfl | rfl | rfl | rfl | rfl | rfl | rfl | rfl <;> rfl), Din.base (by simp) (by simp) (by simp) (by simp) (by simp) (by simp) (h2) (by simp) (fun e => by cases e) (fun k hk => (by decide : 16383 < 18446744073709551616)) (Or.inl rfl) (by simp) (fun _ => ⟨rfl, rfl⟩) (fun k hk => ⟨Int.le_refl 0, by simp⟩)⟩
  · exact ⟨g, 0, ⟨0, some ⟨b3, 0, none⟩, 2, 2, fun i => if i = 0 then 0 else 16384, 0, 0, none, 0, 0, fun _ => 0, 0, ⟨0, 0, 0, false, false, false⟩⟩, rfl, hlt, hx _ (fun j hj => by rcases hs j hj with rfl | rfl | rfl | rfl | rfl | rfl | rfl | rfl | rfl | rfl | rfl | rfl <;> rfl), Din.base (by simp) (by simp) (by simp) (by simp) (by simp) (by simp) (h3) (by simp) (fun e => by cases e) (fun k hk => by show (if k = 0 then 0 else 16384) < _; split <;> decide) (Or.inl rfl) (by simp) (fun _ => ⟨rfl, rfl⟩) (fun k hk => ⟨Int.le_refl 0, by simp⟩)⟩
  · exact ⟨g, 0, ⟨0, none, 0, 0, fun _ => 0, 0, 0, none, 0, 0, fun _ => 0, 0, ⟨0, 0, 0, false, false, false⟩⟩, rfl, hlt, hx _ (fun j hj => by rcases hs j hj with rfl | rfl | rfl | rfl | rfl | rfl | rfl | rfl | rfl | rfl | rfl | rfl <;> rfl), Din.base (by simp) (by simp) (by simp) (by simp) (by simp) (by simp) (Or.inl rfl) (by simp) (fun _ => ⟨rfl, rfl⟩) (fun k hk => absurd hk (Nat.not_lt_zero k)) (Or.inl rfl) (by simp) (fun _ => ⟨rfl, rfl⟩) (fun k hk => ⟨Int.le_refl 0, by simp⟩)⟩
  · exact ⟨g, 0, ⟨5, none, 0, 0, fun _ => 0, 0, 0, none, 0, 0, fun _ => 0, 0, ⟨0, 0, 0, false, false, false⟩⟩, rfl, hlt, hx _ (fun j hj => by rcases hs j hj with rfl | rfl | rfl | rfl | rfl | rfl | rfl | rfl | rfl | rfl | rfl | rfl <;> rfl), Din.base (by simp) (by simp) (by simp) (by simp) (by simp) (by simp) (Or.inl rfl) (by simp) (fun _ => ⟨rfl, rfl⟩) (fun k hk => absurd hk (Nat.not_lt_zero k)) (Or.inl rfl) (by simp) (fun _ => ⟨rfl, rfl⟩) (fun k hk => ⟨Int.le_refl 0, by simp⟩)⟩
  · exact ⟨g, 0, ⟨6, none, 0, 0, fun _ => 0, 0, 0, none, 0, 0, fun _ => 0, 0, ⟨0, 0, 0, false, false, false⟩⟩, rfl, hlt, hx _ (fun j hj => by rcases hs j hj with rfl | rfl | rfl | rfl | rfl | rfl | rfl | rfl | rfl | rfl | rfl | rfl <;> rfl), Din.base (by simp) (by simp) (by simp) (by simp) (by simp) (by simp) (Or.inl rfl) (by simp) (fun _ => ⟨rfl, rfl⟩) (fun k hk => absurd hk (Nat.not_lt_zero k)) (Or.inl rfl) (by simp) (fun _ => ⟨rfl, rfl⟩) (fun k hk => ⟨Int.le_refl 0, by simp⟩)⟩
def cf0 : Cf := ⟨0, 0, 0, 0, 0, 0, ⟨0, 0, 0, 0, 0, 0⟩, 0, 0, 0, 0, fun _ => 0, 0, fun _ => ⟨0, fun _ => 0, 0, 0, 0, 0, 0, 0, 0⟩⟩
def ad0 : Ad := ⟨none, 0, none, 0, fun _ => none, fun _ => 0⟩
theorem cin0 (w : World) : Cin w ad0 cf0 := ⟨Or.inl rfl, Or.inl rfl, by decide, by decide, (fun i hi => absurd hi (Nat.not_lt_zero i)), (fun _ => ⟨rfl, rfl⟩), (fun _ => ⟨rfl, rfl⟩), (fun i hi => absurd hi (Nat.not_lt_zero i)), Nat.le_refl _, by decide, by decide, by decide, by decide⟩
set_option maxHeartbeats 4000000 in
theorem names_any (w : World) : Calls Tryz.prog 4 #[] w fun e w' => e = .returned (.bool true) ∧ Below w.heap.size w w' := by
  have hb0 : Below w.heap.size w (w.alloc (.cells #[.pointer none, .pointer none, .pointer none, .pointer none, .pointer none, .int .i64 0, .int .i64 0, .int .u64 0, .int .u64 0, .int .u64 0, .int .u64 0, .int .u64 0, .int .u64 0, .int .u64 0] 57)) := (Below.refl _ _).alloc (Nat.le_refl _) _
  have hX0 : C.Blk (w.alloc (.cells #[.pointer none, .pointer none, .pointer none, .pointer none, .pointer none, .int .i64 0, .int .i64 0, .int .u64 0, .int .u64 0, .int .u64 0, .int .u64 0, .int .u64 0, .int .u64 0, .int .u64 0] 57)) w.heap.size 57 [.pointer none, .pointer none, .pointer none, .pointer none, .pointer none, .int .i64 0, .int .i64 0, .int .u64 0, .int .u64 0, .int .u64 0, .int .u64 0, .int .u64 0, .int .u64 0, .int .u64 0] := C.blk_new w _ _
  have HB1 : Hid (Below w.heap.size w (w.alloc (.cells #[.pointer none, .pointer none, .pointer none, .pointer none, .pointer none, .int .i64 0, .int .i64 0, .int .u64 0, .int .u64 0, .int .u64 0, .int .u64 0, .int .u64 0, .int .u64 0, .int .u64 0] 57))) := hb0
  have HX1 : Hid (C.Blk (w.alloc (.cells #[.pointer none, .pointer none, .pointer none, .pointer none, .pointer none, .int .i64 0, .int .i64 0, .int .u64 0, .int .u64 0, .int .u64 0, .int .u64 0, .int .u64 0, .int .u64 0, .int .u64 0] 57)) w.heap.size 57 [.pointer none, .pointer none, .pointer none, .pointer none, .pointer none, .int .i64 0, .int .i64 0, .int .u64 0, .int .u64 0, .int .u64 0, .int .u64 0, .int .u64 0, .int .u64 0, .int .u64 0]) := hX0
  clear hb0 hX0
  have hne : ∀ W, (binOp .neq 59 (.agg #[.bool false, .bool false]) (.agg #[.bool false, .bool false])).run Tryz.prog W = .ok (.bool false) W := fun W => by rw [neH_run, eqH_self]; rfl
  go_enter Tryz.func4, Tryz.ntmps4
  go_upto_region 2 with fail
  generalize w.alloc (.cells #[.pointer none, .pointer none, .pointer none, .pointer none, .pointer none, .int .i64 0, .int .i64 0, .int .u64 0, .int .u64 0, .int .u64 0, .int .u64 0, .int .u64 0, .int .u64 0, .int .u64 0] 57) = w1 at *
  obtain ⟨g, hg⟩ : ∃ g, w.heap.size = g := ⟨_, rfl⟩
  rw [hg] at HX1
  have HG : Hid (w.heap.size = g) := hg
  rw [hg]
  clear hg
  have HX : Hid (∀ W, Below w1.heap.size w1 W → C.Blk W g 57 [.pointer none, .pointer none, .pointer none, .pointer none, .pointer none, .int .i64 0, .int .i64 0, .int .u64 0, .int .u64 0, .int .u64 0, .int .u64 0, .int .u64 0, .int .u64 0, .int .u64 0]) := fun W b => HX1.out.of_eq (b.block g HX1.out.lt)
  have HN : Hid (∀ W, Below w1.heap.size w1 W → NoR W (some ⟨g, 0, none⟩)) := fun W b => Or.inr ⟨g, rfl, (HX.out W b).cell 3⟩
  have CT : Hid (∀ W v, Below w1.heap.size w1 W → Calls Tryz.prog 16 #[.pointer (some ⟨g, 0, none⟩), v] W fun e w' => e = .returned (.tuple #[.agg #[.bool false, .bool false], .int .i64 1]) ∧ Below W.heap.size W w') := fun W v b => Touch_nil (HN.out W b) (fun p e => by cases e; exact (HX.out W b).lt) v
  go_wp2_with fail
  refine (CT.out _ _ ((Below.refl _ _).alloc (Nat.le_refl _) _)).mono ?_
  rintro e wt ⟨rfl, hbt⟩
  have HBT : Hid (Below w1.heap.size w1 wt) := ((Below.refl _ w1).alloc (Nat.le_refl _) _).trans (hbt.mono (by simp))
  have HBA : Hid (Below w1.heap.size w1 (wt.alloc (.cells #[.bool false, .bool false] 59))) := HBT.out.alloc HBT.out.size _
  have HXH : Hid (C.Blk (wt.alloc (.cells #[.bool false, .bool false] 59)) wt.heap.size 59 [.bool false, .bool false]) := C.blk_new wt _ _
  clear hbt CT HX1
  go_upto_region 3 with fail
  generalize wt.alloc (.cells #[.bool false, .bool false] 59) = wa at *
  have e0 : wa.cell? ⟨g, 0, none⟩ = some (.pointer none) := (HX.out wa HBA.out).cell 0
  have e1 : wa.cell? ⟨g, 1, none⟩ = some (.pointer none) := (HX.out wa HBA.out).cell 1
  clear HBT
  generalize wt.heap.size = bt at *
  have CS : Hid (Calls _ _ _ _ _) := Settle_no (HN.out wa HBA.out)
  have CL : Hid (Calls _ _ _ _ _) := Leave_no (HN.out wa HBA.out)
  have CM : Hid (Calls _ _ _ _ _) := F.Load_nil (w := wa) (q := none) (Or.inl rfl) 0 1
  have CF : Hid (Calls _ _ _ _ _) := T.Find_nil (w := wa) (q := none) (Or.inl rfl) 0 0
  go_upto_region 6 with (first
    | (go_at_call 11; refine CS.out.mono ?_; rintro e w' ⟨rfl, hww⟩; obtain rfl := hww.symm)
    | (go_at_call 17; refine CL.out.mono ?_; rintro e w' ⟨rfl, hww⟩; obtain rfl := hww.symm)
    | (go_at_call 18; refine CM.out.mono ?_; rintro e w' ⟨rfl, hww⟩; obtain rfl := hww.symm))
  clear CS CL CM
  go_wp2_with fail
  refine CF.out.mono ?_
  rintro e wf ⟨rfl, hbf⟩
  clear CF e0 e1
  have HBF : Hid (Below w1.heap.size w1 (wf.alloc (.cells #[.int .i64 0, .int .i64 0, .int .i64 0, .bool false, .bool false, .bool false] 43))) := (HBA.out.trans (hbf.mono HBA.out.size)).alloc (Nat.le_trans HBA.out.size hbf.size) _
  have hbb : Below wa.heap.size wa (wf.alloc (.cells #[.int .i64 0, .int .i64 0, .int .i64 0, .bool false, .bool false, .bool false] 43)) := hbf.alloc hbf.size _
  have hXh := HXH.out.of_eq (hbb.block bt HXH.out.lt)
  have HXh : Hid (C.Blk _ _ _ _) := hXh
  clear hbf hbb hXh HXH HBA
  go_upto_region 7 with fail
  generalize wf.alloc (.cells #[.int .i64 0, .int .i64 0, .int .i64 0, .bool false, .bool false, .bool false] 43) = wb at *
  have y0 : wb.cell? ⟨bt, 0, none⟩ = some (.bool false) := HXh.out.cell 0
  have y1 : wb.cell? ⟨bt, 1, none⟩ = some (.bool false) := HXh.out.cell 1
  have y2 : wb.cell? ⟨g, 2, none⟩ = some (.pointer none) := (HX.out wb HBF.out).cell 2
  clear HXh
  have C1 : Hid (Calls _ _ _ _ _) := Charge_no (HN.out wb HBF.out) 0
  have C2 : Hid (Calls _ _ _ _ _) := Zero_nil (HN.out wb HBF.out) 0
  have C3 : Hid (Calls _ _ _ _ _) := Copy_nil (HN.out wb HBF.out) 0 0
  have C4 : Hid (Calls _ _ _ _ _) := Bring_nil (HN.out wb HBF.out) 0 (.slice none 0 0)
  have C5 : Hid (Calls _ _ _ _ _) := D.Erase_nil (w := wb) (q := none) (Or.inl rfl) 0
  have C6 : Hid (Calls _ _ _ _ _) := Lines_no (HN.out wb HBF.out)
  clear HN HX
  go_upto_region 11 with (first
    | (go_at_call 20; refine C1.out.mono ?_; rintro e w' ⟨rfl, hww⟩; obtain rfl := hww.symm)
    | (go_at_call 21; refine C2.out.mono ?_; rintro e w' ⟨rfl, hww⟩; obtain rfl := hww.symm)
    | (go_at_call 22; refine C3.out.mono ?_; rintro e w' ⟨rfl, hww⟩; obtain rfl := hww.symm)
    | (go_at_call 23; refine C4.out.mono ?_; rintro e w' ⟨rfl, hww⟩; obtain rfl := hww.symm)
    | (go_at_call 24; refine C5.out.mono ?_; rintro e w' ⟨rfl, hww⟩; obtain rfl := hww.symm)
    | (go_at_call 14; refine C6.out.mono ?_; rintro e w' ⟨rfl, hww⟩; obtain rfl := hww.symm))
  clear C1 C2 C3 C4 C5 C6 y0 y1 y2 hne
  have HWB : Hid (Below w.heap.size w wb) := HB1.out.trans (HBF.out.mono HB1.out.size)
  clear HBF HB1
  have m7 : (Instr.makeSlice 41 (.int .i64 255) (.int .i64 255)).run Tryz.prog wb = .ok (.slice (some ⟨wb.heap.size, 0, none⟩) 255 255) (wb.alloc (.cells (F.vals 255 (fun _ => 0)).toArray 5)) := F.make_run 255 (by omega) wb
  have hc1 : Below wb.heap.size wb (wb.alloc (.cells (F.vals 255 (fun _ => 0)).toArray 5)) := (Below.refl _ _).alloc (Nat.le_refl _) _
  have ha1 : D.Arg (wb.alloc (.cells (F.vals 255 (fun _ => 0)).toArray 5)) (some ⟨wb.heap.size, 0, none⟩) 255 (fun _ => 0) := Or.inr ⟨_, 0, rfl, (F.new_By (w := wb) (m := 255) (h := fun _ => 0) (t := 5)).rd⟩
  generalize (wb.alloc (.cells (F.vals 255 (fun _ => 0)).toArray 5)) = wk at *
  have HWK : Hid (Below w.heap.size w wk) := HWB.out.trans (hc1.mono HWB.out.size)
  clear HWB hc1
  generalize wb.heap.size = B1 at *
  have HDL : Hid (Dl (fun k => k < ((((wk.alloc (.cells #[.int .u64 16383] 22)).alloc (.cells #[.int .u64 0, .int .u64 16384] 22)).alloc (.cells (nlc B1 wk.heap.size (wk.heap.size + 1)).toArray 45)).heap.size)) (((wk.alloc (.cells #[.int .u64 16383] 22)).alloc (.cells #[.int .u64 0, .int .u64 16384] 22)).alloc (.cells (nlc B1 wk.heap.size (wk.heap.size + 1)).toArray 45)) (some ⟨wk.heap.size + 1 + 1, 0, none⟩) 11) := by
    have q1 : Below wk.heap.size wk (((wk.alloc (.cells #[.int .u64 16383] 22)).alloc (.cells #[.int .u64 0, .int .u64 16384] 22)).alloc (.cells (nlc B1 wk.heap.size (wk.heap.size + 1)).toArray 45)) := (((Below.refl _ _).alloc (Nat.le_refl _) _).alloc (by simp) _).alloc (by simp; omega) _
    have q2 : Below (wk.alloc (.cells #[.int .u64 16383] 22)).heap.size (wk.alloc (.cells #[.int .u64 16383] 22)) (((wk.alloc (.cells #[.int .u64 16383] 22)).alloc (.cells #[.int .u64 0, .int .u64 16384] 22)).alloc (.cells (nlc B1 wk.heap.size (wk.heap.size + 1)).toArray 45)) := ((Below.refl _ _).alloc (Nat.le_refl _) _).alloc (by simp) _
    have q3 : Below ((wk.alloc (.cells #[.int .u64 16383] 22)).alloc (.cells #[.int .u64 0, .int .u64 16384] 22)).heap.size ((wk.alloc (.cells #[.int .u64 16383] 22)).alloc (.cells #[.int .u64 0, .int .u64 16384] 22)) (((wk.alloc (.cells #[.int .u64 16383] 22)).alloc (.cells #[.int .u64 0, .int .u64 16384] 22)).alloc (.cells (nlc B1 wk.heap.size (wk.heap.size + 1)).toArray 45)) := (Below.refl _ _).alloc (Nat.le_refl _) _
    have u1 : C.Blk (wk.alloc (.cells #[.int .u64 16383] 22)) wk.heap.size 22 [.int .u64 16383] := C.blk_new wk _ _
    have u2 : C.Blk ((wk.alloc (.cells #[.int .u64 16383] 22)).alloc (.cells #[.int .u64 0, .int .u64 16384] 22)) (wk.heap.size + 1) 22 [.int .u64 0, .int .u64 16384] := by
      have := C.blk_new (wk.alloc (.cells #[.int .u64 16383] 22)) [.int .u64 0, .int .u64 16384] 22
      simpa using this
    have u3 : C.Blk (((wk.alloc (.cells #[.int .u64 16383] 22)).alloc (.cells #[.int .u64 0, .int .u64 16384] 22)).alloc (.cells (nlc B1 wk.heap.size (wk.heap.size + 1)).toArray 45)) (wk.heap.size + 1 + 1) 45 (nlc B1 wk.heap.size (wk.heap.size + 1)) := by
      have := C.blk_new ((wk.alloc (.cells #[.int .u64 16383] 22)).alloc (.cells #[.int .u64 0, .int .u64 16384] 22)) (nlc B1 wk.heap.size (wk.heap.size + 1)) 45
      rw [show ((wk.alloc (.cells #[.int .u64 16383] 22)).alloc (.cells #[.int .u64 0, .int .u64 16384] 22)).heap.size = wk.heap.size + 1 + 1 by simp] at this
      exact this
    have v1 := u1.of_eq (q2.block _ u1.lt)
    have v2 := u2.of_eq (q3.block _ u2.lt)
    refine names_dl u3 (argB_below ha1 q1) (Or.inr ⟨_, 0, rfl, v1.lt, fun i hi => ?_⟩) (Or.inr ⟨_, 0, rfl, v2.lt, fun i hi => ?_⟩)
    · obtain rfl : i = 0 := by omega
      exact v1.cell 0
    · rcases (show i = 0 ∨ i = 1 by omega) with rfl | rfl
      · exact v2.cell 0
      · exact v2.cell 1
  have HWL : Hid (Below w.heap.size w (((wk.alloc (.cells #[.int .u64 16383] 22)).alloc (.cells #[.int .u64 0, .int .u64 16384] 22)).alloc (.cells (nlc B1 wk.heap.size (wk.heap.size + 1)).toArray 45))) := ((HWK.out.alloc HWK.out.size _).alloc (by have := HWK.out.size; simp; omega) _).alloc (by have := HWK.out.size; simp; omega) _
  have hnl : (nlc B1 wk.heap.size (wk.heap.size + 1)).toArray = #[.int .i64 4, .slice none 0 0, .int .i64 0, .int .i64 0, .slice none 0 0, .int .u64 4294967296, .int .i64 0, .int .i64 0, .int .i64 0, .bool false, .bool false, .bool false, .int .i64 4, .slice none 0 0, .int .i64 0, .int .i64 0, .slice none 0 0, .int .u64 4294967297, .int .i64 0, .int .i64 0, .int .i64 0, .bool false, .bool false, .bool false, .int .i64 1, .slice none 0 0, .int .i64 63, .int .i64 0, .slice none 0 0, .int .u64 0, .int .i64 0, .int .i64 0, .int .i64 0, .bool false, .bool false, .bool false, .int .i64 1, .slice none 0 0, .int .i64 64, .int .i64 0, .slice none 0 0, .int .u64 0, .int .i64 0, .int .i64 0, .int .i64 0, .bool false, .bool false, .bool false, .int .i64 2, .slice none 0 0, .int .i64 64, .int .i64 (-1), .slice none 0 0, .int .u64 0, .int .i64 0, .int .i64 0, .int .i64 0, .bool false, .bool false, .bool false, .int .i64 3, .slice none 0 0, .int .i64 3, .int .i64 0, .slice (some ⟨B1, 0, none⟩) 255 255, .int .u64 0, .int .i64 0, .int .i64 0, .int .i64 0, .bool false, .bool false, .bool false, .int .i64 0, .slice (some ⟨wk.heap.size, 0, none⟩) 1 1, .int .i64 0, .int .i64 0, .slice none 0 0, .int .u64 0, .int .i64 0, .int .i64 0, .int .i64 0, .bool false, .bool false, .bool false, .int .i64 0, .slice (some ⟨wk.heap.size + 1, 0, none⟩) 2 2, .int .i64 0, .int .i64 0, .slice none 0 0, .int .u64 0, .int .i64 0, .int .i64 0, .int .i64 0, .bool false, .bool false, .bool false, .int .i64 0, .slice none 0 0, .int .i64 0, .int .i64 0, .slice none 0 0, .int .u64 0, .int .i64 0, .int .i64 0, .int .i64 0, .bool false, .bool false, .bool false, .int .i64 5, .slice none 0 0, .int .i64 0, .int .i64 0, .slice none 0 0, .int .u64 0, .int .i64 0, .int .i64 0, .int .i64 0, .bool false, .bool false, .bool false, .int .i64 6, .slice none 0 0, .int .i64 0, .int .i64 0, .slice none 0 0, .int .u64 0, .int .i64 0, .int .i64 0, .int .i64 0, .bool false, .bool false, .bool false] := rfl
  rw [hnl] at HDL HWL
  clear hnl ha1 HWK
  go_upto_region 12 with fail
  obtain ⟨wL, hwL⟩ : ∃ wL, (((wk.alloc (.cells #[.int .u64 16383] 22)).alloc (.cells #[.int .u64 0, .int .u64 16384] 22)).alloc (.cells #[.int .i64 4, .slice none 0 0, .int .i64 0, .int .i64 0, .slice none 0 0, .int .u64 4294967296, .int .i64 0, .int .i64 0, .int .i64 0, .bool false, .bool false, .bool false, .int .i64 4, .slice none 0 0, .int .i64 0, .int .i64 0, .slice none 0 0, .int .u64 4294967297, .int .i64 0, .int .i64 0, .int .i64 0, .bool false, .bool false, .bool false, .int .i64 1, .slice none 0 0, .int .i64 63, .int .i64 0, .slice none 0 0, .int .u64 0, .int .i64 0, .int .i64 0, .int .i64 0, .bool false, .bool false, .bool false, .int .i64 1, .slice none 0 0, .int .i64 64, .int .i64 0, .slice none 0 0, .int .u64 0, .int .i64 0, .int .i64 0, .int .i64 0, .bool false, .bool false, .bool false, .int .i64 2, .slice none 0 0, .int .i64 64, .int .i64 (-1), .slice none 0 0, .int .u64 0, .int .i64 0, .int .i64 0, .int .i64 0, .bool false, .bool false, .bool false, .int .i64 3, .slice none 0 0, .int .i64 3, .int .i64 0, .slice (some ⟨B1, 0, none⟩) 255 255, .int .u64 0, .int .i64 0, .int .i64 0, .int .i64 0, .bool false, .bool false, .bool false, .int .i64 0, .slice (some ⟨wk.heap.size, 0, none⟩) 1 1, .int .i64 0, .int .i64 0, .slice none 0 0, .int .u64 0, .int .i64 0, .int .i64 0, .int .i64 0, .bool false, .bool false, .bool false, .int .i64 0, .slice (some ⟨wk.heap.size + 1, 0, none⟩) 2 2, .int .i64 0, .int .i64 0, .slice none 0 0, .int .u64 0, .int .i64 0, .int .i64 0, .int .i64 0, .bool false, .bool false, .bool false, .int .i64 0, .slice none 0 0, .int .i64 0, .int .i64 0, .slice none 0 0, .int .u64 0, .int .i64 0, .int .i64 0, .int .i64 0, .bool false, .bool false, .bool false, .int .i64 5, .slice none 0 0, .int .i64 0, .int .i64 0, .slice none 0 0, .int .u64 0, .int .i64 0, .int .i64 0, .int .i64 0, .bool false, .bool false, .bool false, .int .i64 6, .slice none 0 0, .int .i64 0, .int .i64 0, .slice none 0 0, .int .u64 0, .int .i64 0, .int .i64 0, .int .i64 0, .bool false, .bool false, .bool false] 45)) = wL := ⟨_, rfl⟩
  rw [hwL] at HDL HWL ⊢
  clear hwL m7
  generalize wk.heap.size + 1 + 1 = bL at *
  go_wp2_with fail
  refine (awake_any _).mono ?_
  rintro _ wc ⟨rfl, kc⟩
  have HWC : Hid (Below w.heap.size w wc) := HWL.out.trans (kc.mono HWL.out.size)
  have HDC : Hid (Dl (fun k => k < wc.heap.size) wc (some ⟨bL, 0, none⟩) 11) := HDL.out.below kc
  clear kc HDL HWL
  go_wp2_with fail
  refine (usual_any wc).mono ?_
  rintro e wd ⟨n1, n2, n3, n4, a, c, rfl, rfl, rfl, hU, _, hb⟩
  have HWD : Hid (Below w.heap.size w wd) := HWC.out.trans (hb.mono HWC.out.size)
  have HDD : Hid (Dl (fun k => k < wd.heap.size) wd (some ⟨bL, 0, none⟩) 11) := HDC.out.below hb
  have HP1 : Hid (Calls _ _ _ _ _) := plays_any (cl := 11) hU.cin (by decide) HDD.out
  clear hU hb HDC HWC
  generalize Ud n1 n2 n3 n4 = a at *
  go_wp2_with fail
  refine HP1.out.mono ?_
  rintro e we ⟨rfl, ke⟩
  have HWE : Hid (Below w.heap.size w we) := HWD.out.trans (ke.mono HWD.out.size)
  have HP2 : Hid (Calls _ _ _ _ _) := plays_any (cl := 11) (cin0 we) (by decide) (HDD.out.below ke)
  clear ke HP1 HWD HDD
  go_wp2_with fail
  refine HP2.out.mono ?_
  rintro e wf ⟨rfl, kf⟩
  have HWF : Hid (Below w.heap.size w wf) := HWE.out.trans (kf.mono HWE.out.size)
  clear kf HP2 HWE
  go_wp2
  go_ret
  exact ⟨rfl, HWF.out⟩
end Go.Proofs.YtokaohlgncmoaaaGreat.E
