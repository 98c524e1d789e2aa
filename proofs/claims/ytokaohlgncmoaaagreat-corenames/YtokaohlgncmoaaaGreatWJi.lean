/- The program's core and the document's side by side, with blocks that are none of theirs; copies of bytes; no condition but those named. -/
import Derived.Test.YtokaohlgncmoaaaGreatWGg
import Derived.Test.YtokaohlgncmoaaaGreatWJd
import Derived.Deep.QuietTactic
import Derived.BigQuiet
namespace Go.Proofs.YtokaohlgncmoaaaGreat.E
open Go.ChangeShapes Go.WideShapes Go.ChangeAt Go.RowKit
set_option linter.unusedVariables false
set_option maxRecDepth 8192

structure Kz (Z : Nat → Prop) (w w' : World) : Prop where
  os : w'.os = w.os
  tape : w'.tape = w.tape
  output : w'.output = w.output
  size : w.heap.size ≤ w'.heap.size
  block : ∀ k, Z k → w'.heap[k]? = w.heap[k]?
theorem Kz.refl (Z : Nat → Prop) (w : World) : Kz Z w w := ⟨rfl, rfl, rfl, Nat.le_refl _, fun _ _ => rfl⟩
theorem Kz.trans {Z : Nat → Prop} {a b c : World} (h : Kz Z a b) (k : Kz Z b c) : Kz Z a c := ⟨k.os.trans h.os, k.tape.trans h.tape, k.output.trans h.output, Nat.le_trans h.size k.size, fun i hi => (k.block i hi).trans (h.block i hi)⟩
theorem Kz.less {Z Z' : Nat → Prop} {a b : World} (h : Kz Z a b) (hz : ∀ k, Z' k → Z k) : Kz Z' a b := ⟨h.os, h.tape, h.output, h.size, fun i hi => h.block i (hz i hi)⟩
theorem Kz.of_below {Z : Nat → Prop} {w w' : World} (h : Below w.heap.size w w') (hz : ∀ k, Z k → k < w.heap.size) : Kz Z w w' := ⟨h.os, h.tape, h.output, h.size, fun i hi => h.block i (hz i hi)⟩
structure Bo (Z : Nat → Prop) (w : World) (p q : Nat) (L : Nat → Value) (h : Hw) (s t : Sc) : Prop where
  c : ∃ X Y, Cr pK w X p h s ∧ Cr (rK L) w Y q h t ∧ (∀ k, X k → ¬ Y k) ∧ (∀ k, X k → ¬ Z k) ∧ (∀ k, Y k → ¬ Z k)
  z : ∀ k, Z k → k < w.heap.size
theorem Bo.below {Z : Nat → Prop} {w w' : World} {p q : Nat} {L : Nat → Value} {h : Hw} {s t : Sc} (K : Bo Z w p q L h s t) (b : Below w.heap.size w w') : Bo Z w' p q L h s t := by
  obtain ⟨X, Y, c, d, ds, zx, zy⟩ := K.c
  exact ⟨⟨X, Y, c.below b, d.below b, ds, zx, zy⟩, fun k hk => Nat.lt_of_lt_of_le (K.z k hk) b.size⟩
theorem Bo.less {Z Z' : Nat → Prop} {w : World} {p q : Nat} {L : Nat → Value} {h : Hw} {s t : Sc} (K : Bo Z w p q L h s t) (hz : ∀ k, Z' k → Z k) : Bo Z' w p q L h s t := by
  obtain ⟨X, Y, c, d, ds, zx, zy⟩ := K.c
  exact ⟨⟨X, Y, c, d, ds, fun k hx hk => zx k hx (hz k hk), fun k hx hk => zy k hx (hz k hk)⟩, fun k hk => K.z k (hz k hk)⟩
theorem Bo.more {Z : Nat → Prop} {w w' : World} {p q : Nat} {L : Nat → Value} {h : Hw} {s t : Sc} (K : Bo Z w p q L h s t) (b : Below w.heap.size w w') : Bo (fun k => Z k ∨ (w.heap.size ≤ k ∧ k < w'.heap.size)) w' p q L h s t := by
  obtain ⟨X, Y, c, d, ds, zx, zy⟩ := K.c
  refine ⟨⟨X, Y, c.below b, d.below b, ds, fun k hx hk => ?_, fun k hx hk => ?_⟩, fun k hk => ?_⟩
  · rcases hk with q | q
    · exact zx k hx q
    · have := c.lt k hx; omega
  · rcases hk with q | q
    · exact zy k hx q
    · have := d.lt k hx; omega
  · rcases hk with q | q
    · exact Nat.lt_of_lt_of_le (K.z k q) b.size
    · exact q.2
theorem Bo.call {Z : Nat → Prop} {w W : World} {p q : Nat} {L : Nat → Value} {h : Hw} {s s' t : Sc} {fn : FuncId} {args : Array Value} {R : Ending → Prop} (K : Bo Z w p q L h s t)
    (H : ∀ X, Cr pK w X p h s → (∀ k, X k → ¬ Z k) → Calls Tryz.prog fn args W fun e w' => R e ∧ Gv pK w X p h s' w') :
    Calls Tryz.prog fn args W fun e w' => R e ∧ Bo Z w' p q L h s' t ∧ Kz Z w w' := by
  obtain ⟨X, Y, c, d, ds, zx, zy⟩ := K.c
  refine (H X c zx).mono ?_
  rintro e w' ⟨hR, X', c', k⟩
  refine ⟨hR, ⟨⟨X', Y, c', d.kept k (fun i hy hx => ds i hx hy), fun i hx hy => ?_, fun i hx hz => ?_, zy⟩, fun i hi => Nat.lt_of_lt_of_le (K.z i hi) k.size⟩, ⟨k.os, k.tape, k.output, k.size, fun i hi => k.block i (K.z i hi) (fun q => zx i q hi)⟩⟩
  · rcases k.new i hx with q | q
    · exact ds i q hy
    · have := d.lt i hy; omega
  · rcases k.new i hx with q | q
    · exact zx i q hz
    · have := K.z i hz; omega
theorem Bo.rcall {Z : Nat → Prop} {w W : World} {p q : Nat} {L : Nat → Value} {h : Hw} {s t t' : Sc} {fn : FuncId} {args : Array Value} {R : Ending → Prop} (K : Bo Z w p q L h s t)
    (H : ∀ Y, Cr (rK L) w Y q h t → (∀ k, Y k → ¬ Z k) → Calls Tryz.prog fn args W fun e w' => R e ∧ Gv (rK L) w Y q h t' w') :
    Calls Tryz.prog fn args W fun e w' => R e ∧ Bo Z w' p q L h s t' ∧ Kz Z w w' := by
  obtain ⟨X, Y, c, d, ds, zx, zy⟩ := K.c
  refine (H Y d zy).mono ?_
  rintro e w' ⟨hR, Y', d', k⟩
  refine ⟨hR, ⟨⟨X, Y', c.kept k (fun i hx hy => ds i hx hy), d', fun i hx hy => ?_, zx, fun i hy hz => ?_⟩, fun i hi => Nat.lt_of_lt_of_le (K.z i hi) k.size⟩, ⟨k.os, k.tape, k.output, k.size, fun i hi => k.block i (K.z i hi) (fun q => zy i q hi)⟩⟩
  · rcases k.new i hy with q | q
    · exact ds i hx q
    · have := c.lt i hx; omega
  · rcases k.new i hy with q | q
    · exact zy i q hz
    · have := K.z i hz; omega
def In (Z : Nat → Prop) (ao : Option Addr) (l : Nat) : Prop := l = 0 ∨ ∀ b off, ao = some ⟨b, off, none⟩ → Z b
theorem argB_kz {Z : Nat → Prop} {w w' : World} {ao : Option Addr} {l : Nat} {f : Nat → Int} (h : D.Arg w ao l f) (k : Kz Z w w') (hi : In Z ao l) : D.Arg w' ao l f := by
  rcases h with h | ⟨b, off, rfl, hb, hc⟩
  · exact Or.inl h
  · rcases hi with h | hi
    · exact Or.inl h
    · exact Or.inr ⟨b, off, rfl, Nat.lt_of_lt_of_le hb k.size, fun i hj => (World.cell?_of_block (w := w) (a := ⟨b, off + i, none⟩) (k.block b (hi b off rfl))).trans (hc i hj)⟩
theorem au_kz {Z : Nat → Prop} {w w' : World} {ao : Option Addr} {l : Nat} {f : Nat → Nat} (h : AU w ao l f) (k : Kz Z w w') (hi : In Z ao l) : AU w' ao l f := by
  rcases h with h | ⟨b, off, rfl, hb, hc⟩
  · exact Or.inl h
  · rcases hi with h | hi
    · exact Or.inl h
    · exact Or.inr ⟨b, off, rfl, Nat.lt_of_lt_of_le hb k.size, fun i hj => (World.cell?_of_block (w := w) (a := ⟨b, off + i, none⟩) (k.block b (hi b off rfl))).trans (hc i hj)⟩
def CpB (w : World) (l : Nat) (f : Nat → Int) (e : Ending) (w' : World) : Prop :=
  ∃ a c, e = .returned (.slice a l c) ∧ D.Arg w' a l f ∧ Below w.heap.size w w' ∧ (a = none → l = 0 ∧ c = 0) ∧ ∀ ad, a = some ad → ∃ g, ad = ⟨g, 0, none⟩ ∧ w.heap.size ≤ g ∧ g < w'.heap.size
theorem cpB_of {w w' : World} {l : Nat} {f : Nat → Int} {v : Value} (o : w'.ownsRow w.heap.size 5 1 v (0 + l) ([] ++ D.vals l f)) (g : w.grownBy w' (Value.slice none 0 0).ownBlock) : CpB w l f (.returned v) w' := by
  rw [Nat.zero_add, List.nil_append] at o
  have hb : Below w.heap.size w w' := (Below.refl _ w).grown g (Nat.le_refl _) (fun k hk => by cases hk)
  obtain ⟨_, ⟨rfl, rfl⟩ | ⟨g', cap, cur, rfl, hb', hw, hc, hm, hs, ht⟩⟩ := o
  · exact ⟨none, 0, rfl, Or.inl rfl, hb, (fun _ => ⟨rfl, rfl⟩), (fun ad h => by cases h)⟩
  · have hlt : g' < w'.heap.size := (Array.getElem?_eq_some_iff.1 hw).1
    refine ⟨_, _, rfl, Or.inr ⟨g', 0, rfl, hlt, fun i hi => ?_⟩, hb, (fun h => by cases h), fun ad h => ⟨g', (by cases h; rfl), hb', hlt⟩⟩
    rw [cell_of_row w' g' (0 + i) _ 5 (0, 0) hw, Nat.zero_add, ← Array.getElem?_toList, ← D.vals_get _ _ _ hi, ← ht, Nat.mul_one, List.getElem?_take_of_lt hi]
theorem CopyB_any {w : World} {a : Option Addr} {l c : Nat} {f : Nat → Int} (hl : l ≤ 140737488351232) (h : D.Arg w a l f) (hn : a = none → l = 0 ∧ c = 0) :
    Calls Tryz.prog 38 #[.slice a l c] w (CpB w l f) := by
  obtain ⟨i0, hi0, hz0, hz1, hz2⟩ := info_parts D.Tryz.infoU
  have o1 : w.ownsRow w.heap.size 5 1 (.slice none 0 0) 0 [] := World.ownsRow_nil _ _ _ _
  have HQ : Hid (∀ v w', w'.ownsRow w.heap.size 5 1 v (0 + l) ([] ++ D.vals l f) → w.grownBy w' (Value.slice none 0 0).ownBlock → CpB w l f (.returned v) w') := fun v w' => cpB_of
  cases a with
  | none =>
    obtain ⟨rfl, rfl⟩ := hn rfl
    go_enter Tryz.func38, Tryz.ntmps38
    go_wp2_with (at_builtin; refine wpList_append_own_none rfl (.tmp 4) (.tmp 5) 41 rfl w.heap.size 5 i0 1 Tryz.underlying41 hi0 (.slice none 0 0) 0 [] rfl o1 rfl ?_)
    go_ret
    exact HQ.out _ _ o1 (World.grownBy.refl _ _)
  | some ad =>
    have HC : Hid (∀ j u, (D.vals l f)[j]? = some u → w.cell? (ad.add j) = some u) := by
      intro j u hu
      have hj : j < l := by have := (List.getElem?_eq_some_iff.1 hu).1; rwa [D.vals_len] at this
      obtain ⟨b, off, e, _, hc⟩ := h.lt (by omega)
      cases e
      rw [D.vals_get _ _ _ hj] at hu
      rw [Go.WideShapes.add_plain, hc j hj]
      exact hu
    have HL : Hid ((D.vals l f).length = l * 1) := by unfold Hid; rw [D.vals_len]; omega
    have HV : Hid (∀ u ∈ D.vals l f, u.oneCell' = true) := D.vals_one l f
    clear h hn
    generalize D.vals l f = xs at *
    go_enter Tryz.func38, Tryz.ntmps38
    go_wp2_with (at_builtin; refine wpList_append_own _ rfl (.tmp 4) (.tmp 5) 41 rfl w.heap.size 5 i0 _ 1 1 Tryz.underlying41 hi0 hz0 hz1 hz2 rfl (by decide) (.slice none 0 0) 0 [] rfl o1 ad l c xs rfl HL.out HC.out HV.out (by unfold maxLen; omega) (by omega) (Nat.le_refl _) ?_; intro v1 w1 o1' gr1 nil1)
    go_ret
    exact HQ.out _ _ o1' gr1
end Go.Proofs.YtokaohlgncmoaaaGreat.E
namespace Go.Proofs.YtokaohlgncmoaaaGreat.E
open Go.ChangeShapes Go.WideShapes Go.ChangeAt Go.RowKit
set_option linter.unusedVariables false
set_option maxRecDepth 8192

def Bth (S : World → Prop) (Z : Nat → Prop) (p q : Nat) (L : Nat → Value) (h : Hw) (s : Sc) (fp fr : FuncId) (ap ar : Array Value) (v : Value) (s' : Sc) : Prop :=
  (∀ W, S W → Bo Z W p q L h s s → Calls Tryz.prog fp ap W fun e w' => e = .returned v ∧ Bo Z w' p q L h s' s ∧ Kz Z W w') ∧
  (∀ W, S W → Bo Z W p q L h s' s → Calls Tryz.prog fr ar W fun e w' => e = .returned v ∧ Bo Z w' p q L h s' s' ∧ Kz Z W w')
theorem Bo.keep {Z : Nat → Prop} {w : World} {p q : Nat} {L : Nat → Value} {h : Hw} {s t : Sc} {fn : FuncId} {args : Array Value} {v : Value} (K : Bo Z w p q L h s t)
    (H : Calls Tryz.prog fn args w fun e w' => e = .returned v ∧ Below w.heap.size w w') : Calls Tryz.prog fn args w fun e w' => e = .returned v ∧ Bo Z w' p q L h s t ∧ Kz Z w w' :=
  H.mono fun e w' ⟨he, hb⟩ => ⟨he, K.below hb, Kz.of_below hb K.z⟩
theorem same_below {fn : FuncId} {args : Array Value} {w : World} {v : Value} (H : Calls Tryz.prog fn args w fun e w' => e = .returned v ∧ w' = w) : Calls Tryz.prog fn args w fun e w' => e = .returned v ∧ Below w.heap.size w w' :=
  H.mono fun e w' ⟨he, hw⟩ => ⟨he, by subst hw; exact Below.refl _ _⟩
theorem Bo.cr {Z : Nat → Prop} {w : World} {p q : Nat} {L : Nat → Value} {h : Hw} {s t : Sc} (K : Bo Z w p q L h s t) : ∃ X, Cr pK w X p h s ∧ ∀ k, X k → ¬ Z k := by
  obtain ⟨X, Y, c, d, ds, zx, zy⟩ := K.c
  exact ⟨X, c, zx⟩
theorem Bo.rcr {Z : Nat → Prop} {w : World} {p q : Nat} {L : Nat → Value} {h : Hw} {s t : Sc} (K : Bo Z w p q L h s t) : ∃ X, Cr (rK L) w X q h t ∧ ∀ k, X k → ¬ Z k := by
  obtain ⟨X, Y, c, d, ds, zx, zy⟩ := K.c
  exact ⟨Y, d, zy⟩
theorem zero_both (Z : Nat → Prop) (p q : Nat) (L : Nat → Value) (h : Hw) (s : Sc) (a : Int) : ∃ v s', Bth (fun _ => True) Z p q L h s 21 41 #[.pointer (some ⟨p, 0, none⟩), .int .i64 a] #[.pointer (some ⟨q, 0, none⟩), .int .i64 a] (.int .i64 v) s' := by
  by_cases ha : 0 ≤ a ∧ a < h.n
  · obtain ⟨k, rfl⟩ := Int.eq_ofNat_of_zero_le ha.1
    have hk : k < h.n := by omega
    exact ⟨0, _, fun W _ K => K.call (R := fun e => e = .returned (.int .i64 0)) (fun X c _ => Zero_ok c k hk), fun W _ K => K.rcall (R := fun e => e = .returned (.int .i64 0)) (fun X c _ => rZero_ok c k hk)⟩
  · refine ⟨2, s, fun W _ K => ?_, fun W _ K => ?_⟩
    · obtain ⟨X, c, _⟩ := K.cr
      exact K.keep (same_below (Zero_no c a ha))
    · obtain ⟨X, c, _⟩ := K.rcr
      exact K.keep (rZero_no c a ha)
theorem copy_both (Z : Nat → Prop) (p q : Nat) (L : Nat → Value) (h : Hw) (s : Sc) (a b : Int) : ∃ v s', Bth (fun _ => True) Z p q L h s 22 42 #[.pointer (some ⟨p, 0, none⟩), .int .i64 a, .int .i64 b] #[.pointer (some ⟨q, 0, none⟩), .int .i64 a, .int .i64 b] (.int .i64 v) s' := by
  by_cases ha : 0 ≤ a ∧ a < h.n ∧ 0 ≤ b ∧ b < h.n
  · obtain ⟨k, rfl⟩ := Int.eq_ofNat_of_zero_le ha.1
    obtain ⟨j, rfl⟩ := Int.eq_ofNat_of_zero_le ha.2.2.1
    have hk : k < h.n := by omega
    have hj : j < h.n := by omega
    exact ⟨0, _, fun W _ K => K.call (R := fun e => e = .returned (.int .i64 0)) (fun X c _ => Copy_ok c k j hk hj), fun W _ K => K.rcall (R := fun e => e = .returned (.int .i64 0)) (fun X c _ => rCopy_ok c k j hk hj)⟩
  · refine ⟨2, s, fun W _ K => ?_, fun W _ K => ?_⟩
    · obtain ⟨X, c, _⟩ := K.cr
      exact K.keep (same_below (Copy_no c a b ha))
    · obtain ⟨X, c, _⟩ := K.rcr
      exact K.keep (same_below (rCopy_no c a b ha))
theorem charge_both (Z : Nat → Prop) (p q : Nat) (L : Nat → Value) (h : Hw) (s : Sc) (n : Int) (h0 : 0 ≤ n) : ∃ v s', Bth (fun _ => True) Z p q L h s 20 45 #[.pointer (some ⟨p, 0, none⟩), .int .u64 n] #[.pointer (some ⟨q, 0, none⟩), .int .u64 n] (.int .i64 v) s' := by
  by_cases ha : n ≤ 4294967296
  · exact ⟨0, _, fun W _ K => K.call (R := fun e => e = .returned (.int .i64 0)) (fun X c _ => Charge_ok c n h0 ha), fun W _ K => K.rcall (R := fun e => e = .returned (.int .i64 0)) (fun X c _ => rCharge_ok c n h0 ha)⟩
  · refine ⟨2, s, fun W _ K => ?_, fun W _ K => ?_⟩
    · obtain ⟨X, c, _⟩ := K.cr
      exact K.keep (same_below (Charge_big c n (by omega)))
    · exact K.keep (same_below (rCharge_big q n (by omega)))
theorem settle_both (Z : Nat → Prop) (p q : Nat) (L : Nat → Value) (h : Hw) (s : Sc) : Bth (fun _ => True) Z p q L h s 11 12 #[.pointer (some ⟨p, 0, none⟩)] #[.pointer (some ⟨q, 0, none⟩)] (.tuple #[.int .u64 s.z, .int .i64 0]) { s with z := 0 } :=
  ⟨fun W _ K => K.call (R := fun e => e = .returned (.tuple #[.int .u64 s.z, .int .i64 0])) (fun X c _ => Settle_ok c), fun W _ K => K.rcall (R := fun e => e = .returned (.tuple #[.int .u64 s.z, .int .i64 0])) (fun X c _ => rSettle_ok c)⟩
theorem leave_both (Z : Nat → Prop) (p q : Nat) (L : Nat → Value) (h : Hw) (s : Sc) : Bth (fun _ => True) Z p q L h s 17 46 #[.pointer (some ⟨p, 0, none⟩)] #[.pointer (some ⟨q, 0, none⟩)] (.tuple #[.int .u64 (lvC h s), .int .i64 0]) (lft s) :=
  ⟨fun W _ K => K.call (R := fun e => e = .returned (.tuple #[.int .u64 (lvC h s), .int .i64 0])) (fun X c _ => Leave_ok c), fun W _ K => K.rcall (R := fun e => e = .returned (.tuple #[.int .u64 (lvC h s), .int .i64 0])) (fun X c _ => rLeave_ok c)⟩
theorem bring_both (Z : Nat → Prop) (p q : Nat) (L : Nat → Value) (h : Hw) (s : Sc) (a : Int) (l : Nat) (u : Nat → Int) (hl : l ≤ maxLen) (hu : D.okB l u) (a1 a2 : Option Addr) (c1 c2 : Nat) (hi2 : In Z a2 l) :
    ∃ v s', Bth (fun W => D.Arg W a1 l u ∧ D.Arg W a2 l u) Z p q L h s 23 43 #[.pointer (some ⟨p, 0, none⟩), .int .i64 a, .slice a1 l c1] #[.pointer (some ⟨q, 0, none⟩), .int .i64 a, .slice a2 l c2] (.int .i64 v) s' := by
  by_cases ha : (0 ≤ a ∧ a < h.n) ∧ l = 256
  · obtain ⟨ha, rfl⟩ := ha
    obtain ⟨k, rfl⟩ := Int.eq_ofNat_of_zero_le ha.1
    have hk : k < h.n := by omega
    refine ⟨0, sw1 h { s with m := F.lay s.m (k * 256) 256 u } k, fun W hS K => ?_, fun W hS K => ?_⟩
    · obtain ⟨b, off, rfl, hr⟩ := hS.1.resolve_left (by omega)
      exact K.call (R := fun e => e = .returned (.int .i64 0)) (fun X c _ => Bring_ok c k hk b off c1 u hr hu)
    · obtain ⟨b, off, rfl, hr⟩ := hS.2.resolve_left (by omega)
      have hz : Z b := (hi2.resolve_left (by omega)) b off rfl
      exact K.rcall (R := fun e => e = .returned (.int .i64 0)) (fun X c zy => rBring_ok c k hk b off c2 u hr hu (fun x => zy b x hz))
  · refine ⟨2, s, fun W _ K => ?_, fun W _ K => ?_⟩
    · obtain ⟨X, c, _⟩ := K.cr
      exact K.keep (same_below (Bring_no c a a1 l c1 hl ha))
    · obtain ⟨X, c, _⟩ := K.rcr
      exact K.keep (same_below (rBring_no c a a2 l c2 hl ha))
theorem touch_both (p q : Nat) (L : Nat → Value) (h : Hw) (s : Sc) (l : Nat) (f : Nat → Nat) (hl : l ≤ maxLen) (hf : ∀ i, i < l → f i < 18446744073709551616) (a1 a2 : Option Addr) (c1 c2 : Nat) :
    ∃ x y er s', ∀ Z : Nat → Prop, In Z a1 l → In Z a2 l → Bth (fun W => AU W a1 l f ∧ AU W a2 l f) Z p q L h s 16 40 #[.pointer (some ⟨p, 0, none⟩), .slice a1 l c1] #[.pointer (some ⟨q, 0, none⟩), .slice a2 l c2] (.tuple #[.agg #[.bool x, .bool y], .int .i64 er]) s' := by
  by_cases hin : ∀ i, i < l → f i < h.n * 256
  · refine ⟨(lh h s f l).1, (lh h s f l).2, 0, tw h s f l, fun Z hi1 hi2 => ⟨fun W hS K => ?_, fun W hS K => ?_⟩⟩
    · exact K.call (R := fun e => e = .returned (.tuple #[.agg #[.bool (lh h s f l).1, .bool (lh h s f l).2], .int .i64 0])) (fun X c zx => Touch_ok c hl hS.1 (fun l0 b off e z => zx b z (hi1.resolve_left (by omega) b off e)) hin)
    · exact K.rcall (R := fun e => e = .returned (.tuple #[.agg #[.bool (lh h s f l).1, .bool (lh h s f l).2], .int .i64 0])) (fun X c zx => rTouch_ok c hl hS.2 (fun l0 b off e z => zx b z (hi2.resolve_left (by omega) b off e)) hin)
  · have hbad : ∃ i, i < l ∧ ¬ f i < h.n * 256 := by
      simpa using hin
    refine ⟨false, false, 10, s, fun Z hi1 hi2 => ⟨fun W hS K => ?_, fun W hS K => ?_⟩⟩
    · obtain ⟨X, c, zx⟩ := K.cr
      exact K.keep (Touch_no c hl hS.1 (fun b off e z => zx b z (hi1.resolve_left (by obtain ⟨i, hi, _⟩ := hbad; omega) b off e)) hf hbad)
    · obtain ⟨X, c, _⟩ := K.rcr
      exact K.keep (rTouch_no c hl hS.2 hf hbad)
end Go.Proofs.YtokaohlgncmoaaaGreat.E
namespace Go.Proofs.YtokaohlgncmoaaaGreat.E
open Go.ChangeShapes Go.WideShapes Go.ChangeAt Go.RowKit
set_option linter.unusedVariables false
set_option maxRecDepth 8192

structure Dx where
  k : Int
  la : Option Addr
  ln : Nat
  lc : Nat
  lf : Nat → Nat
  f : Int
  g : Int
  ba : Option Addr
  bn : Nat
  bc : Nat
  bu : Nat → Int
  n : Int
  t : T.Tr
def Dx.ce (x : Dx) : List Value := [.int .i64 x.k, .slice x.la x.ln x.lc, .int .i64 x.f, .int .i64 x.g, .slice x.ba x.bn x.bc, .int .u64 x.n, .int .i64 x.t.a, .int .i64 x.t.p, .int .i64 x.t.f, .bool x.t.r, .bool x.t.w, .bool x.t.d]
theorem In.mono {Z Z' : Nat → Prop} {ao : Option Addr} {l : Nat} (i : In Z ao l) (h : ∀ k, Z k → Z' k) : In Z' ao l := i.elim Or.inl (fun k => Or.inr (fun b o e => h b (k b o e)))
structure Din (Z : Nat → Prop) (w : World) (x : Dx) : Prop where
  k0 : -9223372036854775808 ≤ x.k
  k1 : x.k < 9223372036854775808
  f0 : -9223372036854775808 ≤ x.f
  f1 : x.f < 9223372036854775808
  n0 : 0 ≤ x.n
  n1 : x.n < 18446744073709551616
  al : AU w x.la x.ln x.lf
  il : In Z x.la x.ln
  hl : x.ln * 8 ≤ 140737488351232
  nl : x.la = none → x.ln = 0 ∧ x.lc = 0
  hf : ∀ i, i < x.ln → x.lf i < 18446744073709551616
  ab : D.Arg w x.ba x.bn x.bu
  ib : In Z x.ba x.bn
  hb : x.bn ≤ 140737488351232
  nb : x.ba = none → x.bn = 0 ∧ x.bc = 0
  ok : D.okB x.bn x.bu
theorem Din.kz {Z : Nat → Prop} {w w' : World} {x : Dx} (d : Din Z w x) (k : Kz Z w w') : Din Z w' x :=
  ⟨d.k0, d.k1, d.f0, d.f1, d.n0, d.n1, au_kz d.al k d.il, d.il, d.hl, d.nl, d.hf, argB_kz d.ab k d.ib, d.ib, d.hb, d.nb, d.ok⟩
theorem Din.wide {Z Z' : Nat → Prop} {w : World} {x : Dx} (d : Din Z w x) (h : ∀ k, Z k → Z' k) : Din Z' w x :=
  ⟨d.k0, d.k1, d.f0, d.f1, d.n0, d.n1, d.al, d.il.mono h, d.hl, d.nl, d.hf, d.ab, d.ib.mono h, d.hb, d.nb, d.ok⟩
structure Rdy (Q : Nat → Prop) (w : World) (b : Nat) (x : Dx) : Prop where
  bx : C.Blk w b 45 x.ce
  hb : Q b
  d : Din Q w x
theorem Rdy.kz {Q : Nat → Prop} {w w' : World} {b : Nat} {x : Dx} (r : Rdy Q w b x) (k : Kz Q w w') : Rdy Q w' b x := ⟨r.bx.of_eq (k.block b r.hb), r.hb, r.d.kz k⟩
theorem Rdy.wide {Q Q' : Nat → Prop} {w : World} {b : Nat} {x : Dx} (r : Rdy Q w b x) (h : ∀ k, Q k → Q' k) : Rdy Q' w b x := ⟨r.bx, h _ r.hb, r.d.wide h⟩
structure Go0 (Z Q : Nat → Prop) (w0 w : World) (b p q : Nat) (L : Nat → Value) (h : Hw) (s : Sc) (x : Dx) : Prop where
  r : Rdy Q w b x
  bo : Bo Q w p q L h s s
  zq : ∀ k, Z k → Q k
  kz : Kz Z w0 w
theorem Go0.box {Z : Nat → Prop} {w : World} {p q : Nat} {L : Nat → Value} {h : Hw} {s : Sc} {x : Dx} (K : Bo Z w p q L h s s) (d : Din Z w x) :
    Go0 Z (fun k => Z k ∨ (w.heap.size ≤ k ∧ k < (w.alloc (.cells x.ce.toArray 45)).heap.size)) w (w.alloc (.cells x.ce.toArray 45)) w.heap.size p q L h s x := by
  have hb : Below w.heap.size w (w.alloc (.cells x.ce.toArray 45)) := (Below.refl _ _).alloc (Nat.le_refl _) _
  exact ⟨⟨C.blk_new w _ _, Or.inr ⟨Nat.le_refl _, by simp⟩, (d.kz (Kz.of_below hb K.z)).wide (fun k hk => Or.inl hk)⟩, K.more hb, fun k hk => Or.inl hk, Kz.of_below hb K.z⟩
theorem Go0.more {Z Q : Nat → Prop} {w0 w w' : World} {b p q : Nat} {L : Nat → Value} {h : Hw} {s : Sc} {x : Dx} (G : Go0 Z Q w0 w b p q L h s x) (hb : Below w.heap.size w w') : Go0 Z (fun k => Q k ∨ (w.heap.size ≤ k ∧ k < w'.heap.size)) w0 w' b p q L h s x :=
  ⟨(G.r.kz (Kz.of_below hb G.bo.z)).wide (fun k hk => Or.inl hk), G.bo.more hb, fun k hk => Or.inl (G.zq k hk), G.kz.trans ((Kz.of_below hb G.bo.z).less G.zq)⟩
theorem Go0.below {Z Q : Nat → Prop} {w0 w w' : World} {b p q : Nat} {L : Nat → Value} {h : Hw} {s : Sc} {x : Dx} (G : Go0 Z Q w0 w b p q L h s x) (hb : Below w.heap.size w w') : Go0 Z Q w0 w' b p q L h s x :=
  ⟨G.r.kz (Kz.of_below hb G.bo.z), G.bo.below hb, G.zq, G.kz.trans ((Kz.of_below hb G.bo.z).less G.zq)⟩
def Lv (Z : Nat → Prop) (w0 : World) (p q : Nat) (L : Nat → Value) (h : Hw) (e : Ending) (w : World) : Prop := e = .returned (.bool true) ∧ ∃ s, Bo Z w p q L h s s ∧ Kz Z w0 w
theorem Go0.lv {Z Q : Nat → Prop} {w0 w w' : World} {b p q : Nat} {L : Nat → Value} {h : Hw} {s s' : Sc} {x : Dx} (G : Go0 Z Q w0 w b p q L h s x) (K : Bo Q w' p q L h s' s') (k : Kz Q w w') : Lv Z w0 p q L h (.returned (.bool true)) w' :=
  ⟨rfl, s', K.less G.zq, G.kz.trans (k.less G.zq)⟩
theorem Bth.one {S : World → Prop} {Q : Nat → Prop} {p q : Nat} {L : Nat → Value} {h : Hw} {s s' : Sc} {fp fr : FuncId} {ap ar : Array Value} {v : Value} (B : Bth S Q p q L h s fp fr ap ar v s') {w : World} (K : Bo Q w p q L h s s) (hS : ∀ W, Kz Q w W → S W) :
    ∀ W, Below w.heap.size w W → Calls Tryz.prog fp ap W fun e w' => e = .returned v ∧ Bo Q w' p q L h s' s ∧ Kz Q w w' := fun W hb =>
  (B.1 W (hS W (Kz.of_below hb K.z)) (K.below hb)).mono fun e w' ⟨he, h1, h2⟩ => ⟨he, h1, (Kz.of_below hb K.z).trans h2⟩
theorem Bth.two {S : World → Prop} {Q : Nat → Prop} {p q : Nat} {L : Nat → Value} {h : Hw} {s s' : Sc} {fp fr : FuncId} {ap ar : Array Value} {v : Value} (B : Bth S Q p q L h s fp fr ap ar v s') {w : World} (hS : ∀ W, Kz Q w W → S W) :
    ∀ wl, Bo Q wl p q L h s' s → Kz Q w wl → Calls Tryz.prog fr ar wl fun e w' => e = .returned v ∧ Bo Q w' p q L h s' s' ∧ Kz Q w w' := fun wl K k =>
  (B.2 wl (hS wl k) K).mono fun e w' ⟨he, h1, h2⟩ => ⟨he, h1, k.trans h2⟩
theorem Cr.lnl {q : Kd} {w : World} {X : Nat → Prop} {p : Nat} {h : Hw} {s : Sc} (K : Cr q w X p h s) : (C.lns s.b (h.c * 16)).length ≤ 1000000 := by
  have hk := K.ok
  obtain ⟨G, P, c, rfl, rfl⟩ := K
  obtain ⟨b, V, hP⟩ := c.ll.parts
  have h1 : C.cnt s.b (h.c * 16) ≤ h.c * 16 * h.k := cnt_ways (fun i hi => hP.c.len i hi)
  have h2 : h.c * 16 * h.k ≤ 16 * 16 * 16 := Nat.mul_le_mul (Nat.mul_le_mul hk.c2 (Nat.le_refl _)) hk.k2
  rw [C.lns_len]
  omega
theorem Bo.lines {Z : Nat → Prop} {w : World} {p q : Nat} {L : Nat → Value} {h : Hw} {s : Sc} (K : Bo Z w p q L h s s) :
    Calls Tryz.prog 14 #[.pointer (some ⟨p, 0, none⟩)] w fun e w' => ∃ v, e = .returned v ∧ C.Lns w.heap.size w' v (C.lns s.b (h.c * 16)) ∧ Below w.heap.size w w' := by
  obtain ⟨X, c, _⟩ := K.cr
  exact Lines_ok c
theorem Bo.rlines {Z : Nat → Prop} {w : World} {p q : Nat} {L : Nat → Value} {h : Hw} {s : Sc} (K : Bo Z w p q L h s s) :
    Calls Tryz.prog 15 #[.pointer (some ⟨q, 0, none⟩)] w fun e w' => ∃ v, e = .returned v ∧ C.Lns w.heap.size w' v (C.lns s.b (h.c * 16)) ∧ Below w.heap.size w w' := by
  obtain ⟨X, c, _⟩ := K.rcr
  exact rLines_ok c
theorem Bo.lnl {Z : Nat → Prop} {w : World} {p q : Nat} {L : Nat → Value} {h : Hw} {s : Sc} (K : Bo Z w p q L h s s) : (C.lns s.b (h.c * 16)).length ≤ 1000000 := by
  obtain ⟨X, c, _⟩ := K.cr
  exact c.lnl
def uvs (l : Nat) (f : Nat → Nat) : List Value := (List.range l).map fun i => .int .u64 (f i : Nat)
theorem uvs_len (l : Nat) (f : Nat → Nat) : (uvs l f).length = l := by simp [uvs]
theorem uvs_get (l : Nat) (f : Nat → Nat) (i : Nat) (hi : i < l) : (uvs l f)[i]? = some (.int .u64 (f i : Nat)) := by simp [uvs, hi]
theorem uvs_one (l : Nat) (f : Nat → Nat) : ∀ v ∈ uvs l f, v.oneCell' = true := by
  intro v hv
  simp only [uvs, List.mem_map] at hv
  obtain ⟨i, _, rfl⟩ := hv
  rfl
theorem Tryz.infoW : (Tryz.prog.info? 22).map (fun i => (i.zero, i.size, i.bytes)) = some (some (.int .u64 0), 1, 8) := by kernel_rfl
theorem au_own {w' : World} {B l : Nat} {f : Nat → Nat} {v : Value} (o : w'.ownsRow B 22 1 v (0 + l) ([] ++ uvs l f)) : ∃ a c, v = .slice a l c ∧ AU w' a l f ∧ ∀ b off, a = some ⟨b, off, none⟩ → B ≤ b ∧ b < w'.heap.size := by
  rw [Nat.zero_add, List.nil_append] at o
  obtain ⟨_, ⟨rfl, rfl⟩ | ⟨g', cap, cur, rfl, hb', hw, hc, hm, hs, ht⟩⟩ := o
  · exact ⟨none, 0, rfl, Or.inl rfl, fun b off e => by cases e⟩
  · have hlt : g' < w'.heap.size := (Array.getElem?_eq_some_iff.1 hw).1
    refine ⟨_, _, rfl, Or.inr ⟨g', 0, rfl, hlt, fun i hi => ?_⟩, fun b off e => by cases e; exact ⟨hb', hlt⟩⟩
    rw [cell_of_row w' g' (0 + i) _ 22 (0, 0) hw, Nat.zero_add, ← Array.getElem?_toList, ← uvs_get _ _ _ hi, ← ht, Nat.mul_one, List.getElem?_take_of_lt hi]
theorem own_new (w : World) : (w.alloc (.cells #[] 22)).ownsRow w.heap.size 22 1 (.slice (some ⟨w.heap.size, 0, none⟩) 0 0) 0 [] := ⟨rfl, Or.inr ⟨w.heap.size, 0, #[], rfl, Nat.le_refl _, heap_alloc_last _ _, Nat.le_refl _, by unfold maxLen; omega, rfl, rfl⟩⟩
end Go.Proofs.YtokaohlgncmoaaaGreat.E
