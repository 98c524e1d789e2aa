/- What the statements' own configuration is, and awake; no condition. -/
import Derived.Test.YtokaohlgncmoaaaGreatWQb
import Derived.Laws.AppendOwnNone
import Derived.Laws.IdiomCopy
import Derived.Deep.AppendLies
namespace Go.Proofs.YtokaohlgncmoaaaGreat
open Go.ChangeShapes Go.WideShapes Go.ChangeAt Go.RowKit
set_option linter.unusedVariables false

def us : Cf := ⟨64, 4, 2, 4, 2, 4, ⟨1, 4, 10, 5, 1, 20⟩, 4000, 20, 0, 2, fun i => (i : Int), 2, fun i => if i = 0 then ⟨2, fun j => (j : Int), 1, 4, 8, 1, 1, 1, 3⟩ else ⟨1, fun _ => 2, 0, 2, 6, 1, 1, 1, 3⟩⟩
theorem us_may : may us = true := by decide +kernel
structure Ublk (w : World) (n1 n2 n3 n4 : Nat) : Prop where
  t : Blk w n1 3 [.int .i64 0, .int .i64 1]
  c0 : Blk w n2 3 [.int .i64 0, .int .i64 1]
  c1 : Blk w n3 3 [.int .i64 2]
  p : Blk w n4 82 [.slice (some ⟨n2, 0, none⟩) 2 2, .int .i64 1, .int .i64 4, .int .i64 8, .int .i64 1, .int .i64 1, .int .i64 1, .int .i64 3, .slice (some ⟨n3, 0, none⟩) 1 1, .int .i64 0, .int .i64 2, .int .i64 6, .int .i64 1, .int .i64 1, .int .i64 1, .int .i64 3]
def Ud (n1 n2 n3 n4 : Nat) : Ad := ⟨some ⟨n1, 0, none⟩, 2, some ⟨n4, 0, none⟩, 2, fun i => some ⟨if i = 0 then n2 else n3, 0, none⟩, fun i => if i = 0 then 2 else 1⟩
theorem two_lt {i : Nat} (h : i < 2) : i = 0 ∨ i = 1 := by omega
theorem Ublk.cin {w : World} {n1 n2 n3 n4 : Nat} (h : Ublk w n1 n2 n3 n4) : Cin w (Ud n1 n2 n3 n4) us := by
  have h1 : Arg w (some ⟨n1, 0, none⟩) 2 (fun i => (i : Int)) := Or.inr ⟨n1, 0, rfl, h.t.lt, fun i hi => by
    rw [h.t.cell]
    rcases two_lt hi with rfl | rfl <;> rfl⟩
  have h2 : Arg w (some ⟨n2, 0, none⟩) 2 (fun i => (i : Int)) := Or.inr ⟨n2, 0, rfl, h.c0.lt, fun i hi => by
    rw [h.c0.cell]
    rcases two_lt hi with rfl | rfl <;> rfl⟩
  have h3 : Arg w (some ⟨n3, 0, none⟩) 1 (fun _ => (2 : Int)) := Or.inr ⟨n3, 0, rfl, h.c1.lt, fun i hi => by
    rw [h.c1.cell]
    obtain rfl : i = 0 := by omega
    rfl⟩
  refine ⟨h1, Or.inr ⟨n4, 0, rfl, h.p.lt, fun i hi => ?_⟩, by decide, by decide, fun i hi => ?_, (fun e => by cases e), (fun e => by cases e), (fun i hi e => by cases e), Nat.le_refl 2, by decide, by decide, by decide, by decide⟩
  · have hi' : i < 2 := hi
    rcases two_lt hi' with rfl | rfl
    · exact ⟨⟨h.p.lt, h.p.cell _, h.p.cell _, h.p.cell _, h.p.cell _, h.p.cell _, h.p.cell _, h.p.cell _, h.p.cell _⟩, h2⟩
    · exact ⟨⟨h.p.lt, h.p.cell _, h.p.cell _, h.p.cell _, h.p.cell _, h.p.cell _, h.p.cell _, h.p.cell _, h.p.cell _⟩, h3⟩
  · have hi' : i < 2 := hi
    rcases two_lt hi' with rfl | rfl <;> decide
def Usd (w : World) (e : Ending) (w' : World) : Prop := ∃ n1 n2 n3 n4, ∃ (a : Ad) (c : Cf), e = .returned (.agg #[.int .i64 c.F, .int .i64 c.C, .int .i64 c.W, .int .i64 c.S, .int .i64 c.V, .int .i64 c.T, .int .u64 c.k.l1, .int .u64 c.k.llc, .int .u64 c.k.mi, .int .u64 c.k.fa, .int .u64 c.k.st, .int .u64 c.k.di, .int .u64 c.sl, .int .u64 c.pd, .int .u64 c.ft, .slice a.ta c.tn a.tc, .slice a.pa c.pn a.pc]) ∧ c = us ∧ a = Ud n1 n2 n3 n4 ∧ Ublk w' n1 n2 n3 n4 ∧ (w.heap.size < n1 ∧ n1 < n2 ∧ n2 < n3 ∧ n3 < n4) ∧ Below w.heap.size w w'
theorem usd_of {w w' : World} {o : Obj} (hw : w' = ((((w.alloc o).alloc (.cells #[.int .i64 0, .int .i64 1] 3)).alloc (.cells #[.int .i64 0, .int .i64 1] 3)).alloc (.cells #[.int .i64 2] 3)).alloc (.cells #[.slice (some ⟨w.heap.size + 1 + 1, 0, none⟩) 2 2, .int .i64 1, .int .i64 4, .int .i64 8, .int .i64 1, .int .i64 1, .int .i64 1, .int .i64 3, .slice (some ⟨w.heap.size + 1 + 1 + 1, 0, none⟩) 1 1, .int .i64 0, .int .i64 2, .int .i64 6, .int .i64 1, .int .i64 1, .int .i64 1, .int .i64 3] 82)) :
    Usd w (.returned (.agg #[.int .i64 64, .int .i64 4, .int .i64 2, .int .i64 4, .int .i64 2, .int .i64 4, .int .u64 1, .int .u64 4, .int .u64 10, .int .u64 5, .int .u64 1, .int .u64 20, .int .u64 4000, .int .u64 20, .int .u64 0, .slice (some ⟨w.heap.size + 1, 0, none⟩) 2 2, .slice (some ⟨w.heap.size + 1 + 1 + 1 + 1, 0, none⟩) 2 2])) w' := by
  refine ⟨w.heap.size + 1, w.heap.size + 1 + 1, w.heap.size + 1 + 1 + 1, w.heap.size + 1 + 1 + 1 + 1, Ud _ _ _ _, us, rfl, rfl, rfl, ?_, by omega, ?_⟩
  · subst hw
    refine ⟨?_, ?_, ?_, ?_⟩
    · have := (((blk_new (w.alloc o) [.int .i64 0, .int .i64 1] 3).alloc (.cells #[.int .i64 0, .int .i64 1] 3)).alloc (.cells #[.int .i64 2] 3)).alloc (.cells #[.slice (some ⟨w.heap.size + 1 + 1, 0, none⟩) 2 2, .int .i64 1, .int .i64 4, .int .i64 8, .int .i64 1, .int .i64 1, .int .i64 1, .int .i64 3, .slice (some ⟨w.heap.size + 1 + 1 + 1, 0, none⟩) 1 1, .int .i64 0, .int .i64 2, .int .i64 6, .int .i64 1, .int .i64 1, .int .i64 1, .int .i64 3] 82)
      simpa using this
    · have := ((blk_new ((w.alloc o).alloc (.cells #[.int .i64 0, .int .i64 1] 3)) [.int .i64 0, .int .i64 1] 3).alloc (.cells #[.int .i64 2] 3)).alloc (.cells #[.slice (some ⟨w.heap.size + 1 + 1, 0, none⟩) 2 2, .int .i64 1, .int .i64 4, .int .i64 8, .int .i64 1, .int .i64 1, .int .i64 1, .int .i64 3, .slice (some ⟨w.heap.size + 1 + 1 + 1, 0, none⟩) 1 1, .int .i64 0, .int .i64 2, .int .i64 6, .int .i64 1, .int .i64 1, .int .i64 1, .int .i64 3] 82)
      simpa using this
    · have := (blk_new (((w.alloc o).alloc (.cells #[.int .i64 0, .int .i64 1] 3)).alloc (.cells #[.int .i64 0, .int .i64 1] 3)) [.int .i64 2] 3).alloc (.cells #[.slice (some ⟨w.heap.size + 1 + 1, 0, none⟩) 2 2, .int .i64 1, .int .i64 4, .int .i64 8, .int .i64 1, .int .i64 1, .int .i64 1, .int .i64 3, .slice (some ⟨w.heap.size + 1 + 1 + 1, 0, none⟩) 1 1, .int .i64 0, .int .i64 2, .int .i64 6, .int .i64 1, .int .i64 1, .int .i64 1, .int .i64 3] 82)
      simpa using this
    · have := blk_new ((((w.alloc o).alloc (.cells #[.int .i64 0, .int .i64 1] 3)).alloc (.cells #[.int .i64 0, .int .i64 1] 3)).alloc (.cells #[.int .i64 2] 3)) [.slice (some ⟨w.heap.size + 1 + 1, 0, none⟩) 2 2, .int .i64 1, .int .i64 4, .int .i64 8, .int .i64 1, .int .i64 1, .int .i64 1, .int .i64 3, .slice (some ⟨w.heap.size + 1 + 1 + 1, 0, none⟩) 1 1, .int .i64 0, .int .i64 2, .int .i64 6, .int .i64 1, .int .i64 1, .int .i64 1, .int .i64 3] 82
      simpa using this
  · subst hw
    have h1 := below_new w o
    have h2 := h1.alloc h1.size (.cells #[.int .i64 0, .int .i64 1] 3)
    have h3 := h2.alloc h2.size (.cells #[.int .i64 0, .int .i64 1] 3)
    have h4 := h3.alloc h3.size (.cells #[.int .i64 2] 3)
    exact h4.alloc h4.size _
end Go.Proofs.YtokaohlgncmoaaaGreat
namespace Go.Proofs.YtokaohlgncmoaaaGreat
open Go.ChangeShapes Go.WideShapes Go.ChangeAt Go.RowKit
set_option linter.unusedVariables false

set_option maxRecDepth 100000 in
set_option maxHeartbeats 4000000 in
theorem usual_any (w : World) : Calls Tryz.prog 25 #[] w (Usd w) := by
  have FIN : Hid (∀ w' o, w' = ((((w.alloc o).alloc (.cells #[.int .i64 0, .int .i64 1] 3)).alloc (.cells #[.int .i64 0, .int .i64 1] 3)).alloc (.cells #[.int .i64 2] 3)).alloc (.cells #[.slice (some ⟨w.heap.size + 1 + 1, 0, none⟩) 2 2, .int .i64 1, .int .i64 4, .int .i64 8, .int .i64 1, .int .i64 1, .int .i64 1, .int .i64 3, .slice (some ⟨w.heap.size + 1 + 1 + 1, 0, none⟩) 1 1, .int .i64 0, .int .i64 2, .int .i64 6, .int .i64 1, .int .i64 1, .int .i64 1, .int .i64 3] 82) → Usd w (.returned (.agg #[.int .i64 64, .int .i64 4, .int .i64 2, .int .i64 4, .int .i64 2, .int .i64 4, .int .u64 1, .int .u64 4, .int .u64 10, .int .u64 5, .int .u64 1, .int .u64 20, .int .u64 4000, .int .u64 20, .int .u64 0, .slice (some ⟨w.heap.size + 1, 0, none⟩) 2 2, .slice (some ⟨w.heap.size + 1 + 1 + 1 + 1, 0, none⟩) 2 2])) w') := fun w' o h => usd_of h
  go_enter Tryz.func25, Tryz.ntmps25
  go_wp2
  refine bodyPost_ret (v := (.agg #[.int .i64 64, .int .i64 4, .int .i64 2, .int .i64 4, .int .i64 2, .int .i64 4, .int .u64 1, .int .u64 4, .int .u64 10, .int .u64 5, .int .u64 1, .int .u64 20, .int .u64 4000, .int .u64 20, .int .u64 0, .slice (some ⟨w.heap.size + 1, 0, none⟩) 2 2, .slice (some ⟨w.heap.size + 1 + 1 + 1 + 1, 0, none⟩) 2 2])) (by simp [results, Tryz.results25, go_sem]) rfl (FIN.out _ _ rfl)
end Go.Proofs.YtokaohlgncmoaaaGreat
namespace Go.Proofs.YtokaohlgncmoaaaGreat
open Go.ChangeShapes Go.WideShapes Go.ChangeAt Go.RowKit
set_option linter.unusedVariables false

theorem Tryz.infoI : (Tryz.prog.info? 3).map (fun i => (i.zero, i.size, i.bytes)) = some (some (.int .i64 0), 1, 8) := by kernel_rfl
def vals (l : Nat) (f : Nat → Int) : List Value := (List.range l).map fun i => .int .i64 (f i)
theorem vals_len (l : Nat) (f : Nat → Int) : (vals l f).length = l := by simp [vals]
theorem vals_get {l : Nat} {f : Nat → Int} {i : Nat} (hi : i < l) : (vals l f)[i]? = some (.int .i64 (f i)) := by simp [vals, hi]
theorem vals_one (l : Nat) (f : Nat → Int) : ∀ v ∈ vals l f, v.oneCell' = true := by
  intro v hv
  simp only [vals, List.mem_map] at hv
  obtain ⟨i, _, rfl⟩ := hv
  rfl
def Cpy (w : World) (l : Nat) (f : Nat → Int) (e : Ending) (w' : World) : Prop :=
  ∃ a c, e = .returned (.slice a l c) ∧ Arg w' a l f ∧ Below w.heap.size w w' ∧ (a = none → l = 0 ∧ c = 0) ∧ ∀ ad, a = some ad → ∃ g, ad = ⟨g, 0, none⟩ ∧ w.heap.size ≤ g ∧ g < w'.heap.size
theorem cpy_of {w w' : World} {l : Nat} {f : Nat → Int} {v : Value} (o : w'.ownsRow w.heap.size 3 1 v (0 + l) ([] ++ vals l f)) (g : w.grownBy w' (Value.slice none 0 0).ownBlock) : Cpy w l f (.returned v) w' := by
  rw [Nat.zero_add, List.nil_append] at o
  have hb : Below w.heap.size w w' := (Below.refl _ w).grown g (Nat.le_refl _) (fun k hk => by cases hk)
  obtain ⟨_, ⟨rfl, rfl⟩ | ⟨g', cap, cur, rfl, hb', hw, hc, hm, hs, ht⟩⟩ := o
  · exact ⟨none, 0, rfl, Or.inl rfl, hb, (fun _ => ⟨rfl, rfl⟩), (fun ad h => by cases h)⟩
  · have hlt : g' < w'.heap.size := (Array.getElem?_eq_some_iff.1 hw).1
    refine ⟨_, _, rfl, Or.inr ⟨g', 0, rfl, hlt, fun i hi => ?_⟩, hb, (fun h => by cases h), fun ad h => ⟨g', (by cases h; rfl), hb', hlt⟩⟩
    rw [cell_of_row w' g' (0 + i) _ 3 (0, 0) hw, Nat.zero_add, ← Array.getElem?_toList, ← vals_get hi, ← ht, Nat.mul_one, List.getElem?_take_of_lt hi]
theorem CopyInts_any {w : World} {a : Option Addr} {l c : Nat} {f : Nat → Int} (hl : l * 8 ≤ 140737488351232) (h : Arg w a l f) (hn : a = none → l = 0 ∧ c = 0) :
    Calls Tryz.prog 31 #[.slice a l c] w (Cpy w l f) := by
  obtain ⟨i0, hi0, hz0, hz1, hz2⟩ := info_parts Tryz.infoI
  have o1 : w.ownsRow w.heap.size 3 1 (.slice none 0 0) 0 [] := World.ownsRow_nil _ _ _ _
  have HQ : Hid (∀ v w', w'.ownsRow w.heap.size 3 1 v (0 + l) ([] ++ vals l f) → w.grownBy w' (Value.slice none 0 0).ownBlock → Cpy w l f (.returned v) w') := fun v w' => cpy_of
  cases a with
  | none =>
    obtain ⟨rfl, rfl⟩ := hn rfl
    go_enter Tryz.func31, Tryz.ntmps31
    go_wp2_with (at_builtin; refine wpList_append_own_none rfl (.tmp 4) (.tmp 5) 25 rfl w.heap.size 3 i0 1 Tryz.underlying25 hi0 (.slice none 0 0) 0 [] rfl o1 rfl ?_)
    go_ret
    exact HQ.out _ _ o1 (World.grownBy.refl _ _)
  | some ad =>
    have HC : Hid (∀ j u, (vals l f)[j]? = some u → w.cell? (ad.add j) = some u) := by
      intro j u hu
      have hj : j < l := by have := (List.getElem?_eq_some_iff.1 hu).1; rwa [vals_len] at this
      obtain ⟨b, off, e, hc⟩ := h.at' (Below.refl _ _) hj
      cases e
      rw [vals_get hj] at hu
      rw [Go.WideShapes.add_plain, hc]
      exact hu
    have HL : Hid ((vals l f).length = l * 1) := by unfold Hid; rw [vals_len]; omega
    have HV : Hid (∀ u ∈ vals l f, u.oneCell' = true) := vals_one l f
    clear h hn
    generalize vals l f = xs at *
    go_enter Tryz.func31, Tryz.ntmps31
    go_wp2_with (at_builtin; refine wpList_append_own _ rfl (.tmp 4) (.tmp 5) 25 rfl w.heap.size 3 i0 _ 1 8 Tryz.underlying25 hi0 hz0 hz1 hz2 rfl (by decide) (.slice none 0 0) 0 [] rfl o1 ad l c xs rfl HL.out HC.out HV.out (by unfold maxLen; omega) (by omega) (Nat.le_refl _) ?_; intro v1 w1 o1' gr1 nil1)
    go_ret
    exact HQ.out _ _ o1' gr1
end Go.Proofs.YtokaohlgncmoaaaGreat
namespace Go.Proofs.YtokaohlgncmoaaaGreat
open Go.ChangeShapes Go.WideShapes Go.ChangeAt Go.RowKit
set_option linter.unusedVariables false

theorem Tryz.infoK : (Tryz.prog.info? 28).map (·.size) = some 17 := by kernel_rfl
def zC : Array Value := #[.int .i64 0, .int .i64 0, .int .i64 0, .int .i64 0, .int .i64 0, .int .i64 0, .int .u64 0, .int .u64 0, .int .u64 0, .int .u64 0, .int .u64 0, .int .u64 0, .int .u64 0, .int .u64 0, .int .u64 0, .slice none 0 0, .slice none 0 0]
theorem stK (w : World) (a : Ad) (c : Cf) : (Instr.storeAt 28 (.pointer (some ⟨w.heap.size, 0, none⟩)) (.agg #[.int .i64 c.F, .int .i64 c.C, .int .i64 c.W, .int .i64 c.S, .int .i64 c.V, .int .i64 c.T, .int .u64 c.k.l1, .int .u64 c.k.llc, .int .u64 c.k.mi, .int .u64 c.k.fa, .int .u64 c.k.st, .int .u64 c.k.di, .int .u64 c.sl, .int .u64 c.pd, .int .u64 c.ft, .slice a.ta c.tn a.tc, .slice a.pa c.pn a.pc])).run Tryz.prog (w.alloc (.cells #[.int .i64 0, .int .i64 0, .int .i64 0, .int .i64 0, .int .i64 0, .int .i64 0, .int .u64 0, .int .u64 0, .int .u64 0, .int .u64 0, .int .u64 0, .int .u64 0, .int .u64 0, .int .u64 0, .int .u64 0, .slice none 0 0, .slice none 0 0] 28)) = .ok () (w.alloc (.cells #[.int .i64 c.F, .int .i64 c.C, .int .i64 c.W, .int .i64 c.S, .int .i64 c.V, .int .i64 c.T, .int .u64 c.k.l1, .int .u64 c.k.llc, .int .u64 c.k.mi, .int .u64 c.k.fa, .int .u64 c.k.st, .int .u64 c.k.di, .int .u64 c.sl, .int .u64 c.pd, .int .u64 c.ft, .slice a.ta c.tn a.tc, .slice a.pa c.pn a.pc] 28)) :=
  run_storeAt_new w 28 zC _ Tryz.infoK rfl (by rw [← Array.all_toList]; rfl)
theorem stR {w : World} {g : Nat} {L M : List Value} (h : Blk w g 28 L) (hl : L.length = 17) (hm : M.length = 17) (h1 : M.all (·.oneCell') = true) :
    (Instr.storeAt 28 (.pointer (some ⟨g, 0, none⟩)) (.agg M.toArray)).run Tryz.prog w = .ok () (w.setRow g M.toArray) := by
  simp only [Instr.storeAt, Instr.sureAddr, Sem.run_bind, Sem.run_pure, Result.andThen]
  exact run_storeVar_row w g 28 28 L.toArray M.toArray h (by rw [Tryz.infoK, List.size_toArray, hm]) (by simp [hl, hm]) (by rw [← h1]; simp)
def kL (a : Ad) (c : Cf) (v : Value) : List Value := [.int .i64 c.F, .int .i64 c.C, .int .i64 c.W, .int .i64 c.S, .int .i64 c.V, .int .i64 c.T, .int .u64 c.k.l1, .int .u64 c.k.llc, .int .u64 c.k.mi, .int .u64 c.k.fa, .int .u64 c.k.st, .int .u64 c.k.di, .int .u64 c.sl, .int .u64 c.pd, .int .u64 c.ft, .slice a.ta c.tn a.tc, v]
theorem Blk.sev {w : World} {g : Nat} {a : Ad} {c : Cf} (h : Blk w g 28 (kL a c (.slice a.pa c.pn a.pc))) : Sev w g a c :=
  ⟨h.lt, h.cell 0, h.cell 1, h.cell 2, h.cell 3, h.cell 4, h.cell 5, h.cell 6, h.cell 7, h.cell 8, h.cell 9, h.cell 10, h.cell 11, h.cell 12, h.cell 13, h.cell 14, h.cell 15, h.cell 16⟩
end Go.Proofs.YtokaohlgncmoaaaGreat
namespace Go.Proofs.YtokaohlgncmoaaaGreat
open Go.ChangeShapes Go.WideShapes Go.ChangeAt Go.RowKit
set_option linter.unusedVariables false

theorem Tryz.infoP : (Tryz.prog.info? 82).map (fun i => (i.zero, i.size, i.bytes)) = some (some (.agg #[.slice none 0 0, .int .i64 0, .int .i64 0, .int .i64 0, .int .i64 0, .int .i64 0, .int .i64 0, .int .i64 0]), 8, 80) := by kernel_rfl
def pC (q : Option Addr) (m : Nat) (x : Pa) : List Value := [.slice q x.n m, .int .i64 x.o, .int .i64 x.u, .int .i64 x.t, .int .i64 x.s, .int .i64 x.r, .int .i64 x.d, .int .i64 x.z]
def enP (ca : Nat → Option Addr) (cc : Nat → Nat) (pf : Nat → Pa) : Nat → List Value
  | 0 => []
  | k + 1 => enP ca cc pf k ++ pC (ca k) (cc k) (pf k)
theorem enP_len (ca : Nat → Option Addr) (cc : Nat → Nat) (pf : Nat → Pa) (k : Nat) : (enP ca cc pf k).length = k * 8 := by
  induction k with
  | zero => rfl
  | succ k ih => simp only [enP, List.length_append, ih, pC, List.length_cons, List.length_nil]; omega
theorem enP_get (ca : Nat → Option Addr) (cc : Nat → Nat) (pf : Nat → Pa) (k i j : Nat) (hi : i < k) (hj : j < 8) : (enP ca cc pf k)[i * 8 + j]? = (pC (ca i) (cc i) (pf i))[j]? := by
  induction k with
  | zero => omega
  | succ k ih =>
    simp only [enP]
    by_cases e : i = k
    · subst e
      rw [List.getElem?_append_right (by rw [enP_len]; omega), enP_len]
      congr 1
      omega
    · rw [List.getElem?_append_left (by rw [enP_len]; omega)]
      exact ih (by omega)
theorem enP_congr {ca ca' : Nat → Option Addr} {cc cc' : Nat → Nat} {pf : Nat → Pa} {k : Nat} (h : ∀ i, i < k → ca i = ca' i ∧ cc i = cc' i) : enP ca cc pf k = enP ca' cc' pf k := by
  induction k with
  | zero => rfl
  | succ k ih =>
    simp only [enP]
    rw [ih (fun i hi => h i (by omega)), (h k (by omega)).1, (h k (by omega)).2]
structure Tn (w : World) (B : Nat) (ao : Option Addr) (l cap : Nat) (f : Nat → Int) (v : Value) : Prop where
  ag : Arg w ao l f
  nz : ao = none → l = 0 ∧ cap = 0
  at' : ∀ ad, ao = some ad → ∃ g, ad = ⟨g, 0, none⟩ ∧ B ≤ g ∧ g < w.heap.size ∧ v.ownBlock ≠ some g
theorem Tn.keep {w w' : World} {B : Nat} {ao : Option Addr} {l cap : Nat} {f : Nat → Int} {v v' : Value} (h : Tn w B ao l cap f v) (hs : w.heap.size ≤ w'.heap.size) (hb : ∀ i, B ≤ i → i < w.heap.size → v.ownBlock ≠ some i → w'.heap[i]? = w.heap[i]?)
    (hv : ∀ t, v'.ownBlock = some t → v.ownBlock = some t ∨ w.heap.size ≤ t) : Tn w' B ao l cap f v' := by
  refine ⟨?_, h.nz, fun ad e => ?_⟩
  · rcases h.ag with h0 | ⟨b, off, e, hl, hr⟩
    · exact Or.inl h0
    · obtain ⟨g, e2, h1, h2, h3⟩ := h.at' _ e
      cases e2
      exact Or.inr ⟨_, _, e, Nat.lt_of_lt_of_le hl hs, fun i hi => (World.cell?_of_block (hb _ h1 h2 h3)).trans (hr i hi)⟩
  · obtain ⟨g, e2, h1, h2, h3⟩ := h.at' _ e
    refine ⟨g, e2, h1, Nat.lt_of_lt_of_le h2 hs, fun e3 => ?_⟩
    rcases hv g e3 with q | q
    · exact h3 q
    · omega
structure Cy (w0 w : World) (a : Ad) (c : Cf) (a' : Ad) (v : Value) (k : Nat) : Prop where
  be : Below w0.heap.size w0 w
  bx : Sev w w0.heap.size a c
  ci0 : Cin w0 a c
  rb : ∃ L, L.length = 17 ∧ Blk w (w0.heap.size + 1) 28 L
  ob : Blk w (w0.heap.size + 2) 28 (kL a' c v)
  ow : w.ownsRow (w0.heap.size + 3) 82 8 v k (enP a'.ca a'.cc c.pf k)
  tu : Tn w (w0.heap.size + 3) a'.ta c.tn a'.tc c.tf v
  co : ∀ i, i < k → Tn w (w0.heap.size + 3) (a'.ca i) (c.pf i).n (a'.cc i) (c.pf i).f v
theorem Cy.ci {w0 w : World} {a : Ad} {c : Cf} {a' : Ad} {v : Value} {k : Nat} (h : Cy w0 w a c a' v k) : Cin w a c := h.ci0.below h.be
theorem Cy.keep {w0 w w' : World} {a : Ad} {c : Cf} {a' : Ad} {v : Value} {k : Nat} (h : Cy w0 w a c a' v k) (q : Below w.heap.size w w') : Cy w0 w' a c a' v k :=
  ⟨h.be.trans (q.mono h.be.size), h.bx.below q, h.ci0, (by obtain ⟨L, h1, h2⟩ := h.rb; exact ⟨L, h1, h2.below q⟩), h.ob.below q, owns_of_eq h.ow fun t ht => q.block t (h.ow.lt t ht).2,
    h.tu.keep q.size (fun i _ hi _ => q.block i hi) (fun t ht => Or.inl ht), fun i hi => (h.co i hi).keep q.size (fun i _ hi _ => q.block i hi) (fun t ht => Or.inl ht)⟩
structure Cpd (w : World) (c : Cf) (w' : World) (a' : Ad) : Prop where
  be : Below w.heap.size w w'
  ci : Cin w' a' c
  ow : w'.ownsRow w.heap.size 82 8 (.slice a'.pa c.pn a'.pc) c.pn (enP a'.ca a'.cc c.pf c.pn)
  co : ∀ i, i < c.pn → ∀ ad, a'.ca i = some ad → w.heap.size ≤ ad.block ∧ (Value.slice a'.pa c.pn a'.pc).ownBlock ≠ some ad.block
  tu : ∀ ad, a'.ta = some ad → w.heap.size ≤ ad.block ∧ (Value.slice a'.pa c.pn a'.pc).ownBlock ≠ some ad.block
theorem Cy.prs {w0 w : World} {a : Ad} {c : Cf} {a' : Ad} {pa : Option Addr} {pc k : Nat} (h : Cy w0 w a c a' (.slice pa k pc) k) : Prs w pa k a'.ca a'.cc c.pf ∧ (pa = none → k = 0 ∧ pc = 0) ∧ k ≤ pc := by
  rcases h.ow with ⟨h0, ⟨e, h1⟩ | ⟨g, cap, cur, e, h2, h3, h4, h5, h6, h7⟩⟩
  · cases e
    exact ⟨Or.inl h1, fun _ => ⟨h1, rfl⟩, by omega⟩
  · cases e
    refine ⟨Or.inr ⟨g, 0, rfl, (Array.getElem?_eq_some_iff.1 h3).1, fun i hi => ⟨?_, (h.co i hi).ag⟩⟩, (fun e => by cases e), by omega⟩
    have hcell : ∀ j, j < 8 → w.cell? ⟨g, 0 + i * 8 + j, none⟩ = (pC (a'.ca i) (a'.cc i) (c.pf i))[j]? := fun j hj => by
      rw [cell_of_row w g _ _ 82 (0, 0) h3, ← Array.getElem?_toList, Nat.zero_add, ← List.getElem?_take_of_lt (show i * 8 + j < k * 8 by omega), h7]
      exact enP_get _ _ _ k i j hi hj
    exact ⟨(Array.getElem?_eq_some_iff.1 h3).1, hcell 0 (by omega), hcell 1 (by omega), hcell 2 (by omega), hcell 3 (by omega), hcell 4 (by omega), hcell 5 (by omega), hcell 6 (by omega), hcell 7 (by omega)⟩
theorem Tn.set {w : World} {B : Nat} {ao : Option Addr} {l cap : Nat} {f : Nat → Int} {v v' : Value} (h : Tn w B ao l cap f v) (g i : Nat) (u : Value) (hg : g < B) (hv : ∀ t, v'.ownBlock = some t → v.ownBlock = some t) : Tn (w.setCell ⟨g, i, none⟩ u) B ao l cap f v' :=
  h.keep (grown_setCell' w g i u).size (fun k hk _ _ => heap_set_ne (by omega) i u) (fun t ht => Or.inl (hv t ht))
theorem Cy.turns {w0 w : World} {a : Ad} {c : Cf} {v : Value} {a1 : Ad} {ta : Option Addr} {tc : Nat} (be : Below w0.heap.size w0 w) (bx : Sev w w0.heap.size a c) (ci0 : Cin w0 a c) (rb : Blk w (w0.heap.size + 1) 28 zC.toList)
    (ob : Blk w (w0.heap.size + 2) 28 (kL a1 c v)) (tu : Tn w (w0.heap.size + 3) ta c.tn tc c.tf (.slice none 0 0)) :
    Cy w0 ((w.setCell ⟨w0.heap.size + 2, 15, none⟩ (.slice ta c.tn tc)).setCell ⟨w0.heap.size + 2, 16, none⟩ (.slice none 0 0)) a c ⟨ta, tc, none, 0, fun _ => none, fun _ => 0⟩ (.slice none 0 0) 0 := by
  have hs := bx.lt
  have e1 : ∀ b, b ≠ w0.heap.size + 2 → ((w.setCell ⟨w0.heap.size + 2, 15, none⟩ (.slice ta c.tn tc)).setCell ⟨w0.heap.size + 2, 16, none⟩ (.slice none 0 0)).heap[b]? = w.heap[b]? := fun b hb => (heap_set_ne hb _ _).trans (heap_set_ne hb _ _)
  have hz : w.heap.size ≤ ((w.setCell ⟨w0.heap.size + 2, 15, none⟩ (.slice ta c.tn tc)).setCell ⟨w0.heap.size + 2, 16, none⟩ (.slice none 0 0)).heap.size := Nat.le_trans (grown_setCell' w _ _ _).size (grown_setCell' _ _ _ _).size
  refine ⟨be.trans ((below_setCell (by omega) be.size _ _).trans (below_setCell (by omega) (Nat.le_trans be.size (grown_setCell' w _ _ _).size) _ _)), bx.of_eq (e1 _ (by omega)) (by omega), ci0, ⟨_, rfl, rb.of_eq (e1 _ (by omega))⟩, ?_, World.ownsRow_nil _ _ _ _, ?_, fun i hi => by omega⟩
  · exact (ob.set 15 (.slice ta c.tn tc)).set 16 (.slice none 0 0)
  · exact tu.keep hz (fun i hi _ _ => e1 i (by omega)) (fun t ht => by cases ht)
theorem row_ne {w : World} {g b : Nat} {M : Array Value} (h : b ≠ g) : (w.setRow g M).heap[b]? = w.heap[b]? := by
  simp only [World.setRow, Array.getElem?_modify, if_neg (show ¬ g = b from fun e => h e.symm)]
theorem Cy.row {w0 w : World} {a : Ad} {c : Cf} {a' : Ad} {v : Value} {k : Nat} (h : Cy w0 w a c a' v k) (M : List Value) (hM : M.length = 17) : Cy w0 (w.setRow (w0.heap.size + 1) M.toArray) a c a' v k := by
  have hz : (w.setRow (w0.heap.size + 1) M.toArray).heap.size = w.heap.size := setRow_size _ _ _
  have kp : ∀ {ao : Option Addr} {l cp : Nat} {f : Nat → Int}, Tn w (w0.heap.size + 3) ao l cp f v → Tn (w.setRow (w0.heap.size + 1) M.toArray) (w0.heap.size + 3) ao l cp f v := fun T => T.keep (by omega) (fun i h1 h2 h3 => row_ne (by omega)) (fun t ht => Or.inl ht)
  refine ⟨below_row h.be (by omega), h.bx.of_eq (row_ne (by omega)) (by rw [hz]; exact h.bx.lt), h.ci0, ⟨M, hM, ?_⟩, h.ob.of_eq (row_ne (by omega)), owns_of_eq h.ow fun t ht => row_ne (by have := (h.ow.lt t ht).1; omega), kp h.tu, fun i hi => kp (h.co i hi)⟩
  obtain ⟨L, _, h2⟩ := h.rb
  exact h2.row
theorem Cy.fin {w0 w : World} {a : Ad} {c : Cf} {a' : Ad} {va : Option Addr} {vc : Nat} (h : Cy w0 w a c a' (.slice va c.pn vc) c.pn) : Cpd w0 c w ⟨a'.ta, a'.tc, va, vc, a'.ca, a'.cc⟩ := by
  obtain ⟨p1, p2, p3⟩ := h.prs
  refine ⟨h.be, ⟨h.tu.ag, p1, h.ci0.tl, h.ci0.pl, h.ci0.cl, h.tu.nz, p2, fun i hi => (h.co i hi).nz, p3, h.ci0.C0, h.ci0.C1, h.ci0.S0, h.ci0.S1⟩, ?_, fun i hi ad e => ?_, fun ad e => ?_⟩
  · rcases h.ow with ⟨h0, h | ⟨g, cap, cur, h1, h2, h3⟩⟩
    · exact ⟨h0, Or.inl h⟩
    · exact ⟨h0, Or.inr ⟨g, cap, cur, h1, by omega, h3⟩⟩
  · obtain ⟨g, rfl, h1, _, h3⟩ := (h.co i hi).at' ad e
    exact ⟨Nat.le_trans (by omega) h1, h3⟩
  · obtain ⟨g, rfl, h1, _, h3⟩ := h.tu.at' ad e
    exact ⟨Nat.le_trans (by omega) h1, h3⟩
def upA (a : Ad) (k : Nat) (q : Option Addr) (m : Nat) : Ad := ⟨a.ta, a.tc, a.pa, a.pc, fun i => if i = k then q else a.ca i, fun i => if i = k then m else a.cc i⟩
theorem enP_up (a : Ad) (k : Nat) (q : Option Addr) (m : Nat) (pf : Nat → Pa) : enP (upA a k q m).ca (upA a k q m).cc pf (k + 1) = enP a.ca a.cc pf k ++ pC q m (pf k) := by
  simp only [enP]
  rw [enP_congr (ca := (upA a k q m).ca) (ca' := a.ca) (cc := (upA a k q m).cc) (cc' := a.cc) (fun i hi => by simp only [upA]; rw [if_neg (by omega), if_neg (by omega)]; exact ⟨rfl, rfl⟩)]
  simp [upA]
theorem Cy.step {w0 w w' : World} {a : Ad} {c : Cf} {a' : Ad} {v : Value} {k g cap m : Nat} {q : Option Addr} {o : Obj} (h : Cy w0 w a c a' v k) (hT : Tn w (w0.heap.size + 3) q (c.pf k).n m (c.pf k).f v)
    (gr : (w.alloc o).grownBy w' v.ownBlock) (ho : w'.ownsRow (w0.heap.size + 3) 82 8 (.slice (some ⟨g, 0, none⟩) (k + 1) cap) (k + 1) (enP a'.ca a'.cc c.pf k ++ pC q m (c.pf k))) (hg : v.ownBlock = some g ∨ g = w.heap.size + 1) :
    Cy w0 (w'.setCell ⟨w0.heap.size + 2, 16, none⟩ (.slice (some ⟨g, 0, none⟩) (k + 1) cap)) a c (upA a' k q m) (.slice (some ⟨g, 0, none⟩) (k + 1) cap) (k + 1) := by
  have hz : (w.alloc o).heap.size = w.heap.size + 1 := by simp
  have hs := gr.size
  have hb : ∀ i, i < w.heap.size → some i ≠ v.ownBlock → w'.heap[i]? = w.heap[i]? := fun i hi hne => (gr.block i (by omega) hne).trans ((below_new w o).block i hi)
  have hlo : ∀ i, i < w0.heap.size + 3 → some i ≠ v.ownBlock := fun i hi e => by have := (h.ow.lt i e.symm).1; omega
  have hz2 : w'.heap.size ≤ (w'.setCell ⟨w0.heap.size + 2, 16, none⟩ (.slice (some ⟨g, 0, none⟩) (k + 1) cap)).heap.size := (grown_setCell' w' _ _ _).size
  have e1 : ∀ i, i ≠ w0.heap.size + 2 → i < w.heap.size → some i ≠ v.ownBlock → (w'.setCell ⟨w0.heap.size + 2, 16, none⟩ (.slice (some ⟨g, 0, none⟩) (k + 1) cap)).heap[i]? = w.heap[i]? := fun i h1 h2 h3 => (heap_set_ne h1 _ _).trans (hb i h2 h3)
  have hg3 : w0.heap.size + 3 ≤ g := (ho.lt g rfl).1
  have hv : ∀ t, (Value.slice (some ⟨g, 0, none⟩) (k + 1) cap).ownBlock = some t → v.ownBlock = some t ∨ w.heap.size ≤ t := fun t ht => by
    obtain rfl : g = t := by simpa [Value.ownBlock] using ht
    rcases hg with q | q
    · exact Or.inl q
    · exact Or.inr (by omega)
  have kp : ∀ {ao : Option Addr} {l cp : Nat} {f : Nat → Int}, Tn w (w0.heap.size + 3) ao l cp f v → Tn (w'.setCell ⟨w0.heap.size + 2, 16, none⟩ (.slice (some ⟨g, 0, none⟩) (k + 1) cap)) (w0.heap.size + 3) ao l cp f (.slice (some ⟨g, 0, none⟩) (k + 1) cap) := fun T => T.keep (by omega) (fun i h1 h2 h3 => e1 i (by omega) h2 (fun e => h3 e.symm)) hv
  refine ⟨h.be.trans ⟨gr.os, gr.tape, gr.output, by omega, fun i hi => ?_⟩, h.bx.of_eq (e1 _ (by omega) h.bx.lt (hlo _ (by omega))) (by have := h.bx.lt; omega), h.ci0, (by obtain ⟨L, h1, h2⟩ := h.rb; exact ⟨L, h1, h2.of_eq (e1 _ (by omega) h2.lt (hlo _ (by omega)))⟩), ?_, ?_, kp h.tu, fun i hi => ?_⟩
  · exact e1 i (by omega) (Nat.lt_of_lt_of_le hi h.be.size) (hlo i (by omega))
  · have hB : Blk w' (w0.heap.size + 2) 28 (kL a' c v) := h.ob.of_eq (hb _ h.ob.lt (hlo _ (by omega)))
    exact hB.set 16 (.slice (some ⟨g, 0, none⟩) (k + 1) cap)
  · rw [enP_up]
    refine owns_of_eq ho fun t ht => heap_set_ne ?_ _ _
    obtain rfl : g = t := by simpa [Value.ownBlock] using ht
    omega
  · by_cases e : i = k
    · subst e
      simp only [upA, if_true]
      exact kp hT
    · simp only [upA, if_neg e]
      exact kp (h.co i (by omega))
theorem news8 (w : World) (q : Option Addr) (m : Nat) (x : Pa) : ∀ j u, (pC q m x)[j]? = some u → (w.alloc (.cells #[.slice q x.n m, .int .i64 x.o, .int .i64 x.u, .int .i64 x.t, .int .i64 x.s, .int .i64 x.r, .int .i64 x.d, .int .i64 x.z] 82)).cell? ((⟨w.heap.size, 0, none⟩ : Addr).add j) = some u := by
  intro j u hu
  rw [Go.WideShapes.add_plain, cell_of_row _ _ (0 + j) _ 82 (0, 0) (heap_alloc_last w _), Nat.zero_add]
  simpa [pC] using hu
theorem pC_one (q : Option Addr) (m : Nat) (x : Pa) : ∀ u ∈ pC q m x, u.oneCell' = true := by
  intro u hu
  simp only [pC, List.mem_cons, List.not_mem_nil, or_false] at hu
  rcases hu with rfl | rfl | rfl | rfl | rfl | rfl | rfl | rfl <;> rfl
set_option maxRecDepth 100000 in
set_option maxHeartbeats 4000000 in
theorem Copy_any {w : World} {a : Ad} {c : Cf} (hc : Cin w a c) : Calls Tryz.prog 6 #[.agg #[.int .i64 c.F, .int .i64 c.C, .int .i64 c.W, .int .i64 c.S, .int .i64 c.V, .int .i64 c.T, .int .u64 c.k.l1, .int .u64 c.k.llc, .int .u64 c.k.mi, .int .u64 c.k.fa, .int .u64 c.k.st, .int .u64 c.k.di, .int .u64 c.sl, .int .u64 c.pd, .int .u64 c.ft, .slice a.ta c.tn a.tc, .slice a.pa c.pn a.pc]] w fun e w' => ∃ a', e = .returned (.agg #[.int .i64 c.F, .int .i64 c.C, .int .i64 c.W, .int .i64 c.S, .int .i64 c.V, .int .i64 c.T, .int .u64 c.k.l1, .int .u64 c.k.llc, .int .u64 c.k.mi, .int .u64 c.k.fa, .int .u64 c.k.st, .int .u64 c.k.di, .int .u64 c.sl, .int .u64 c.pd, .int .u64 c.ft, .slice a'.ta c.tn a'.tc, .slice a'.pa c.pn a'.pc]) ∧ Cpd w c w' a' := by
  have hpl := hc.pl
  have HC : Hid (∀ w' a2 l cap f, l * 8 ≤ 140737488351232 → Arg w' a2 l f → (a2 = none → l = 0 ∧ cap = 0) → Calls Tryz.prog 31 #[.slice a2 l cap] w' (Cpy w' l f)) := fun w' a2 l cap f h1 h2 h3 => CopyInts_any h1 h2 h3
  have HC0 : Hid (Cin w a c) := hc
  obtain ⟨i0, hi0, hz0, hz1, hz2⟩ := info_parts Tryz.infoP
  obtain ⟨W1, hW1, HW1, hsz⟩ : ∃ W1, ((w.alloc (.cells #[.int .i64 c.F, .int .i64 c.C, .int .i64 c.W, .int .i64 c.S, .int .i64 c.V, .int .i64 c.T, .int .u64 c.k.l1, .int .u64 c.k.llc, .int .u64 c.k.mi, .int .u64 c.k.fa, .int .u64 c.k.st, .int .u64 c.k.di, .int .u64 c.sl, .int .u64 c.pd, .int .u64 c.ft, .slice a.ta c.tn a.tc, .slice a.pa c.pn a.pc] 28)).alloc (.cells #[.int .i64 0, .int .i64 0, .int .i64 0, .int .i64 0, .int .i64 0, .int .i64 0, .int .u64 0, .int .u64 0, .int .u64 0, .int .u64 0, .int .u64 0, .int .u64 0, .int .u64 0, .int .u64 0, .int .u64 0, .slice none 0 0, .slice none 0 0] 28)) = W1 ∧ Hid (Below w.heap.size w W1 ∧ Sev W1 w.heap.size a c ∧ Blk W1 (w.heap.size + 1) 28 zC.toList) ∧ Hid (W1.heap.size = w.heap.size + 2) :=
    ⟨_, rfl, ⟨below_two _ _ _, (sev_new w a c).below (below_new _ _), by
      have := blk_new (w.alloc (.cells #[.int .i64 c.F, .int .i64 c.C, .int .i64 c.W, .int .i64 c.S, .int .i64 c.V, .int .i64 c.T, .int .u64 c.k.l1, .int .u64 c.k.llc, .int .u64 c.k.mi, .int .u64 c.k.fa, .int .u64 c.k.st, .int .u64 c.k.di, .int .u64 c.sl, .int .u64 c.pd, .int .u64 c.ft, .slice a.ta c.tn a.tc, .slice a.pa c.pn a.pc] 28)) zC.toList 28
      rw [show (w.alloc (.cells #[.int .i64 c.F, .int .i64 c.C, .int .i64 c.W, .int .i64 c.S, .int .i64 c.V, .int .i64 c.T, .int .u64 c.k.l1, .int .u64 c.k.llc, .int .u64 c.k.mi, .int .u64 c.k.fa, .int .u64 c.k.st, .int .u64 c.k.di, .int .u64 c.sl, .int .u64 c.pd, .int .u64 c.ft, .slice a.ta c.tn a.tc, .slice a.pa c.pn a.pc] 28)).heap.size = w.heap.size + 1 by simp] at this
      exact this⟩, by unfold Hid; simp⟩
  have hld := HW1.out.2.1.ld
  have st := stK W1 a c
  go_enter Tryz.func6, Tryz.ntmps6
  go_upto_region 1 with fail
  clear hW1 hc
  go_upto_region 2 with (first | refine wpList_load_at rfl 28 (.tmp 1) rfl _ _ rfl hld ?_ | refine wpList_store_at rfl 28 (.tmp 3) (.tmp 6) rfl _ _ rfl rfl st ?_)
  clear st hld
  have HOB : Hid (Blk (W1.alloc (.cells #[.int .i64 c.F, .int .i64 c.C, .int .i64 c.W, .int .i64 c.S, .int .i64 c.V, .int .i64 c.T, .int .u64 c.k.l1, .int .u64 c.k.llc, .int .u64 c.k.mi, .int .u64 c.k.fa, .int .u64 c.k.st, .int .u64 c.k.di, .int .u64 c.sl, .int .u64 c.pd, .int .u64 c.ft, .slice a.ta c.tn a.tc, .slice a.pa c.pn a.pc] 28)) (w.heap.size + 2) 28 (kL a c (.slice a.pa c.pn a.pc))) := by
    unfold Hid
    have := blk_new W1 (kL a c (.slice a.pa c.pn a.pc)) 28
    rw [hsz.out] at this
    exact this
  have HW2 : Hid (Below w.heap.size w (W1.alloc (.cells #[.int .i64 c.F, .int .i64 c.C, .int .i64 c.W, .int .i64 c.S, .int .i64 c.V, .int .i64 c.T, .int .u64 c.k.l1, .int .u64 c.k.llc, .int .u64 c.k.mi, .int .u64 c.k.fa, .int .u64 c.k.st, .int .u64 c.k.di, .int .u64 c.sl, .int .u64 c.pd, .int .u64 c.ft, .slice a.ta c.tn a.tc, .slice a.pa c.pn a.pc] 28)) ∧ Sev (W1.alloc (.cells #[.int .i64 c.F, .int .i64 c.C, .int .i64 c.W, .int .i64 c.S, .int .i64 c.V, .int .i64 c.T, .int .u64 c.k.l1, .int .u64 c.k.llc, .int .u64 c.k.mi, .int .u64 c.k.fa, .int .u64 c.k.st, .int .u64 c.k.di, .int .u64 c.sl, .int .u64 c.pd, .int .u64 c.ft, .slice a.ta c.tn a.tc, .slice a.pa c.pn a.pc] 28)) w.heap.size a c ∧ Blk (W1.alloc (.cells #[.int .i64 c.F, .int .i64 c.C, .int .i64 c.W, .int .i64 c.S, .int .i64 c.V, .int .i64 c.T, .int .u64 c.k.l1, .int .u64 c.k.llc, .int .u64 c.k.mi, .int .u64 c.k.fa, .int .u64 c.k.st, .int .u64 c.k.di, .int .u64 c.sl, .int .u64 c.pd, .int .u64 c.ft, .slice a.ta c.tn a.tc, .slice a.pa c.pn a.pc] 28)) (w.heap.size + 1) 28 zC.toList) :=
    ⟨HW1.out.1.alloc HW1.out.1.size _, HW1.out.2.1.below (below_new _ _), HW1.out.2.2.below (below_new _ _)⟩
  have hsz2 : Hid ((W1.alloc (.cells #[.int .i64 c.F, .int .i64 c.C, .int .i64 c.W, .int .i64 c.S, .int .i64 c.V, .int .i64 c.T, .int .u64 c.k.l1, .int .u64 c.k.llc, .int .u64 c.k.mi, .int .u64 c.k.fa, .int .u64 c.k.st, .int .u64 c.k.di, .int .u64 c.sl, .int .u64 c.pd, .int .u64 c.ft, .slice a.ta c.tn a.tc, .slice a.pa c.pn a.pc] 28)).heap.size = w.heap.size + 3) := by
    unfold Hid
    have := hsz.out
    simp
    omega
  rw [hsz.out]
  generalize W1.alloc (.cells #[.int .i64 c.F, .int .i64 c.C, .int .i64 c.W, .int .i64 c.S, .int .i64 c.V, .int .i64 c.T, .int .u64 c.k.l1, .int .u64 c.k.llc, .int .u64 c.k.mi, .int .u64 c.k.fa, .int .u64 c.k.st, .int .u64 c.k.di, .int .u64 c.sl, .int .u64 c.pd, .int .u64 c.ft, .slice a.ta c.tn a.tc, .slice a.pa c.pn a.pc] 28) = W2 at *
  clear HW1 hsz W1
  have c15 := HW2.out.2.1.c15
  go_wp2_with fail
  refine (HC.out W2 a.ta c.tn a.tc c.tf HC0.out.tl (HC0.out.t.below HW2.out.1) HC0.out.tz).mono ?_
  rintro _ w3 ⟨ta, tc, rfl, ag, k3, nz, at3⟩
  have HT : Hid (Tn w3 (w.heap.size + 3) ta c.tn tc c.tf (.slice none 0 0)) := ⟨ag, nz, fun ad e => by
    obtain ⟨g, h1, h2, h3⟩ := at3 ad e
    exact ⟨g, h1, by have := hsz2.out; omega, h3, fun e => by cases e⟩⟩
  have HW3 : Hid (Below w.heap.size w w3 ∧ Sev w3 w.heap.size a c ∧ Blk w3 (w.heap.size + 1) 28 zC.toList) := ⟨HW2.out.1.trans (k3.mono HW2.out.1.size), HW2.out.2.1.below k3, HW2.out.2.2.below k3⟩
  have HO3 : Hid (Blk w3 (w.heap.size + 2) 28 (kL a c (.slice a.pa c.pn a.pc))) := HOB.out.below k3
  clear ag nz at3 k3 HW2 HOB c15 hsz2
  have d15 : w3.cell? ⟨w.heap.size + 2, 15, none⟩ = some (.slice a.ta c.tn a.tc) := HO3.out.cell 15
  have d16 : w3.cell? ⟨w.heap.size + 2, 16, none⟩ = some (.slice a.pa c.pn a.pc) := HO3.out.cell 16
  have f15 := HO3.out.frozen 15
  have f16 := HO3.out.frozen 16
  go_wp2_with fail
  have HY : Hid (Cy w ((w3.setCell ⟨w.heap.size + 2, 15, none⟩ (.slice ta c.tn tc)).setCell ⟨w.heap.size + 2, 16, none⟩ (.slice none 0 0)) a c ⟨ta, tc, none, 0, fun _ => none, fun _ => 0⟩ (.slice none 0 0) 0) := Cy.turns HW3.out.1 HW3.out.2.1 HC0.out HW3.out.2.2 HO3.out HT.out
  clear d15 d16 f15 f16 HO3 HW3 HT
  generalize (w3.setCell ⟨w.heap.size + 2, 15, none⟩ (.slice ta c.tn tc)).setCell ⟨w.heap.size + 2, 16, none⟩ (.slice none 0 0) = w4 at *
  go_loopw [4] (fun i wr => ∃ (k : Nat) (a' : Ad) (v : Value), k ≤ c.pn ∧ i = .int .i64 k ∧ Cy w wr a c a' v k) (fun i _ => c.pn - (intOf i).toNat)
  case atStart => exact ⟨0, _, _, by omega, rfl, HY.out⟩
  case round =>
    clear HY
    obtain ⟨k, a', v, hk, rfl, hY⟩ := hrel
    have HY : Hid (Cy w wr a c a' v k) := hY
    clear hY
    by_cases hlt : k < c.pn
    · obtain ⟨b, off, hq, ⟨_, e0, e1, e2, e3, e4, e5, e6, e7⟩⟩ := HY.out.ci.p.at' hlt
      have c16 := HY.out.bx.c16
      rw [hq] at c16
      clear hq
      have hkn : (k : Int) < (c.pn : Int) := by omega
      have HCk : Hid (∀ w', Below w.heap.size w w' → Calls Tryz.prog 31 #[.slice (a.ca k) (c.pf k).n (a.cc k)] w' (Cpy w' (c.pf k).n (c.pf k).f)) := fun w' h => HC.out w' _ _ _ _ (HC0.out.cl k hlt) ((HC0.out.below h).p.col hlt) (HC0.out.cz k hlt)
      have HBk : Hid (∀ o, Below w.heap.size w (wr.alloc o)) := fun o => HY.out.be.alloc HY.out.be.size o
      have hvs : ∃ va vn vc, v = .slice va vn vc := by
        rcases HY.out.ow with ⟨_, ⟨e, _⟩ | ⟨g, cap, cur, e, _⟩⟩
        · exact ⟨_, _, _, e⟩
        · exact ⟨_, _, _, e⟩
      obtain ⟨va, vn, vc, rfl⟩ := hvs
      obtain ⟨x, hx⟩ : ∃ x, c.pf k = x := ⟨_, rfl⟩
      have HX : Hid (c.pf k = x) := hx
      rw [hx] at e0 e1 e2 e3 e4 e5 e6 e7 HCk
      clear hx
      generalize a.ca k = qi at *
      generalize a.cc k = mi at *
      go_wp2_with fail
      refine (HCk.out _ (HBk.out _)).mono ?_
      rintro _ w5 ⟨q5, m5, rfl, ag5, k5, nz5, at5⟩
      have hs5 := k5.size
      have hs0 : (wr.alloc (.cells #[.slice qi x.n mi, .int .i64 x.o, .int .i64 x.u, .int .i64 x.t, .int .i64 x.s, .int .i64 x.r, .int .i64 x.d, .int .i64 x.z] 82)).heap.size = wr.heap.size + 1 := by simp
      have hB5 : Blk w5 wr.heap.size 82 (pC qi mi x) := (blk_new wr (pC qi mi x) 82).below k5
      have g0 : w5.cell? ⟨wr.heap.size, 0, none⟩ = some (.slice qi x.n mi) := hB5.cell 0
      have g1 := hB5.frozen 0
      have HQ5 : Hid (Below wr.heap.size wr (w5.setCell ⟨wr.heap.size, 0, none⟩ (.slice q5 x.n m5))) := ((below_new wr (.cells #[.slice qi x.n mi, .int .i64 x.o, .int .i64 x.u, .int .i64 x.t, .int .i64 x.s, .int .i64 x.r, .int .i64 x.d, .int .i64 x.z] 82)).trans (k5.mono (by omega))).trans (below_setCell (Nat.le_refl _) (by omega) 0 _)
      have HB6 : Hid (Blk (w5.setCell ⟨wr.heap.size, 0, none⟩ (.slice q5 x.n m5)) wr.heap.size 82 (pC q5 m5 x)) := hB5.set 0 (.slice q5 x.n m5)
      have HT6 : Hid (Tn (w5.setCell ⟨wr.heap.size, 0, none⟩ (.slice q5 x.n m5)) (w.heap.size + 3) q5 x.n m5 x.f (.slice va vn vc)) := by
        have T5 : Tn w5 (wr.heap.size + 1) q5 x.n m5 x.f (.slice va vn vc) := ⟨ag5, nz5, fun ad e => by
          obtain ⟨g, h1, h2, h3⟩ := at5 ad e
          exact ⟨g, h1, by omega, h3, fun e2 => by have := (HY.out.ow.lt g e2).2; omega⟩⟩
        have T6 := T5.set wr.heap.size 0 (.slice q5 x.n m5) (by omega) (fun t ht => ht)
        exact ⟨T6.ag, T6.nz, fun ad e => by
          obtain ⟨g, h1, h2, h3, h4⟩ := T6.at' ad e
          exact ⟨g, h1, by have := HY.out.ob.lt; omega, h3, h4⟩⟩
      clear ag5 k5 nz5 at5 hs5 hs0 hB5 HCk HBk c16 e0 e1 e2 e3 e4 e5 e6 e7
      go_upto_region 9 with fail
      have HY6 : Hid (Cy w (w5.setCell ⟨wr.heap.size, 0, none⟩ (.slice q5 x.n m5)) a c a' (.slice va vn vc) k) := HY.out.keep HQ5.out
      clear HY HQ5 g0 g1
      generalize w5.setCell ⟨wr.heap.size, 0, none⟩ (.slice q5 x.n m5) = w6 at *
      generalize wr.heap.size = bb at *
      have d16 : w6.cell? ⟨w.heap.size + 2, 16, none⟩ = some (.slice va vn vc) := HY6.out.ob.cell 16
      obtain ⟨p0, p1, p2, p3, p4, p5, p6, p7⟩ : w6.cell? ⟨bb, 0, none⟩ = some (.slice q5 x.n m5) ∧ w6.cell? ⟨bb, 1, none⟩ = some (.int .i64 x.o) ∧ w6.cell? ⟨bb, 2, none⟩ = some (.int .i64 x.u) ∧ w6.cell? ⟨bb, 3, none⟩ = some (.int .i64 x.t) ∧ w6.cell? ⟨bb, 4, none⟩ = some (.int .i64 x.s) ∧ w6.cell? ⟨bb, 5, none⟩ = some (.int .i64 x.r) ∧ w6.cell? ⟨bb, 6, none⟩ = some (.int .i64 x.d) ∧ w6.cell? ⟨bb, 7, none⟩ = some (.int .i64 x.z) := ⟨HB6.out.cell 0, HB6.out.cell 1, HB6.out.cell 2, HB6.out.cell 3, HB6.out.cell 4, HB6.out.cell 5, HB6.out.cell 6, HB6.out.cell 7⟩
      have hbd := HC0.out.pl
      go_wp2_with (at_builtin; refine wpList_append_lies _ rfl (.tmp 29) (.tmp 31) 26 rfl (w.heap.size + 3) 82 i0 _ 8 80 Tryz.underlying26 hi0 hz0 hz1 hz2 rfl (by decide) _ k (enP a'.ca a'.cc c.pf k) rfl (HY6.out.ow.alloc _) ⟨w6.heap.size, 0, none⟩ 1 1 (pC q5 m5 x) rfl rfl (news8 _ _ _ _) (pC_one _ _ _) (by omega) (by unfold maxLen; omega) (by omega) (by have := HY6.out.ob.lt; simp; omega) (w6.heap.size + 1) (by simp) ?_; intro g7 k7 w7 o7 gr7 at7 lt7; have HB7 : Hid (Blk w7 (w.heap.size + 2) 28 (kL a' c (.slice va vn vc))) := ((HY6.out.ob.alloc _).of_eq (gr7.block _ (by have := HY6.out.ob.lt; simp; omega) (fun e => by have := (HY6.out.ow.lt _ e.symm).1; omega))); have d7 : w7.cell? ⟨w.heap.size + 2, 16, none⟩ = some (.slice va vn vc) := HB7.out.cell 16; have f7 := HB7.out.frozen 16; clear HB7)
      go_roundw
      case rel =>
        refine ⟨k + 1, upA a' k q5 m5, .slice (some ⟨g7, 0, none⟩) (k + 1) k7, by omega, by go_num, ?_⟩
        exact HY6.out.step (by rw [HX.out]; exact HT6.out) gr7 (by rw [HX.out]; exact o7) at7
      case measure => simp [intOf]; omega
    · obtain rfl : k = c.pn := by omega
      have c16 := HY.out.bx.c16
      have hvs : ∃ va vc, v = .slice va c.pn vc := by
        rcases HY.out.ow with ⟨_, ⟨e, h0⟩ | ⟨g, cap, cur, e, _⟩⟩
        · exact ⟨none, 0, by rw [e, h0]⟩
        · exact ⟨_, _, e⟩
      obtain ⟨va, vc, rfl⟩ := hvs
      obtain ⟨a2, ha2⟩ : ∃ a2 : Ad, a2 = ⟨a'.ta, a'.tc, va, vc, a'.ca, a'.cc⟩ := ⟨_, rfl⟩
      have HOB : Hid (Blk wr (w.heap.size + 2) 28 (kL a2 c (.slice a2.pa c.pn a2.pc))) := by subst ha2; exact HY.out.ob
      obtain ⟨L, hL, hB⟩ := HY.out.rb
      have hld := HOB.out.sev.ld
      have st : (Instr.storeAt 28 (.pointer (some ⟨w.heap.size + 1, 0, none⟩)) (.agg #[.int .i64 c.F, .int .i64 c.C, .int .i64 c.W, .int .i64 c.S, .int .i64 c.V, .int .i64 c.T, .int .u64 c.k.l1, .int .u64 c.k.llc, .int .u64 c.k.mi, .int .u64 c.k.fa, .int .u64 c.k.st, .int .u64 c.k.di, .int .u64 c.sl, .int .u64 c.pd, .int .u64 c.ft, .slice a2.ta c.tn a2.tc, .slice a2.pa c.pn a2.pc])).run Tryz.prog wr = .ok () (wr.setRow (w.heap.size + 1) (kL a2 c (.slice a2.pa c.pn a2.pc)).toArray) := stR hB hL rfl rfl
      have HF : Hid (Cpd w c (wr.setRow (w.heap.size + 1) (kL a2 c (.slice a2.pa c.pn a2.pc)).toArray) a2) := by
        have := (HY.out.row (kL a2 c (.slice a2.pa c.pn a2.pc)) rfl).fin
        rw [← ha2] at this
        exact this
      have HR : Hid ((wr.setRow (w.heap.size + 1) (kL a2 c (.slice a2.pa c.pn a2.pc)).toArray).heap[w.heap.size + 1]? = some (.cells #[.int .i64 c.F, .int .i64 c.C, .int .i64 c.W, .int .i64 c.S, .int .i64 c.V, .int .i64 c.T, .int .u64 c.k.l1, .int .u64 c.k.llc, .int .u64 c.k.mi, .int .u64 c.k.fa, .int .u64 c.k.st, .int .u64 c.k.di, .int .u64 c.sl, .int .u64 c.pd, .int .u64 c.ft, .slice a2.ta c.tn a2.tc, .slice a2.pa c.pn a2.pc] 28 (0, 0))) := hB.row
      clear HY hL hB ha2 HOB
      generalize wr.setRow (w.heap.size + 1) (kL a2 c (.slice a2.pa c.pn a2.pc)).toArray = w9 at *
      go_wp2_with (first | refine wpList_load_at rfl 28 (.tmp 3) rfl _ _ rfl hld ?_ | refine wpList_store_at rfl 28 (.tmp 2) (.tmp 34) rfl _ _ rfl rfl st ?_)
      refine bodyPost_ret (v := .agg #[.int .i64 c.F, .int .i64 c.C, .int .i64 c.W, .int .i64 c.S, .int .i64 c.V, .int .i64 c.T, .int .u64 c.k.l1, .int .u64 c.k.llc, .int .u64 c.k.mi, .int .u64 c.k.fa, .int .u64 c.k.st, .int .u64 c.k.di, .int .u64 c.sl, .int .u64 c.pd, .int .u64 c.ft, .slice a2.ta c.tn a2.tc, .slice a2.pa c.pn a2.pc]) (results_cell_row Tryz.results6 _ w9 (w.heap.size + 1) 28 _ (0, 0) _ rfl HR.out Tryz.underlying28 rfl Tryz.infoK) rfl ⟨a2, rfl, HF.out⟩
end Go.Proofs.YtokaohlgncmoaaaGreat
