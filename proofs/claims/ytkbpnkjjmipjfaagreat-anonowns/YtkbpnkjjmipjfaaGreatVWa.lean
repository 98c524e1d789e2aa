/- What the statements' own configuration is, and awake; no condition. -/
import Derived.Test.YtkbpnkjjmipjfaaGreatVQb
import Derived.Laws.AppendOwnNone
namespace Go.Proofs.YtkbpnkjjmipjfaaGreat
open Go.ChangeShapes Go.WideShapes Go.ChangeAt Go.RowKit
set_option linter.unusedVariables false

def us : Cf := ⟨64, 4, 2, 4, 2, 4, ⟨1, 4, 10, 5, 1, 20⟩, 4000, 20, 0, 2, fun i => (i : Int), 2, fun i => if i = 0 then ⟨2, fun j => (j : Int), 1, 4, 8, 1, 1, 1, 3⟩ else ⟨1, fun _ => 2, 0, 2, 6, 1, 1, 1, 3⟩⟩
theorem us_may : may us = true := by decide +kernel
structure Ublk (w : World) (n1 n2 n3 n4 : Nat) : Prop where
  t : Blk w n1 3 [.int .i64 0, .int .i64 1]
  c0 : Blk w n2 3 [.int .i64 0, .int .i64 1]
  c1 : Blk w n3 3 [.int .i64 2]
  p : Blk w n4 109 [.slice (some ⟨n2, 0, none⟩) 2 2, .int .i64 1, .int .i64 4, .int .i64 8, .int .i64 1, .int .i64 1, .int .i64 1, .int .i64 3, .slice (some ⟨n3, 0, none⟩) 1 1, .int .i64 0, .int .i64 2, .int .i64 6, .int .i64 1, .int .i64 1, .int .i64 1, .int .i64 3]
def Ud (n1 n2 n3 n4 : Nat) : Ad := ⟨some ⟨n1, 0, none⟩, 2, some ⟨n4, 0, none⟩, 2, fun i => some ⟨if i = 0 then n2 else n3, 0, none⟩, fun i => if i = 0 then 2 else 1⟩
theorem two_lt {i : Nat} (h : i < 2) : i = 0 ∨ i = 1 := by omega
theorem Ublk.cin {w : World} {n1 n2 n3 n4 : Nat} (h : Ublk w n1 n2 n3 n4) : Cin w (Ud n1 n2 n3 n4) us := by
  have h1 : Arg w (some ⟨n1, 0, none⟩) 2 (fun i => (i : Int)) := Or.inr ⟨n1, 0, rfl, h.t.lt, fun i hi => by
    rw [h.t.cell]
    rcases two_lt hi with rfl | rfl <;> rfl⟩
  have h2 : Arg w (some ⟨n2, 0, none⟩) 2 (fun i => (i : Int)) := Or.inr ⟨n2, 0, rfl, h.c0.lt, fun i hi => by
    rw [h.c0.cell]
    rcases two_lt hi with rfl | rfl <;> rfl⟩
  have h3 : Arg w (some ⟨n3, 0, none⟩) 1 (fun _ => (2 : Int)) := Or.inr ⟨n3, 0, rfl, h.c1.lt, fun i hi => by
    rw [h.c1.cell]
    obtain rfl : i = 0 := by omega
    rfl⟩
  refine ⟨h1, Or.inr ⟨n4, 0, rfl, h.p.lt, fun i hi => ?_⟩, by decide, by decide, fun i hi => ?_, (fun e => by cases e), (fun e => by cases e), (fun i hi e => by cases e), Nat.le_refl 2, by decide, by decide, by decide, by decide⟩
  · have hi' : i < 2 := hi
    rcases two_lt hi' with rfl | rfl
    · exact ⟨⟨h.p.lt, h.p.cell _, h.p.cell _, h.p.cell _, h.p.cell _, h.p.cell _, h.p.cell _, h.p.cell _, h.p.cell _⟩, h2⟩
    · exact ⟨⟨h.p.lt, h.p.cell _, h.p.cell _, h.p.cell _, h.p.cell _, h.p.cell _, h.p.cell _, h.p.cell _, h.p.cell _⟩, h3⟩
  · have hi' : i < 2 := hi
    rcases two_lt hi' with rfl | rfl <;> decide
def Usd (w : World) (e : Ending) (w' : World) : Prop := ∃ n1 n2 n3 n4, ∃ (a : Ad) (c : Cf), e = .returned (.agg #[.int .i64 c.F, .int .i64 c.C, .int .i64 c.W, .int .i64 c.S, .int .i64 c.V, .int .i64 c.T, .int .u64 c.k.l1, .int .u64 c.k.llc, .int .u64 c.k.mi, .int .u64 c.k.fa, .int .u64 c.k.st, .int .u64 c.k.di, .int .u64 c.sl, .int .u64 c.pd, .int .u64 c.ft, .slice a.ta c.tn a.tc, .slice a.pa c.pn a.pc]) ∧ c = us ∧ a = Ud n1 n2 n3 n4 ∧ Ublk w' n1 n2 n3 n4 ∧ (w.heap.size < n1 ∧ n1 < n2 ∧ n2 < n3 ∧ n3 < n4) ∧ Below w.heap.size w w'
theorem usd_of {w w' : World} {o : Obj} (hw : w' = ((((w.alloc o).alloc (.cells #[.int .i64 0, .int .i64 1] 3)).alloc (.cells #[.int .i64 0, .int .i64 1] 3)).alloc (.cells #[.int .i64 2] 3)).alloc (.cells #[.slice (some ⟨w.heap.size + 1 + 1, 0, none⟩) 2 2, .int .i64 1, .int .i64 4, .int .i64 8, .int .i64 1, .int .i64 1, .int .i64 1, .int .i64 3, .slice (some ⟨w.heap.size + 1 + 1 + 1, 0, none⟩) 1 1, .int .i64 0, .int .i64 2, .int .i64 6, .int .i64 1, .int .i64 1, .int .i64 1, .int .i64 3] 109)) :
    Usd w (.returned (.agg #[.int .i64 64, .int .i64 4, .int .i64 2, .int .i64 4, .int .i64 2, .int .i64 4, .int .u64 1, .int .u64 4, .int .u64 10, .int .u64 5, .int .u64 1, .int .u64 20, .int .u64 4000, .int .u64 20, .int .u64 0, .slice (some ⟨w.heap.size + 1, 0, none⟩) 2 2, .slice (some ⟨w.heap.size + 1 + 1 + 1 + 1, 0, none⟩) 2 2])) w' := by
  refine ⟨w.heap.size + 1, w.heap.size + 1 + 1, w.heap.size + 1 + 1 + 1, w.heap.size + 1 + 1 + 1 + 1, Ud _ _ _ _, us, rfl, rfl, rfl, ?_, by omega, ?_⟩
  · subst hw
    refine ⟨?_, ?_, ?_, ?_⟩
    · have := (((blk_new (w.alloc o) [.int .i64 0, .int .i64 1] 3).alloc (.cells #[.int .i64 0, .int .i64 1] 3)).alloc (.cells #[.int .i64 2] 3)).alloc (.cells #[.slice (some ⟨w.heap.size + 1 + 1, 0, none⟩) 2 2, .int .i64 1, .int .i64 4, .int .i64 8, .int .i64 1, .int .i64 1, .int .i64 1, .int .i64 3, .slice (some ⟨w.heap.size + 1 + 1 + 1, 0, none⟩) 1 1, .int .i64 0, .int .i64 2, .int .i64 6, .int .i64 1, .int .i64 1, .int .i64 1, .int .i64 3] 109)
      simpa using this
    · have := ((blk_new ((w.alloc o).alloc (.cells #[.int .i64 0, .int .i64 1] 3)) [.int .i64 0, .int .i64 1] 3).alloc (.cells #[.int .i64 2] 3)).alloc (.cells #[.slice (some ⟨w.heap.size + 1 + 1, 0, none⟩) 2 2, .int .i64 1, .int .i64 4, .int .i64 8, .int .i64 1, .int .i64 1, .int .i64 1, .int .i64 3, .slice (some ⟨w.heap.size + 1 + 1 + 1, 0, none⟩) 1 1, .int .i64 0, .int .i64 2, .int .i64 6, .int .i64 1, .int .i64 1, .int .i64 1, .int .i64 3] 109)
      simpa using this
    · have := (blk_new (((w.alloc o).alloc (.cells #[.int .i64 0, .int .i64 1] 3)).alloc (.cells #[.int .i64 0, .int .i64 1] 3)) [.int .i64 2] 3).alloc (.cells #[.slice (some ⟨w.heap.size + 1 + 1, 0, none⟩) 2 2, .int .i64 1, .int .i64 4, .int .i64 8, .int .i64 1, .int .i64 1, .int .i64 1, .int .i64 3, .slice (some ⟨w.heap.size + 1 + 1 + 1, 0, none⟩) 1 1, .int .i64 0, .int .i64 2, .int .i64 6, .int .i64 1, .int .i64 1, .int .i64 1, .int .i64 3] 109)
      simpa using this
    · have := blk_new ((((w.alloc o).alloc (.cells #[.int .i64 0, .int .i64 1] 3)).alloc (.cells #[.int .i64 0, .int .i64 1] 3)).alloc (.cells #[.int .i64 2] 3)) [.slice (some ⟨w.heap.size + 1 + 1, 0, none⟩) 2 2, .int .i64 1, .int .i64 4, .int .i64 8, .int .i64 1, .int .i64 1, .int .i64 1, .int .i64 3, .slice (some ⟨w.heap.size + 1 + 1 + 1, 0, none⟩) 1 1, .int .i64 0, .int .i64 2, .int .i64 6, .int .i64 1, .int .i64 1, .int .i64 1, .int .i64 3] 109
      simpa using this
  · subst hw
    have h1 := below_new w o
    have h2 := h1.alloc h1.size (.cells #[.int .i64 0, .int .i64 1] 3)
    have h3 := h2.alloc h2.size (.cells #[.int .i64 0, .int .i64 1] 3)
    have h4 := h3.alloc h3.size (.cells #[.int .i64 2] 3)
    exact h4.alloc h4.size _
end Go.Proofs.YtkbpnkjjmipjfaaGreat
namespace Go.Proofs.YtkbpnkjjmipjfaaGreat
open Go.ChangeShapes Go.WideShapes Go.ChangeAt Go.RowKit
set_option linter.unusedVariables false

set_option maxRecDepth 100000 in
set_option maxHeartbeats 4000000 in
theorem usual_any (w : World) : Calls Tryz.prog 34 #[] w (Usd w) := by
  have FIN : Hid (∀ w' o, w' = ((((w.alloc o).alloc (.cells #[.int .i64 0, .int .i64 1] 3)).alloc (.cells #[.int .i64 0, .int .i64 1] 3)).alloc (.cells #[.int .i64 2] 3)).alloc (.cells #[.slice (some ⟨w.heap.size + 1 + 1, 0, none⟩) 2 2, .int .i64 1, .int .i64 4, .int .i64 8, .int .i64 1, .int .i64 1, .int .i64 1, .int .i64 3, .slice (some ⟨w.heap.size + 1 + 1 + 1, 0, none⟩) 1 1, .int .i64 0, .int .i64 2, .int .i64 6, .int .i64 1, .int .i64 1, .int .i64 1, .int .i64 3] 109) → Usd w (.returned (.agg #[.int .i64 64, .int .i64 4, .int .i64 2, .int .i64 4, .int .i64 2, .int .i64 4, .int .u64 1, .int .u64 4, .int .u64 10, .int .u64 5, .int .u64 1, .int .u64 20, .int .u64 4000, .int .u64 20, .int .u64 0, .slice (some ⟨w.heap.size + 1, 0, none⟩) 2 2, .slice (some ⟨w.heap.size + 1 + 1 + 1 + 1, 0, none⟩) 2 2])) w') := fun w' o h => usd_of h
  go_enter Tryz.func34, Tryz.ntmps34
  go_wp2
  refine bodyPost_ret (v := (.agg #[.int .i64 64, .int .i64 4, .int .i64 2, .int .i64 4, .int .i64 2, .int .i64 4, .int .u64 1, .int .u64 4, .int .u64 10, .int .u64 5, .int .u64 1, .int .u64 20, .int .u64 4000, .int .u64 20, .int .u64 0, .slice (some ⟨w.heap.size + 1, 0, none⟩) 2 2, .slice (some ⟨w.heap.size + 1 + 1 + 1 + 1, 0, none⟩) 2 2])) (by simp [results, Tryz.results34, go_sem]) rfl (FIN.out _ _ rfl)
end Go.Proofs.YtkbpnkjjmipjfaaGreat
namespace Go.Proofs.YtkbpnkjjmipjfaaGreat
open Go.ChangeShapes Go.WideShapes Go.ChangeAt Go.RowKit
set_option linter.unusedVariables false

theorem EqInts_any {w : World} {a1 a2 : Option Addr} {l c1 c2 : Nat} {f : Nat → Int} (hl : l * 8 ≤ 140737488351232) (h1 : Arg w a1 l f) (h2 : Arg w a2 l f) :
    Calls Tryz.prog 36 #[.slice a1 l c1, .slice a2 l c2] w (One (.bool true) w) := by
  have H1 : Hid (Arg w a1 l f) := h1
  have H2 : Hid (Arg w a2 l f) := h2
  clear h1 h2
  go_enter Tryz.func36, Tryz.ntmps36
  go_wp2
  go_loopw [5] (fun i wr => ∃ k : Nat, k ≤ l ∧ i = .int .i64 k ∧ ∃ m, wr = w.drewN m) (fun i _ => l - (intOf i).toNat)
  case atStart => exact ⟨0, by omega, rfl, 0, rfl⟩
  case round =>
    obtain ⟨k, hk, rfl, m, rfl⟩ := hrel
    by_cases hlt : k < l
    · obtain ⟨b, o, rfl, d1⟩ := H1.out.at' (Below.refl _ _) hlt
      obtain ⟨b', o', rfl, d2⟩ := H2.out.at' (Below.refl _ _) hlt
      have d1 : (w.drewN m).cell? ⟨b, o + k, none⟩ = some (.int .i64 (f k)) := d1
      have d2 : (w.drewN m).cell? ⟨b', o' + k, none⟩ = some (.int .i64 (f k)) := d2
      generalize f k = v at *
      go_wp2
      go_quiet (fail)
      go_wp2
      go_roundw
      case rel => exact ⟨k + 1, by omega, by go_num, m + nq, by first | rfl | simp [World.drewN_drewN]⟩
      case measure => simp [intOf]; omega
    · obtain rfl : k = l := by omega
      go_wp2
      go_ret
      exact ⟨rfl, below_drewN (Below.refl _ _) m⟩
end Go.Proofs.YtkbpnkjjmipjfaaGreat
namespace Go.Proofs.YtkbpnkjjmipjfaaGreat
open Go.ChangeShapes Go.WideShapes Go.ChangeAt Go.RowKit
set_option linter.unusedVariables false

end Go.Proofs.YtkbpnkjjmipjfaaGreat
