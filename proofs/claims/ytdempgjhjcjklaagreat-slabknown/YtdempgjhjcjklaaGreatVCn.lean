/- What the statements' own configuration gives back; no condition. -/
import Derived.Test.YtdempgjhjcjklaaGreatVWa
import Derived.Test.YtdempgjhjcjklaaGreatVCo
namespace Go.Proofs.YtdempgjhjcjklaaGreat
open Go.ChangeShapes Go.WideShapes Go.ChangeAt Go.RowKit
set_option linter.unusedVariables false

/-- What conf gives back: the chapter's configuration. -/
def Cfd (w : World) (e : Ending) (w' : World) : Prop := ∃ (a : Ad) (c : Cf), e = .returned (.agg #[.int .i64 c.F, .int .i64 c.C, .int .i64 c.W, .int .i64 c.S, .int .i64 c.V, .int .i64 c.T, .int .u64 c.k.l1, .int .u64 c.k.llc, .int .u64 c.k.mi, .int .u64 c.k.fa, .int .u64 c.k.st, .int .u64 c.k.di, .int .u64 c.sl, .int .u64 c.pd, .int .u64 c.ft, .slice a.ta c.tn a.tc, .slice a.pa c.pn a.pc]) ∧ c = us ∧ Cin w' a c ∧ Below w.heap.size w w'
theorem Blk.alloc' {w : World} {g : Nat} {ty : TypeId} {L : List Value} (h : Blk w g ty L) (o : Obj) : Blk (w.alloc o) g ty L := h.below (below_new w o)
theorem cfd_of {w w' : World} {o1 o2 o3 : Obj} (hw : w' = ((((((w.alloc o1).alloc (.cells #[.int .i64 0, .int .i64 1] 3)).alloc o2).alloc (.cells #[.int .i64 2] 3)).alloc o3).alloc (.cells #[.int .i64 0, .int .i64 1] 3)).alloc (.cells #[.slice (some ⟨w.heap.size + 1, 0, none⟩) 2 2, .int .i64 1, .int .i64 4, .int .i64 8, .int .i64 1, .int .i64 1, .int .i64 1, .int .i64 3, .slice (some ⟨w.heap.size + 1 + 1 + 1, 0, none⟩) 1 1, .int .i64 0, .int .i64 2, .int .i64 6, .int .i64 1, .int .i64 1, .int .i64 1, .int .i64 3] 53)) :
    Cfd w (.returned (.agg #[.int .i64 64, .int .i64 4, .int .i64 2, .int .i64 4, .int .i64 2, .int .i64 4, .int .u64 1, .int .u64 4, .int .u64 10, .int .u64 5, .int .u64 1, .int .u64 20, .int .u64 4000, .int .u64 20, .int .u64 0, .slice (some ⟨w.heap.size + 1 + 1 + 1 + 1 + 1, 0, none⟩) 2 2, .slice (some ⟨w.heap.size + 1 + 1 + 1 + 1 + 1 + 1, 0, none⟩) 2 2])) w' := by
  have hU : Ublk w' (w.heap.size + 1 + 1 + 1 + 1 + 1) (w.heap.size + 1) (w.heap.size + 1 + 1 + 1) (w.heap.size + 1 + 1 + 1 + 1 + 1 + 1) := by
    subst hw
    refine ⟨?_, ?_, ?_, ?_⟩
    · have := (blk_new (((((w.alloc o1).alloc (.cells #[.int .i64 0, .int .i64 1] 3)).alloc o2).alloc (.cells #[.int .i64 2] 3)).alloc o3) [.int .i64 0, .int .i64 1] 3).alloc' (.cells #[.slice (some ⟨w.heap.size + 1, 0, none⟩) 2 2, .int .i64 1, .int .i64 4, .int .i64 8, .int .i64 1, .int .i64 1, .int .i64 1, .int .i64 3, .slice (some ⟨w.heap.size + 1 + 1 + 1, 0, none⟩) 1 1, .int .i64 0, .int .i64 2, .int .i64 6, .int .i64 1, .int .i64 1, .int .i64 1, .int .i64 3] 53)
      simpa using this
    · have := (((((blk_new (w.alloc o1) [.int .i64 0, .int .i64 1] 3).alloc' o2).alloc' (.cells #[.int .i64 2] 3)).alloc' o3).alloc' (.cells #[.int .i64 0, .int .i64 1] 3)).alloc' (.cells #[.slice (some ⟨w.heap.size + 1, 0, none⟩) 2 2, .int .i64 1, .int .i64 4, .int .i64 8, .int .i64 1, .int .i64 1, .int .i64 1, .int .i64 3, .slice (some ⟨w.heap.size + 1 + 1 + 1, 0, none⟩) 1 1, .int .i64 0, .int .i64 2, .int .i64 6, .int .i64 1, .int .i64 1, .int .i64 1, .int .i64 3] 53)
      simpa using this
    · have := (((blk_new (((w.alloc o1).alloc (.cells #[.int .i64 0, .int .i64 1] 3)).alloc o2) [.int .i64 2] 3).alloc' o3).alloc' (.cells #[.int .i64 0, .int .i64 1] 3)).alloc' (.cells #[.slice (some ⟨w.heap.size + 1, 0, none⟩) 2 2, .int .i64 1, .int .i64 4, .int .i64 8, .int .i64 1, .int .i64 1, .int .i64 1, .int .i64 3, .slice (some ⟨w.heap.size + 1 + 1 + 1, 0, none⟩) 1 1, .int .i64 0, .int .i64 2, .int .i64 6, .int .i64 1, .int .i64 1, .int .i64 1, .int .i64 3] 53)
      simpa using this
    · have := blk_new ((((((w.alloc o1).alloc (.cells #[.int .i64 0, .int .i64 1] 3)).alloc o2).alloc (.cells #[.int .i64 2] 3)).alloc o3).alloc (.cells #[.int .i64 0, .int .i64 1] 3)) [.slice (some ⟨w.heap.size + 1, 0, none⟩) 2 2, .int .i64 1, .int .i64 4, .int .i64 8, .int .i64 1, .int .i64 1, .int .i64 1, .int .i64 3, .slice (some ⟨w.heap.size + 1 + 1 + 1, 0, none⟩) 1 1, .int .i64 0, .int .i64 2, .int .i64 6, .int .i64 1, .int .i64 1, .int .i64 1, .int .i64 3] 53
      simpa using this
  refine ⟨Ud (w.heap.size + 1 + 1 + 1 + 1 + 1) (w.heap.size + 1) (w.heap.size + 1 + 1 + 1) (w.heap.size + 1 + 1 + 1 + 1 + 1 + 1), us, rfl, rfl, hU.cin, ?_⟩
  subst hw
  have h1 := below_new w o1
  have h2 := h1.alloc h1.size (.cells #[.int .i64 0, .int .i64 1] 3)
  have h3 := h2.alloc h2.size o2
  have h4 := h3.alloc h3.size (.cells #[.int .i64 2] 3)
  have h5 := h4.alloc h4.size o3
  have h6 := h5.alloc h5.size (.cells #[.int .i64 0, .int .i64 1] 3)
  exact h6.alloc h6.size _
set_option maxRecDepth 100000 in
set_option maxHeartbeats 4000000 in
theorem conf_any (w : World) : Calls Tryz.prog 24 #[] w (Cfd w) := by
  have FIN : Hid (∀ w' o1 o2 o3, w' = ((((((w.alloc o1).alloc (.cells #[.int .i64 0, .int .i64 1] 3)).alloc o2).alloc (.cells #[.int .i64 2] 3)).alloc o3).alloc (.cells #[.int .i64 0, .int .i64 1] 3)).alloc (.cells #[.slice (some ⟨w.heap.size + 1, 0, none⟩) 2 2, .int .i64 1, .int .i64 4, .int .i64 8, .int .i64 1, .int .i64 1, .int .i64 1, .int .i64 3, .slice (some ⟨w.heap.size + 1 + 1 + 1, 0, none⟩) 1 1, .int .i64 0, .int .i64 2, .int .i64 6, .int .i64 1, .int .i64 1, .int .i64 1, .int .i64 3] 53) → Cfd w (.returned (.agg #[.int .i64 64, .int .i64 4, .int .i64 2, .int .i64 4, .int .i64 2, .int .i64 4, .int .u64 1, .int .u64 4, .int .u64 10, .int .u64 5, .int .u64 1, .int .u64 20, .int .u64 4000, .int .u64 20, .int .u64 0, .slice (some ⟨w.heap.size + 1 + 1 + 1 + 1 + 1, 0, none⟩) 2 2, .slice (some ⟨w.heap.size + 1 + 1 + 1 + 1 + 1 + 1, 0, none⟩) 2 2])) w') := fun w' o1 o2 o3 h => cfd_of h
  go_enter Tryz.func24, Tryz.ntmps24
  go_wp2
  refine bodyPost_ret (v := (.agg #[.int .i64 64, .int .i64 4, .int .i64 2, .int .i64 4, .int .i64 2, .int .i64 4, .int .u64 1, .int .u64 4, .int .u64 10, .int .u64 5, .int .u64 1, .int .u64 20, .int .u64 4000, .int .u64 20, .int .u64 0, .slice (some ⟨w.heap.size + 1 + 1 + 1 + 1 + 1, 0, none⟩) 2 2, .slice (some ⟨w.heap.size + 1 + 1 + 1 + 1 + 1 + 1, 0, none⟩) 2 2])) (by simp [results, Tryz.results24, go_sem]) rfl (FIN.out _ _ _ _ rfl)
end Go.Proofs.YtdempgjhjcjklaaGreat
