/- What the statements' own configuration gives back; no condition. -/
import Derived.Test.YtcmgjinjfaialaaGreatUs
namespace Go.Proofs.YtcmgjinjfaialaaGreat
open Go.ChangeShapes Go.WideShapes Go.ChangeAt Go.RowKit
set_option linter.unusedVariables false

set_option maxRecDepth 100000 in
set_option maxHeartbeats 4000000 in
theorem usual_any (w : World) : Calls Tryz.prog 9 #[] w (Usd w) := by
  have FIN : Hid (∀ w' o, w' = ((((w.alloc o).alloc (.cells #[.int .i64 0, .int .i64 1] 3)).alloc (.cells #[.int .i64 0, .int .i64 1] 3)).alloc (.cells #[.int .i64 2] 3)).alloc (.cells #[.slice (some ⟨w.heap.size + 1 + 1, 0, none⟩) 2 2, .int .i64 1, .int .i64 4, .int .i64 8, .int .i64 1, .int .i64 1, .int .i64 1, .int .i64 3, .slice (some ⟨w.heap.size + 1 + 1 + 1, 0, none⟩) 1 1, .int .i64 0, .int .i64 2, .int .i64 6, .int .i64 1, .int .i64 1, .int .i64 1, .int .i64 3] 40) → Usd w (.returned (.agg #[.int .i64 64, .int .i64 4, .int .i64 2, .int .i64 4, .int .i64 2, .int .i64 4, .int .u64 1, .int .u64 4, .int .u64 10, .int .u64 5, .int .u64 1, .int .u64 20, .int .u64 4000, .int .u64 20, .int .u64 0, .slice (some ⟨w.heap.size + 1, 0, none⟩) 2 2, .slice (some ⟨w.heap.size + 1 + 1 + 1 + 1, 0, none⟩) 2 2])) w') := fun w' o h => usd_of h
  go_enter Tryz.func9, Tryz.ntmps9
  go_wp2
  refine bodyPost_ret (v := (.agg #[.int .i64 64, .int .i64 4, .int .i64 2, .int .i64 4, .int .i64 2, .int .i64 4, .int .u64 1, .int .u64 4, .int .u64 10, .int .u64 5, .int .u64 1, .int .u64 20, .int .u64 4000, .int .u64 20, .int .u64 0, .slice (some ⟨w.heap.size + 1, 0, none⟩) 2 2, .slice (some ⟨w.heap.size + 1 + 1 + 1 + 1, 0, none⟩) 2 2])) (by simp [results, Tryz.results9, go_sem]) rfl (FIN.out _ _ rfl)
end Go.Proofs.YtcmgjinjfaialaaGreat
