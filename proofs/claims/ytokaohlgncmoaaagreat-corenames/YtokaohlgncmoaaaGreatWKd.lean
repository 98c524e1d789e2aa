/- What colour's functions of numbers and the reference's give back, each for every number that it may be handed; no condition but the ranges that each theorem names. -/
import Derived.Test.YtokaohlgncmoaaaGreatRows
import Derived.WalkKit
import Derived.ProofKit
import Derived.OpenShut
import Derived.WalkSpells
import Derived.WalkLawsBesides
import Derived.Laws.BitsAllLaws
import Derived.Deep.QuietTactic
import Derived.BigQuiet
import Derived.Deep.WholeRow
import Derived.Deep.RegionWith
import Derived.Deep.AppendLies
import Derived.Laws.ResultCell
import Derived.Laws.IdiomCopy
import Derived.Laws.AppendOwnNone
namespace Go.Proofs.YtokaohlgncmoaaaGreat.K
open Go.ChangeShapes Go.WideShapes Go.ChangeAt Go.RowKit
set_option linter.unusedVariables false

theorem ret_bool {a b : Bool} (h : a = b) : Ending.returned (.bool a) = .returned (.bool b) := by rw [h]
def inB (n a b : Int) : Bool := decide (a ≤ n) && decide (n ≤ b)
theorem inB_t {n a b : Int} (h : a ≤ n) (h' : n ≤ b) : inB n a b = true := by simp [inB, h, h']
def Two (a e : Int) (w : World) (x : Ending) (w' : World) : Prop := x = .returned (.tuple #[.int .i64 a, .int .i64 e]) ∧ w' = w

theorem frameMayBe_any (a : Int) (w : World) : Calls Tryz.prog 145 #[.int .i64 a] w fun e w' => e = .returned (.bool (inB a 0 4095)) ∧ w' = w := by
  go_enter Tryz.func145, Tryz.ntmps145
  go_wp2
  all_goals (go_ret; exact ⟨ret_bool (by rw [Bool.eq_iff_iff]; simp [inB]; omega), rfl⟩)
theorem framesMayBe_any (a : Int) (w : World) : Calls Tryz.prog 192 #[.int .i64 a] w fun e w' => e = .returned (.bool (inB a 1 4096)) ∧ w' = w := by
  go_enter Tryz.func192, Tryz.ntmps192
  go_wp2
  all_goals (go_ret; exact ⟨ret_bool (by rw [Bool.eq_iff_iff]; simp [inB]; omega), rfl⟩)
theorem coloursMayBe_any (a : Int) (w : World) : Calls Tryz.prog 146 #[.int .i64 a] w fun e w' => e = .returned (.bool (inB a 1 16)) ∧ w' = w := by
  go_enter Tryz.func146, Tryz.ntmps146
  go_wp2
  all_goals (go_ret; exact ⟨ret_bool (by rw [Bool.eq_iff_iff]; simp [inB]; omega), rfl⟩)
theorem Of_ok (x n : Int) (h0 : 0 ≤ x) (h1 : x ≤ 4095) (h2 : 1 ≤ n) (h3 : n ≤ 16) (w : World) : Calls Tryz.prog 127 #[.int .i64 x, .int .i64 n] w (Two (x % n) 0 w) := by
  have ha := inB_t h0 h1
  have hb := inB_t h2 h3
  have hm : x.tmod n = x % n := Int.tmod_eq_emod_of_nonneg h0
  have k0 := Int.emod_nonneg x (show n ≠ 0 by omega)
  have k1 := Int.emod_lt_of_pos x (show 0 < n by omega)
  have hn : ¬ n = 0 := by omega
  go_enter Tryz.func127, Tryz.ntmps127
  go_wp2_with (first | (go_at_call 145; refine (frameMayBe_any _ _).mono ?_; rintro e w' ⟨rfl, rfl⟩) | (go_at_call 146; refine (coloursMayBe_any _ _).mono ?_; rintro e w' ⟨rfl, rfl⟩))
  go_ret2
  exact ⟨rfl, rfl⟩
def st (a n : Int) : Int := a / 256 % n * 16 + a % 256 / 16
theorem Set_ok (a n : Int) (h0 : 0 ≤ a) (h1 : a < 1048576) (h2 : 1 ≤ n) (h3 : n ≤ 16) (w : World) : Calls Tryz.prog 102 #[.int .u64 a, .int .i64 n] w (Two (st a n) 0 w) := by
  have C : Hid (∀ w, Calls Tryz.prog 127 #[.int .i64 (a / 256), .int .i64 n] w (Two (a / 256 % n) 0 w)) := fun w => Of_ok (a / 256) n (by omega) (by omega) h2 h3 w
  have k0 := Int.emod_nonneg (a / 256) (show n ≠ 0 by omega)
  have k1 := Int.emod_lt_of_pos (a / 256) (show 0 < n by omega)
  unfold st
  generalize a / 256 % n = c at *
  go_enter Tryz.func102, Tryz.ntmps102
  go_wp2_with (go_at_call 127; refine (C.out _).mono ?_; rintro e w' ⟨rfl, rfl⟩)
  go_ret2
  exact ⟨rfl, rfl⟩
end Go.Proofs.YtokaohlgncmoaaaGreat.K
namespace Go.Proofs.YtokaohlgncmoaaaGreat.K
open Go.ChangeShapes Go.WideShapes Go.ChangeAt Go.RowKit
set_option linter.unusedVariables false
set_option maxRecDepth 8192

end Go.Proofs.YtokaohlgncmoaaaGreat.K
namespace Go.Proofs.YtokaohlgncmoaaaGreat.K
open Go.ChangeShapes Go.WideShapes Go.ChangeAt Go.RowKit
set_option linter.unusedVariables false
set_option maxRecDepth 8192

end Go.Proofs.YtokaohlgncmoaaaGreat.K
