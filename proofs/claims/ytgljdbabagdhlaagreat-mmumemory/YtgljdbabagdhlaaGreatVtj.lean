/- TableApart walked: two roots share nothing. -/
import Derived.Test.YtgljdbabagdhlaaGreatVti
namespace Go.Proofs.YtgljdbabagdhlaaGreat.Pg
open P E Go.ChangeShapes Go.WideShapes Go.ChangeAt Go.RowKit
set_option linter.unusedVariables false
set_option maxRecDepth 8192
theorem Within_any (k n : Int) (h0 : 0 < n) (h1 : n < 4611686018427387904) (hk0 : -9223372036854775808 ≤ k) (hk1 : k < 9223372036854775808) (w : World) :
    Calls Tryz.prog 8 #[.int .i64 k,.int .i64 n] w fun e w'=>e = .returned (.int .i64 (k % n))∧w' = w:=by
  have h2 : -n < k.tmod n:=Int.lt_tmod_of_pos k h0
  have h3:k.tmod n < n:=Int.tmod_lt_of_pos k h0
  have HE:Hid (k % n = if k.tmod n < 0 then k.tmod n + n else k.tmod n):=by
    unfold Hid
    have e:k % n = (k.tmod n) % n:=by
      rw [Int.tmod_eq_emod]
      split
      · simp
      · rw [Int.natAbs_of_nonneg (by omega),Int.sub_emod_right,Int.emod_emod]
    rw [e]
    split
    · rw [← Int.add_emod_right]
      exact Int.emod_eq_of_lt (by omega) (by omega)
    · exact Int.emod_eq_of_lt (by omega) (by omega)
  rw [HE.out]
  clear HE
  by_cases hn:k.tmod n < 0
  · rw [if_pos hn]
    go_enter Tryz.func8,Tryz.ntmps8
    go_wp2
    go_ret
    exact ⟨rfl,rfl⟩
  · rw [if_neg hn]
    go_enter Tryz.func8,Tryz.ntmps8
    go_wp2
    go_ret
    exact ⟨rfl,rfl⟩
def rt (a b k:Nat):Nat:=if k = 0 then a else b
end Go.Proofs.YtgljdbabagdhlaaGreat.Pg
