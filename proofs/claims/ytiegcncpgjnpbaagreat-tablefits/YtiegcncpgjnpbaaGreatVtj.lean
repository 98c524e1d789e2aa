/- TableApart walked: two roots share nothing. -/
import Derived.Test.YtiegcncpgjnpbaaGreatVti
import Derived.Deep.QuietTactic
import Derived.BigQuiet
namespace Go.Proofs.YtiegcncpgjnpbaaGreat.Pg
open P E Go.ChangeShapes Go.WideShapes Go.ChangeAt Go.RowKit
set_option linter.unusedVariables false
set_option maxRecDepth 8192

theorem Within_any (k n : Int) (h0 : 0 < n) (h1 : n < 4611686018427387904) (hk0 : -9223372036854775808 ≤ k) (hk1 : k < 9223372036854775808) (w : World) :
    Calls Tryz.prog 10 #[.int .i64 k, .int .i64 n] w fun e w' => e = .returned (.int .i64 (k % n)) ∧ w' = w := by
  have h2 : -n < k.tmod n := Int.lt_tmod_of_pos k h0
  have h3 : k.tmod n < n := Int.tmod_lt_of_pos k h0
  have HE : Hid (k % n = if k.tmod n < 0 then k.tmod n + n else k.tmod n) := by
    unfold Hid
    have e : k % n = (k.tmod n) % n := by
      rw [Int.tmod_eq_emod]
      split
      · simp
      · rw [Int.natAbs_of_nonneg (by omega), Int.sub_emod_right, Int.emod_emod]
    rw [e]
    split
    · rw [← Int.add_emod_right]
      exact Int.emod_eq_of_lt (by omega) (by omega)
    · exact Int.emod_eq_of_lt (by omega) (by omega)
  rw [HE.out]
  clear HE
  by_cases hn : k.tmod n < 0
  · rw [if_pos hn]
    go_enter Tryz.func10, Tryz.ntmps10
    go_wp2
    go_ret
    exact ⟨rfl, rfl⟩
  · rw [if_neg hn]
    go_enter Tryz.func10, Tryz.ntmps10
    go_wp2
    go_ret
    exact ⟨rfl, rfl⟩
def rt (a b k : Nat) : Nat := if k = 0 then a else b
theorem ne_self (p s r u a d : Bool) (t : Int) (W : World) : (binOp .neq 38 (.agg #[.bool p, .bool s, .bool r, .bool u, .bool a, .bool d, .int .i64 t]) (.agg #[.bool p, .bool s, .bool r, .bool u, .bool a, .bool d, .int .i64 t])).run Tryz.prog W = .ok (.bool false) W := by rw [N.ne_run, N.eqE_self]; rfl
structure Ap (w0 w : World) (t c p a b gr gs : Nat) (S : E.Sc × Us) (m : Nat → Option Nat) (V : Nat → Int) : Prop where
  ts : Ts w0 (fun k => k = gr ∨ k = gs) t c p (hwOf us) (par us 0) S m w
  lo : w0.heap.size ≤ gs
  ne : a ≠ b
  gn : gr ≠ gs
  cu : cU S.2 3 4096 = 8
  r : ∀ k, k < 2 → m (rt a b k) ≠ none
  al : ∀ k, k < 2 → all (pr (wd S.1.m) (rt a b k)) = 4
  f : ∀ k, k < 2 → pr (wd S.1.m) (rt a b k) 3 0 = true
  v : ∀ k q, k < 2 → 1 ≤ q → q < 4 → V (k * 4 + q) = pw (wd S.1.m) (rt a b k) q
  br : C.Blk w gr 3 [.int .i64 (a : Nat), .int .i64 (b : Nat)]
  bs : C.Blk w gs 104 (es (fun _ => V) 0 8)
end Go.Proofs.YtiegcncpgjnpbaaGreat.Pg
namespace Go.Proofs.YtiegcncpgjnpbaaGreat.Pg
open P E Go.ChangeShapes Go.WideShapes Go.ChangeAt Go.RowKit
set_option linter.unusedVariables false
set_option maxRecDepth 8192

structure Aq (w0 w : World) (t c p a b : Nat) (S : E.Sc × Us) (m : Nat → Option Nat) : Prop where
  ts : Ts w0 (fun _ => False) t c p (hwOf us) (par us 0) S m w
  ne : a ≠ b
  cu : cU S.2 3 4096 = 8
  r : ∀ k, k < 2 → m (rt a b k) ≠ none
  al : ∀ k, k < 2 → all (pr (wd S.1.m) (rt a b k)) = 4
  f : ∀ k, k < 2 → pr (wd S.1.m) (rt a b k) 3 0 = true
  v : ∀ k q, k < 2 → pw (wd S.1.m) (rt a b k) q = 0
theorem Rootd.no_pw {P : Par} {S S' : E.Sc × Us} {m : Nat → Option Nat} {g : Nat} (D : Rootd P m g S S') (q : Nat) : Pg.pw (wd S'.1.m) g q = 0 := pw_none ((D.me 3 (q / 32)).trans (if_neg (by omega)))
end Go.Proofs.YtiegcncpgjnpbaaGreat.Pg
