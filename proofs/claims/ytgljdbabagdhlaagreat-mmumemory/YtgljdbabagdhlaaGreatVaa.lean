/- What the small integer functions of package addr and of the reference give back, each for every integer that it may be handed; no condition but the range that each theorem names. -/
import Derived.Test.YtgljdbabagdhlaaGreatRows
import Derived.WalkKit
import Derived.ProofKit
import Derived.OpenShut
import Derived.WalkSpells
import Derived.WalkLawsBesides
import Derived.Laws.BitsAllLaws
import Derived.Below
import Derived.Deep.QuietTactic
import Derived.BigQuiet
namespace Go.Proofs.YtgljdbabagdhlaaGreat.A
open Go.ChangeShapes Go.WideShapes Go.ChangeAt Go.RowKit
set_option linter.unusedVariables false
set_option maxRecDepth 8192
theorem own:ownKnob Tryz.prog.godebug = none:=by kernel_rfl
theorem low8_u64 (a:Int) (h0:0 ≤ a) (h1:a < 18446744073709551616):bits .and .u64 a 255 = a % 256:=by
  rw [u64_and a 255 h0 h1 (by decide) (by decide)]
  have e:(255:Int).toNat = 255:=rfl
  rw [e,nat_mask8]; omega
theorem low5_i64 (a:Int) (h0:0 ≤ a) (h1:a < 1048576):bits .and .i64 a 31 = a % 32:=by
  obtain ⟨n,rfl⟩:=Int.eq_ofNat_of_zero_le h0
  show IntKind.i64.wrap ((BitVec.ofInt 64 (n:Int) &&& BitVec.ofInt 64 ((31:Nat):Int)).toNat:Int) = _
  rw [BitVec.toNat_and,ofInt_u64 n (by omega),ofInt_u64 31 (by omega),nat_mask5,IntKind.wrap_i64]
  omega
theorem join_u64 (a b:Int) (h0:0 ≤ a) (h1:a < 1048576) (h2:0 ≤ b) (h3:b < 256):bits .or .u64 (a * 256) b = a * 256 + b:=by
  rw [u64_or (a * 256) b (by omega) (by omega) h2 (by omega),nat_join 8 _ _ (by omega) (by omega)]; omega
theorem ret_bool {a b:Bool} (h:a = b):Ending.returned (.bool a) = .returned (.bool b):=by rw [h]
theorem cut_any (a : Int) (h0 : 0 ≤ a) (h1 : a < 18446744073709551616) (w : World) :
    Calls Tryz.prog 138 #[.int .u64 a] w fun e w'=>e = .returned (.tuple #[.int .i64 (a / 256),.int .i64 (a % 256)])∧w' = w:=by
  have hl:=low8_u64 a h0 h1
  go_enter Tryz.func138,Tryz.ntmps138
  go_wp2
  go_ret2
  exact ⟨rfl,rfl⟩
def inB (n a b:Int):Bool:=decide (a ≤ n) && decide (n ≤ b)
theorem inB_t {n a b:Int} (h:a ≤ n) (h' : n ≤ b):inB n a b = true:=by simp [inB,h,h']
theorem inB_f {n a b:Int} (h:n < a ∨ b < n):inB n a b = false:=by simp [inB]; omega
theorem pageMayBe_any (a : Int) (w : World) :
    Calls Tryz.prog 78 #[.int .i64 a] w fun e w'=>e = .returned (.bool (inB a 0 1048575))∧w' = w:=by
  go_enter Tryz.func78,Tryz.ntmps78
  go_wp2
  all_goals (go_ret; exact ⟨ret_bool (by rw [Bool.eq_iff_iff]; simp [inB]; omega),rfl⟩)
theorem offMayBe_any (a : Int) (w : World) :
    Calls Tryz.prog 79 #[.int .i64 a] w fun e w'=>e = .returned (.bool (inB a 0 255))∧w' = w:=by
  go_enter Tryz.func79,Tryz.ntmps79
  go_wp2
  all_goals (go_ret; exact ⟨ret_bool (by rw [Bool.eq_iff_iff]; simp [inB]; omega),rfl⟩)
theorem levelMayBe_any (a : Int) (w : World) :
    Calls Tryz.prog 137 #[.int .i64 a] w fun e w'=>e = .returned (.bool (inB a 0 3))∧w' = w:=by
  go_enter Tryz.func137,Tryz.ntmps137
  go_wp2
  all_goals (go_ret; exact ⟨ret_bool (by rw [Bool.eq_iff_iff]; simp [inB]; omega),rfl⟩)
theorem frameMayBe_any (a : Int) (w : World) :
    Calls Tryz.prog 109 #[.int .i64 a] w fun e w'=>e = .returned (.bool (inB a 0 4095))∧w' = w:=by
  go_enter Tryz.func109,Tryz.ntmps109
  go_wp2
  all_goals (go_ret; exact ⟨ret_bool (by rw [Bool.eq_iff_iff]; simp [inB]; omega),rfl⟩)
theorem put_any (a b : Int) (h0 : 0 ≤ a) (h1 : a < 1048576) (h2 : 0 ≤ b) (h3 : b < 256) (w : World) :
    Calls Tryz.prog 80 #[.int .i64 a,.int .i64 b] w fun e w'=>e = .returned (.int .u64 (a * 256 + b))∧w' = w:=by
  have hj:=join_u64 a b h0 h1 h2 h3
  go_enter Tryz.func80,Tryz.ntmps80
  go_wp2
  go_ret
  exact ⟨rfl,rfl⟩
theorem tableOf_0 (a : Int) (h0 : 0 ≤ a) (h1 : a ≤ 1048576) (w : World) :
    Calls Tryz.prog 134 #[.int .i64 a,.int .i64 0] w fun e w'=>e = .returned (.int .i64 (a / 32))∧w' = w:=by
  go_enter Tryz.func134,Tryz.ntmps134
  go_wp2
  go_ret
  exact ⟨rfl,rfl⟩
theorem tableOf_1 (a : Int) (h0 : 0 ≤ a) (h1 : a ≤ 1048576) (w : World) :
    Calls Tryz.prog 134 #[.int .i64 a,.int .i64 1] w fun e w'=>e = .returned (.int .i64 (a / 1024))∧w' = w:=by
  go_enter Tryz.func134,Tryz.ntmps134
  go_wp2
  go_ret
  exact ⟨rfl,rfl⟩
theorem tableOf_2 (a : Int) (h0 : 0 ≤ a) (h1 : a ≤ 1048576) (w : World) :
    Calls Tryz.prog 134 #[.int .i64 a,.int .i64 2] w fun e w'=>e = .returned (.int .i64 (a / 32768))∧w' = w:=by
  go_enter Tryz.func134,Tryz.ntmps134
  go_wp2
  go_ret
  exact ⟨rfl,rfl⟩
theorem tableOf_3 (a : Int) (h0 : 0 ≤ a) (h1 : a ≤ 1048576) (w : World) :
    Calls Tryz.prog 134 #[.int .i64 a,.int .i64 3] w fun e w'=>e = .returned (.int .i64 (a / 1048576))∧w' = w:=by
  go_enter Tryz.func134,Tryz.ntmps134
  go_wp2
  go_ret
  exact ⟨rfl,rfl⟩
theorem Split_ok (a : Int) (h0 : 0 ≤ a) (h1 : a < 268435456) (w : World) :
    Calls Tryz.prog 107 #[.int .u64 a] w fun e w'=>e = .returned (.tuple #[.int .i64 (a / 256),.int .i64 (a % 256),.int .i64 0])∧w' = w:=by
  have hz:(a / 268435456 != 0) = false:=by simp; omega
  go_enter Tryz.func107,Tryz.ntmps107
  go_wp2_with (go_at_call 138; refine (cut_any _ h0 (by omega) _).mono ?_; rintro e w' ⟨rfl,rfl⟩)
  go_ret3
  exact ⟨rfl,rfl⟩
theorem Join_ok (a b : Int) (h0 : 0 ≤ a) (h1 : a < 1048576) (h2 : 0 ≤ b) (h3 : b < 256) (w : World) :
    Calls Tryz.prog 38 #[.int .i64 a,.int .i64 b] w fun e w'=>e = .returned (.tuple #[.int .u64 (a * 256 + b),.int .i64 0])∧w' = w:=by
  have ha:=inB_t h0 (show a ≤ 1048575 by omega)
  have hb:=inB_t h2 (show b ≤ 255 by omega)
  go_enter Tryz.func38,Tryz.ntmps38
  go_wp2_with (first | (go_at_call 78; refine (pageMayBe_any _ _).mono ?_; rintro e w' ⟨rfl,rfl⟩) | (go_at_call 79; refine (offMayBe_any _ _).mono ?_; rintro e w' ⟨rfl,rfl⟩) | (go_at_call 80; refine (put_any _ _ h0 h1 h2 h3 _).mono ?_; rintro e w' ⟨rfl,rfl⟩))
  go_ret2
  exact ⟨rfl,rfl⟩
theorem Join_no (a b : Int) (h : ¬ (0 ≤ a ∧ a < 1048576 ∧ 0 ≤ b ∧ b < 256)) (w : World) :
    Calls Tryz.prog 38 #[.int .i64 a,.int .i64 b] w fun e w'=>e = .returned (.tuple #[.int .u64 0,.int .i64 2])∧w' = w:=by
  by_cases hp:0 ≤ a∧a < 1048576
  · have ha:=inB_t hp.1 (show a ≤ 1048575 by omega)
    have hb:=inB_f (show b < 0 ∨ 255 < b by omega)
    clear h hp
    go_enter Tryz.func38,Tryz.ntmps38
    go_wp2_with (first | (go_at_call 78; refine (pageMayBe_any _ _).mono ?_; rintro e w' ⟨rfl,rfl⟩) | (go_at_call 79; refine (offMayBe_any _ _).mono ?_; rintro e w' ⟨rfl,rfl⟩))
    go_ret2
    exact ⟨rfl,rfl⟩
  · have ha:=inB_f (show a < 0 ∨ 1048575 < a by omega)
    clear h hp
    go_enter Tryz.func38,Tryz.ntmps38
    go_wp2_with (first | (go_at_call 78; refine (pageMayBe_any _ _).mono ?_; rintro e w' ⟨rfl,rfl⟩) | (go_at_call 79; refine (offMayBe_any _ _).mono ?_; rintro e w' ⟨rfl,rfl⟩))
    go_ret2
    exact ⟨rfl,rfl⟩
theorem Place_ok (a b : Int) (h0 : 0 ≤ a) (h1 : a < 4096) (h2 : 0 ≤ b) (h3 : b < 256) (w : World) :
    Calls Tryz.prog 66 #[.int .i64 a,.int .i64 b] w fun e w'=>e = .returned (.tuple #[.int .u64 (a * 256 + b),.int .i64 0])∧w' = w:=by
  have ha:=inB_t h0 (show a ≤ 4095 by omega)
  have hb:=inB_t h2 (show b ≤ 255 by omega)
  go_enter Tryz.func66,Tryz.ntmps66
  go_wp2_with (first | (go_at_call 109; refine (frameMayBe_any _ _).mono ?_; rintro e w' ⟨rfl,rfl⟩) | (go_at_call 79; refine (offMayBe_any _ _).mono ?_; rintro e w' ⟨rfl,rfl⟩) | (go_at_call 80; refine (put_any _ _ h0 (by omega) h2 h3 _).mono ?_; rintro e w' ⟨rfl,rfl⟩))
  go_ret2
  exact ⟨rfl,rfl⟩
theorem Index_0 (a : Int) (h0 : 0 ≤ a) (h1 : a < 1048576) (w : World) :
    Calls Tryz.prog 104 #[.int .i64 a,.int .i64 0] w fun e w'=>e = .returned (.tuple #[.int .i64 (a % 32),.int .i64 0])∧w' = w:=by
  have ha:=inB_t h0 (show a ≤ 1048575 by omega)
  have hb:inB 0 0 3 = true:=rfl
  have hl:=low5_i64 a (by omega) (by omega)
  go_enter Tryz.func104,Tryz.ntmps104
  go_wp2_with (first | (go_at_call 78; refine (pageMayBe_any _ _).mono ?_; rintro e w' ⟨rfl,rfl⟩) | (go_at_call 137; refine (levelMayBe_any _ _).mono ?_; rintro e w' ⟨rfl,rfl⟩))
  go_ret2
  exact ⟨rfl,rfl⟩
theorem Table_0 (a : Int) (h0 : 0 ≤ a) (h1 : a < 1048576) (w : World) :
    Calls Tryz.prog 103 #[.int .i64 a,.int .i64 0] w fun e w'=>e = .returned (.tuple #[.int .i64 (a / 32),.int .i64 0])∧w' = w:=by
  have ha:=inB_t h0 (show a ≤ 1048575 by omega)
  have hb:inB 0 0 3 = true:=rfl
  go_enter Tryz.func103,Tryz.ntmps103
  go_wp2_with (first | (go_at_call 78; refine (pageMayBe_any _ _).mono ?_; rintro e w' ⟨rfl,rfl⟩) | (go_at_call 137; refine (levelMayBe_any _ _).mono ?_; rintro e w' ⟨rfl,rfl⟩) | (go_at_call 134; refine (tableOf_0 _ h0 (by omega) _).mono ?_; rintro e w' ⟨rfl,rfl⟩))
  go_ret2
  exact ⟨rfl,rfl⟩
theorem Index_1 (a : Int) (h0 : 0 ≤ a) (h1 : a < 1048576) (w : World) :
    Calls Tryz.prog 104 #[.int .i64 a,.int .i64 1] w fun e w'=>e = .returned (.tuple #[.int .i64 ((a / 32) % 32),.int .i64 0])∧w' = w:=by
  have ha:=inB_t h0 (show a ≤ 1048575 by omega)
  have hb:inB 1 0 3 = true:=rfl
  have hl:=low5_i64 (a / 32) (by omega) (by omega)
  go_enter Tryz.func104,Tryz.ntmps104
  go_wp2_with (first | (go_at_call 78; refine (pageMayBe_any _ _).mono ?_; rintro e w' ⟨rfl,rfl⟩) | (go_at_call 137; refine (levelMayBe_any _ _).mono ?_; rintro e w' ⟨rfl,rfl⟩))
  go_ret2
  exact ⟨rfl,rfl⟩
theorem Table_1 (a : Int) (h0 : 0 ≤ a) (h1 : a < 1048576) (w : World) :
    Calls Tryz.prog 103 #[.int .i64 a,.int .i64 1] w fun e w'=>e = .returned (.tuple #[.int .i64 (a / 1024),.int .i64 0])∧w' = w:=by
  have ha:=inB_t h0 (show a ≤ 1048575 by omega)
  have hb:inB 1 0 3 = true:=rfl
  go_enter Tryz.func103,Tryz.ntmps103
  go_wp2_with (first | (go_at_call 78; refine (pageMayBe_any _ _).mono ?_; rintro e w' ⟨rfl,rfl⟩) | (go_at_call 137; refine (levelMayBe_any _ _).mono ?_; rintro e w' ⟨rfl,rfl⟩) | (go_at_call 134; refine (tableOf_1 _ h0 (by omega) _).mono ?_; rintro e w' ⟨rfl,rfl⟩))
  go_ret2
  exact ⟨rfl,rfl⟩
theorem Index_2 (a : Int) (h0 : 0 ≤ a) (h1 : a < 1048576) (w : World) :
    Calls Tryz.prog 104 #[.int .i64 a,.int .i64 2] w fun e w'=>e = .returned (.tuple #[.int .i64 ((a / 1024) % 32),.int .i64 0])∧w' = w:=by
  have ha:=inB_t h0 (show a ≤ 1048575 by omega)
  have hb:inB 2 0 3 = true:=rfl
  have hl:=low5_i64 (a / 1024) (by omega) (by omega)
  go_enter Tryz.func104,Tryz.ntmps104
  go_wp2_with (first | (go_at_call 78; refine (pageMayBe_any _ _).mono ?_; rintro e w' ⟨rfl,rfl⟩) | (go_at_call 137; refine (levelMayBe_any _ _).mono ?_; rintro e w' ⟨rfl,rfl⟩))
  go_ret2
  exact ⟨rfl,rfl⟩
theorem Table_2 (a : Int) (h0 : 0 ≤ a) (h1 : a < 1048576) (w : World) :
    Calls Tryz.prog 103 #[.int .i64 a,.int .i64 2] w fun e w'=>e = .returned (.tuple #[.int .i64 (a / 32768),.int .i64 0])∧w' = w:=by
  have ha:=inB_t h0 (show a ≤ 1048575 by omega)
  have hb:inB 2 0 3 = true:=rfl
  go_enter Tryz.func103,Tryz.ntmps103
  go_wp2_with (first | (go_at_call 78; refine (pageMayBe_any _ _).mono ?_; rintro e w' ⟨rfl,rfl⟩) | (go_at_call 137; refine (levelMayBe_any _ _).mono ?_; rintro e w' ⟨rfl,rfl⟩) | (go_at_call 134; refine (tableOf_2 _ h0 (by omega) _).mono ?_; rintro e w' ⟨rfl,rfl⟩))
  go_ret2
  exact ⟨rfl,rfl⟩
theorem Index_3 (a : Int) (h0 : 0 ≤ a) (h1 : a < 1048576) (w : World) :
    Calls Tryz.prog 104 #[.int .i64 a,.int .i64 3] w fun e w'=>e = .returned (.tuple #[.int .i64 ((a / 32768) % 32),.int .i64 0])∧w' = w:=by
  have ha:=inB_t h0 (show a ≤ 1048575 by omega)
  have hb:inB 3 0 3 = true:=rfl
  have hl:=low5_i64 (a / 32768) (by omega) (by omega)
  go_enter Tryz.func104,Tryz.ntmps104
  go_wp2_with (first | (go_at_call 78; refine (pageMayBe_any _ _).mono ?_; rintro e w' ⟨rfl,rfl⟩) | (go_at_call 137; refine (levelMayBe_any _ _).mono ?_; rintro e w' ⟨rfl,rfl⟩))
  go_ret2
  exact ⟨rfl,rfl⟩
theorem Table_3 (a : Int) (h0 : 0 ≤ a) (h1 : a < 1048576) (w : World) :
    Calls Tryz.prog 103 #[.int .i64 a,.int .i64 3] w fun e w'=>e = .returned (.tuple #[.int .i64 (a / 1048576),.int .i64 0])∧w' = w:=by
  have ha:=inB_t h0 (show a ≤ 1048575 by omega)
  have hb:inB 3 0 3 = true:=rfl
  go_enter Tryz.func103,Tryz.ntmps103
  go_wp2_with (first | (go_at_call 78; refine (pageMayBe_any _ _).mono ?_; rintro e w' ⟨rfl,rfl⟩) | (go_at_call 137; refine (levelMayBe_any _ _).mono ?_; rintro e w' ⟨rfl,rfl⟩) | (go_at_call 134; refine (tableOf_3 _ h0 (by omega) _).mono ?_; rintro e w' ⟨rfl,rfl⟩))
  go_ret2
  exact ⟨rfl,rfl⟩
theorem Index_no (a b : Int) (h : ¬ (0 ≤ a ∧ a < 1048576 ∧ 0 ≤ b ∧ b ≤ 3)) (w : World) :
    Calls Tryz.prog 104 #[.int .i64 a,.int .i64 b] w fun e w'=>e = .returned (.tuple #[.int .i64 0,.int .i64 2])∧w' = w:=by
  by_cases hp:0 ≤ a∧a < 1048576
  · have ha:=inB_t hp.1 (show a ≤ 1048575 by omega)
    have hb:=inB_f (show b < 0 ∨ 3 < b by omega)
    clear h hp
    go_enter Tryz.func104,Tryz.ntmps104
    go_wp2_with (first | (go_at_call 78; refine (pageMayBe_any _ _).mono ?_; rintro e w' ⟨rfl,rfl⟩) | (go_at_call 137; refine (levelMayBe_any _ _).mono ?_; rintro e w' ⟨rfl,rfl⟩))
    go_ret2
    exact ⟨rfl,rfl⟩
  · have ha:=inB_f (show a < 0 ∨ 1048575 < a by omega)
    clear h hp
    go_enter Tryz.func104,Tryz.ntmps104
    go_wp2_with (first | (go_at_call 78; refine (pageMayBe_any _ _).mono ?_; rintro e w' ⟨rfl,rfl⟩) | (go_at_call 137; refine (levelMayBe_any _ _).mono ?_; rintro e w' ⟨rfl,rfl⟩))
    go_ret2
    exact ⟨rfl,rfl⟩
theorem Table_no (a b : Int) (h : ¬ (0 ≤ a ∧ a < 1048576 ∧ 0 ≤ b ∧ b ≤ 3)) (w : World) :
    Calls Tryz.prog 103 #[.int .i64 a,.int .i64 b] w fun e w'=>e = .returned (.tuple #[.int .i64 0,.int .i64 2])∧w' = w:=by
  by_cases hp:0 ≤ a∧a < 1048576
  · have ha:=inB_t hp.1 (show a ≤ 1048575 by omega)
    have hb:=inB_f (show b < 0 ∨ 3 < b by omega)
    clear h hp
    go_enter Tryz.func103,Tryz.ntmps103
    go_wp2_with (first | (go_at_call 78; refine (pageMayBe_any _ _).mono ?_; rintro e w' ⟨rfl,rfl⟩) | (go_at_call 137; refine (levelMayBe_any _ _).mono ?_; rintro e w' ⟨rfl,rfl⟩))
    go_ret2
    exact ⟨rfl,rfl⟩
  · have ha:=inB_f (show a < 0 ∨ 1048575 < a by omega)
    clear h hp
    go_enter Tryz.func103,Tryz.ntmps103
    go_wp2_with (first | (go_at_call 78; refine (pageMayBe_any _ _).mono ?_; rintro e w' ⟨rfl,rfl⟩) | (go_at_call 137; refine (levelMayBe_any _ _).mono ?_; rintro e w' ⟨rfl,rfl⟩))
    go_ret2
    exact ⟨rfl,rfl⟩
theorem Run_ok (a s : Int) (h0 : 0 ≤ a) (h1 : a < 268435456) (h2 : 1 ≤ s) (h3 : s ≤ 8) (h4 : a % 256 + s ≤ 256) (w : World) :
    Calls Tryz.prog 64 #[.int .u64 a,.int .i64 s] w fun e w'=>e = .returned (.tuple #[.int .i64 (a / 256),.int .i64 (a % 256),.int .i64 0])∧w' = w:=by
  go_enter Tryz.func64,Tryz.ntmps64
  go_wp2_with (go_at_call 107; refine (Split_ok _ h0 h1 _).mono ?_; rintro e w' ⟨rfl,rfl⟩)
  go_ret3
  exact ⟨rfl,rfl⟩
theorem bcell {W w1:World} (hb:Below W.heap.size W w1):(∀ b o,b < W.heap.size→w1.cell? ⟨b,o,none⟩ = W.cell? ⟨b,o,none⟩)∧(∀ b o,b < W.heap.size→w1.frozen? ⟨b,o,none⟩ = W.frozen? ⟨b,o,none⟩):=
  ⟨fun b o h=>hb.cell (p:=⟨b,o,none⟩) h,fun b o h=>hb.frozen (p:=⟨b,o,none⟩) h⟩
def okS (s:Int × Int):Prop:=0 ≤ s.1∧1 ≤ s.2∧s.1 + s.2 ≤ 1048576
def tbStep (q:Int) (st:Int × Int) (s:Int × Int):Int × Int:=
  if max st.2 (s.1 / q) < (s.1 + s.2 - 1) / q + 1 then (st.1 + ((s.1 + s.2 - 1) / q + 1 - max st.2 (s.1 / q)),(s.1 + s.2 - 1) / q + 1) else st
def tbTo (q:Int) (xs:List (Int × Int)):Nat→Int × Int
  | 0=>(0,0)
  | k + 1=>tbStep q (tbTo q xs k) (xs[k]?.getD (0,1))
theorem div_bd (a q:Int) (h0:0 ≤ a) (hq:1 ≤ q):0 ≤ a / q∧a / q ≤ a:=
  ⟨Int.ediv_nonneg h0 (by omega),Int.ediv_le_self _ h0⟩
theorem tb_bd (q:Int) (hq:1 ≤ q) (xs:List (Int × Int)) (h:∀ s ∈ xs,okS s):∀ k,k ≤ xs.length→0 ≤ (tbTo q xs k).1∧(tbTo q xs k).1 ≤ (tbTo q xs k).2∧(tbTo q xs k).2 ≤ 1048576
  | 0,_=>by simp [tbTo]
  | k + 1,hk=>by
    have ih:=tb_bd q hq xs h k (by omega)
    obtain ⟨h1,h2,h3⟩:=h xs[k] (List.getElem_mem _)
    simp only [tbTo,List.getElem?_eq_getElem (show k < xs.length by omega),Option.getD_some]
    have d1:=div_bd (xs[k].1 + xs[k].2 - 1) q (by omega) hq
    have d2:=div_bd xs[k].1 q h1 hq
    unfold tbStep
    split <;> omega
def Row (w:World) (b off:Nat) (xs:List (Int × Int)):Prop:=
  b < w.heap.size∧∀ i (h:i < xs.length),w.cell? ⟨b,off + i * 2,none⟩ = some (.int .i64 xs[i].1)∧w.cell? ⟨b,off + i * 2 + 1,none⟩ = some (.int .i64 xs[i].2)
set_option maxHeartbeats 1000000 in
theorem tablesOf_row (lv q : Int) (hq : 1 ≤ q) (ht : ∀ a w, 0 ≤ a → a ≤ 1048576 → Calls Tryz.prog 134 #[.int .i64 a, .int .i64 lv] w fun e w' => e = .returned (.int .i64 (a / q)) ∧ w' = w)
    (b off cap:Nat) (xs:List (Int × Int)) (hx:∀ s ∈ xs,okS s) (hlen:xs.length ≤ 1048576) (w:World) (hr:Row w b off xs) :
    Calls Tryz.prog 97 #[.slice (some ⟨b,off,none⟩) xs.length cap,.int .i64 lv] w fun e w'=>e = .returned (.int .i64 (tbTo q xs xs.length).1)∧Below w.heap.size w w':=by
  obtain ⟨hbk,hcell⟩:=hr
  have Ht:Hid _:=ht
  have Hc:Hid _:=hcell
  clear ht hcell
  have Hx:Hid _:=hx
  clear hx
  go_enter Tryz.func97,Tryz.ntmps97
  go_wp2
  go_loopw [5,6,13] (fun n f i wr=>∃ k:Nat,k ≤ xs.length∧i = .int .i64 k∧n = .int .i64 (tbTo q xs k).1∧f = .int .i64 (tbTo q xs k).2∧Below w.heap.size w wr) (fun _ _ i _=>xs.length - (intOf i).toNat)
  case atStart=>exact ⟨0,Nat.zero_le _,rfl,rfl,rfl,Below.refl _ _⟩
  case round=>
    obtain ⟨k,hk,rfl,rfl,rfl,hb⟩:=hrel
    have hbd:=tb_bd q hq xs Hx.out k hk
    by_cases hlt:k < xs.length
    · obtain ⟨hc1,hc2⟩:=bcell hb
      obtain ⟨c1,c2⟩:=Hc.out k hlt
      have c1':=(hc1 _ _ hbk).trans c1
      have c2':=(hc1 _ _ hbk).trans c2
      obtain ⟨hp0,hn1,hpn⟩:=Hx.out xs[k] (List.getElem_mem _)
      have hT:tbTo q xs (k + 1) = tbStep q (tbTo q xs k) (xs[k].1,xs[k].2):=by
        simp only [tbTo,List.getElem?_eq_getElem hlt,Option.getD_some]
      clear c1 c2 hc1 hc2
      have HT:Hid _:=hT
      clear hT
      generalize hgp:xs[k].1 = p at *
      generalize hgn:xs[k].2 = n at *
      generalize hst:tbTo q xs k = st at *
      obtain ⟨sn,sf⟩:=st
      clear hgp hgn hst
      have d1:=div_bd (p + n - 1) q (by omega) hq
      have d2:=div_bd p q hp0 hq
      have HA:Hid _:=fun w=>Ht.out p w hp0 (by omega)
      have HB:Hid _:=fun w=>Ht.out (p + n - 1) w (by omega) (by omega)
      clear Ht
      generalize hde:(p + n - 1) / q = e at *
      generalize hdf:p / q = f at *
      have HE:Hid _:=hde
      have HF:Hid _:=hdf
      clear hde hdf
      obtain ⟨hb1,hb2,hb3⟩:=hbd
      obtain ⟨d11,d12⟩:=d1
      obtain ⟨d21,d22⟩:=d2
      have hS:tbStep q (sn,sf) (p,n) = if max sf f < e + 1 then (sn + (e + 1 - max sf f),e + 1) else (sn,sf):=by
        unfold tbStep; simp only [HE.out,HF.out]
      have HS:Hid _:=hS
      clear hS
      go_wp2_with fail
      refine (HA.out _).mono ?_; rintro e w' ⟨rfl,rfl⟩
      go_wp2_with fail
      all_goals
        refine (HB.out _).mono ?_; rintro e w' ⟨rfl,rfl⟩
        go_wp2_with fail
      all_goals
        refine ⟨⟨k + 1,by omega,by go_num,congrArg (Value.int .i64) ?_,congrArg (Value.int .i64) ?_,hb.alloc hb.size _⟩,by simp [intOf]; omega⟩
        · rw [HT.out,HS.out]; split <;> simp only <;> omega
        · rw [HT.out,HS.out]; split <;> simp only <;> omega
    · obtain rfl:k = xs.length:=by omega
      go_wp2
      go_ret
      exact ⟨rfl,hb⟩
theorem Tryz.infoS:(Tryz.prog.info? 86).map (fun i=>(i.zero,i.size,i.bytes)) = some (some (.agg #[.int .i64 0,.int .i64 0]),2,16):=by kernel_rfl
def mayS (s:Int × Int):Bool:=decide (0 ≤ s.1) && decide (0 ≤ s.2) && decide (s.1 + s.2 ≤ 1048576)
theorem spanMayBe_any (p n : Int) (h1 : p ≤ 9223372036854775807) (h2 : n ≤ 9223372036854775807) (w : World) :
    Calls Tryz.prog 93 #[.agg #[.int .i64 p,.int .i64 n]] w fun e w'=>e = .returned (.bool (mayS (p,n)))∧w' = w.alloc (.cells #[.int .i64 p,.int .i64 n] 86):=by
  by_cases c1:0 ≤ p
  · by_cases c2:0 ≤ n
    · have e:mayS (p,n) = decide (p ≤ 1048576 - n):=by rw [Bool.eq_iff_iff]; simp [mayS]; omega
      rw [e]
      go_enter Tryz.func93,Tryz.ntmps93
      go_wp2
      go_ret
      exact ⟨rfl,rfl⟩
    · have e:mayS (p,n) = false:=by simp [mayS,c2]
      rw [e]
      go_enter Tryz.func93,Tryz.ntmps93
      go_wp2
      go_ret
      exact ⟨rfl,rfl⟩
  · have e:mayS (p,n) = false:=by simp [mayS,c1]
    rw [e]
    go_enter Tryz.func93,Tryz.ntmps93
    go_wp2
    go_ret
    exact ⟨rfl,rfl⟩
def flat (ys:List (Int × Int)):List Value:=ys.flatMap fun s=>[.int .i64 s.1,.int .i64 s.2]
def kept (ys:List (Int × Int)):List (Int × Int):=ys.filter fun s=>decide (0 < s.2)
def Srt : Prop := ∀ (base g cap : Nat) (ys : List (Int × Int)) (w : World), w.ownsRow base 86 2 (.slice (some ⟨g, 0, none⟩) ys.length cap) ys.length (flat ys) → ys.length ≤ 1024 →
    Calls Tryz.prog 94 #[.slice (some ⟨g,0,none⟩) ys.length cap,.func (.func 95) #[] #[]] w fun e w'=>e = .returned (.tuple #[])∧∃ zs:List (Int × Int),zs.Perm ys∧zs.Pairwise (fun a b=>a.1 ≤ b.1)∧Below base w w'∧Row w' g 0 zs
def fits (s:Int × Int):Prop:=s.1 ≤ 9223372036854775807∧s.2 ≤ 9223372036854775807
theorem kept_snoc (xs:List (Int × Int)) (k:Nat) (h:k < xs.length):kept (xs.take (k + 1)) = if 0 < xs[k].2 then kept (xs.take k) ++ [xs[k]] else kept (xs.take k):=by
  unfold kept
  rw [List.take_succ_eq_append_getElem h,List.filter_append]
  by_cases c:0 < xs[k].2 <;> simp [c]
theorem kept_le (xs:List (Int × Int)) (k:Nat):(kept (xs.take k)).length ≤ k:=by
  unfold kept
  exact Nat.le_trans (List.length_filter_le _ _) (by simp; omega)
theorem two_at (wr:World) (o1 o2:Obj) (a b:Value):∀ j u,[a,b][j]? = some u→(((wr.alloc o1).alloc o2).alloc (.cells #[a,b] 86)).cell? ((⟨wr.heap.size + 1 + 1,0,none⟩:Addr).add j) = some u:=by
  have h:=cell_two_new ((wr.alloc o1).alloc o2) a b 86
  have e:((wr.alloc o1).alloc o2).heap.size = wr.heap.size + 1 + 1:=by simp
  rw [e] at h
  exact h
theorem Tables_many (ao : Option Addr) (cap n : Nat) (hn : 1024 < n) (hm : n ≤ maxLen) (w : World) :
    Calls Tryz.prog 55 #[.slice ao n cap] w fun e w'=>e = .returned (.tuple #[.int .i64 0,.int .i64 3])∧w' = w:=by
  unfold maxLen at hm
  go_enter Tryz.func55,Tryz.ntmps55
  go_wp2_with fail
  go_ret2
  exact ⟨rfl,rfl⟩
def tot (q:Int) (zs:List (Int × Int)):Int:=(tbTo q zs zs.length).1
theorem tot_bd (q:Int) (hq:1 ≤ q) (zs:List (Int × Int)) (h:∀ s ∈ zs,okS s):0 ≤ tot q zs∧tot q zs ≤ 1048576:=by
  have:=tb_bd q hq zs h zs.length (Nat.le_refl _)
  unfold tot; omega
def sumT (zs:List (Int × Int)):Nat→Int
  | 0=>1
  | 1=>1 + tot 32 zs
  | 2=>1 + tot 32 zs + tot 1024 zs
  | _=>1 + tot 32 zs + tot 1024 zs + tot 32768 zs
theorem Row.below {w w' : World} {b off:Nat} {xs:List (Int × Int)} (h:Row w b off xs) (hb:Below w.heap.size w w'):Row w' b off xs:=
  ⟨Nat.lt_of_lt_of_le h.1 hb.size,fun i hi=>⟨((bcell hb).1 _ _ h.1).trans (h.2 i hi).1,((bcell hb).1 _ _ h.1).trans (h.2 i hi).2⟩⟩
theorem ok_kept {xs zs:List (Int × Int)} (hv:∀ s ∈ xs,mayS s = true) (hp:zs.Perm (kept xs)):∀ s ∈ zs,okS s:=by
  intro s hs
  have h1:=hp.subset hs
  unfold kept at h1
  rw [List.mem_filter] at h1
  have h2:=hv s h1.1
  have h3:=h1.2
  simp [mayS] at h2 h3
  exact ⟨h2.1.1,by omega,h2.2⟩
set_option maxHeartbeats 2000000 in
theorem Tables_all (Hs : Srt) (b off cap : Nat) (xs : List (Int × Int)) (hx : ∀ s ∈ xs, fits s) (hn : xs.length ≤ 1024) (ao : Option Addr) (w : World) (hr : xs = [] ∨ ao = some ⟨b, off, none⟩ ∧ Row w b off xs) (hv : ∀ s ∈ xs, mayS s = true) :
    Calls Tryz.prog 55 #[.slice ao xs.length cap] w fun e w'=>∃ zs:List (Int × Int),zs.Perm (kept xs)∧zs.Pairwise (fun a b=>a.1 ≤ b.1)∧e = .returned (.tuple #[.int .i64 (1 + tot 32 zs + tot 1024 zs + tot 32768 zs),.int .i64 0])∧Below w.heap.size w w':=by
  obtain ⟨i0,hi,hz0,hz1,hz2⟩:=info_parts Tryz.infoS
  have Hx:Hid _:=hx
  have Hr:Hid _:=hr
  have Hv:Hid _:=hv
  clear hx hr hv
  go_enter Tryz.func55,Tryz.ntmps55
  go_wp2_with (at_make; refine wpList_make_own _ rfl _ _ 87 rfl w.heap.size 86 i0 (.agg #[.int .i64 0,.int .i64 0]) 2 Tryz.underlying87 hi hz0 hz1 _ _ _ xs.length rfl rfl (by omega) ?b2 ?b3 (Nat.le_refl _) ?_)
  case b2=>rw [hz2]; omega
  case b3=>unfold maxLen; omega
  intro w0 hown0 hgrow0
  go_wp2
  go_loopw [4,17] (fun v i wr=>∃ k:Nat,k ≤ xs.length∧i = .int .i64 k∧v = .slice (some ⟨w.heap.size,0,none⟩) (kept (xs.take k)).length xs.length∧wr.ownsRow w.heap.size 86 2 (.slice (some ⟨w.heap.size,0,none⟩) (kept (xs.take k)).length xs.length) (kept (xs.take k)).length (flat (kept (xs.take k)))∧Below w.heap.size w wr) (fun _ i _=>xs.length - (intOf i).toNat)
  case atStart=>exact ⟨0,Nat.zero_le _,rfl,rfl,hown0,(Below.refl _ _).grown hgrow0 (Nat.le_refl _) (fun k h=>by cases h)⟩
  case round=>
    obtain ⟨k,hk,rfl,rfl,hown,hb⟩:=hrel
    have hkl:=kept_le xs k
    by_cases hlt:k < xs.length
    · obtain ⟨rfl,hbk,hc⟩:=(Hr.out).resolve_left (fun h=>by rw [h] at hlt; simp at hlt)
      obtain ⟨c1,c2⟩:=hc k hlt
      obtain ⟨hc1,hc2⟩:=bcell hb
      have c1':=(hc1 _ _ hbk).trans c1
      have c2':=(hc1 _ _ hbk).trans c2
      obtain ⟨f1,f2⟩:=Hx.out xs[k] (List.getElem_mem _)
      have hm:mayS (xs[k].1,xs[k].2) = true:=Hv.out xs[k] (List.getElem_mem _)
      have HK:Hid _:=kept_snoc xs k hlt
      clear hc1 hc2 c1 c2 hc
      generalize hgp:xs[k].1 = p at *
      generalize hgn:xs[k].2 = n at *
      have HP:Hid _:=hgp
      have HN:Hid _:=hgn
      clear hgp hgn
      by_cases hpos:0 < n
      · go_wp2_with (first
          | (go_at_call 93; refine (spanMayBe_any _ _ f1 f2 _).mono ?_; rintro e w' ⟨rfl,rfl⟩)
          | (at_builtin; refine wpList_append_fits _ rfl (.tmp 27) (.tmp 29) 87 rfl w.heap.size 86 i0 2 Tryz.underlying87 hi hz1 w.heap.size _ xs.length _ rfl (((hown.alloc _).alloc _).alloc _) ⟨wr.heap.size + 1 + 1,0,none⟩ 1 1 [.int .i64 p,.int .i64 n] rfl rfl (two_at wr _ _ _ _) (by intro u hu; simp at hu; rcases hu with rfl | rfl <;> rfl) (by omega) ?_; intro w1 hown1 hgrow1))
        have hE:kept (xs.take (k + 1)) = kept (xs.take k) ++ [(p,n)]:=by rw [HK.out,if_pos hpos, ← HP.out, ← HN.out]
        go_roundw
        case rel=>exact ⟨k + 1,by omega,by go_num,by rw [hE]; simp,by rw [hE]; simpa [flat] using hown1,(((hb.alloc hb.size _).alloc (by simp; have:=hb.size; omega) _).alloc (by simp; have:=hb.size; omega) _).grown hgrow1 (by simp; have:=hb.size; omega) (fun k hk=>by cases hk; exact Nat.le_refl _)⟩
        case measure=>simp [intOf]; omega
      · go_wp2_with (go_at_call 93; refine (spanMayBe_any _ _ f1 f2 _).mono ?_; rintro e w' ⟨rfl,rfl⟩)
        have hE:kept (xs.take (k + 1)) = kept (xs.take k):=by rw [HK.out,if_neg (by omega)]
        go_roundw
        case rel=>exact ⟨k + 1,by omega,by go_num,by rw [hE],by rw [hE]; exact (hown.alloc _).alloc _,(hb.alloc hb.size _).alloc (by simp; have:=hb.size; omega) _⟩
        case measure=>simp [intOf]; omega
    · obtain rfl:k = xs.length:=by omega
      rw [List.take_length] at hown ⊢
      have hkl2:(kept xs).length ≤ 1024:=Nat.le_trans (List.length_filter_le _ _) hn
      clear hown0 hgrow0 hkl hlt hk
      go_wp2_with fail
      refine (Hs w.heap.size w.heap.size xs.length (kept xs) wr hown hkl2).mono ?_
      rintro e w1 ⟨rfl,zs,hp,hso,hb1,hrow⟩
      have hok:=ok_kept Hv.out hp
      obtain ⟨p1,p2⟩:=tot_bd 32 (by omega) zs hok
      obtain ⟨p3,p4⟩:=tot_bd 1024 (by omega) zs hok
      obtain ⟨p5,p6⟩:=tot_bd 32768 (by omega) zs hok
      have hlz:zs.length ≤ 1048576:=by rw [hp.length_eq]; omega
      have ht0:=fun wx (hbx:Below w1.heap.size w1 wx)=>tablesOf_row 0 32 (by omega) (fun a w h h'=>tableOf_0 a h h' w) w.heap.size 0 xs.length zs hok hlz wx (hrow.below hbx)
      have ht1:=fun wx (hbx:Below w1.heap.size w1 wx)=>tablesOf_row 1 1024 (by omega) (fun a w h h'=>tableOf_1 a h h' w) w.heap.size 0 xs.length zs hok hlz wx (hrow.below hbx)
      have ht2:=fun wx (hbx:Below w1.heap.size w1 wx)=>tablesOf_row 2 32768 (by omega) (fun a w h h'=>tableOf_2 a h h' w) w.heap.size 0 xs.length zs hok hlz wx (hrow.below hbx)
      change ∀ wx,Below w1.heap.size w1 wx→Calls _ _ _ _ (fun e w'=>e = .returned (.int .i64 (tot 32 zs))∧_) at ht0
      change ∀ wx,Below w1.heap.size w1 wx→Calls _ _ _ _ (fun e w'=>e = .returned (.int .i64 (tot 1024 zs))∧_) at ht1
      change ∀ wx,Below w1.heap.size w1 wx→Calls _ _ _ _ (fun e w'=>e = .returned (.int .i64 (tot 32768 zs))∧_) at ht2
      rw [hp.length_eq] at ht0 ht1 ht2
      have H0:Hid _:=ht0
      have H1:Hid _:=ht1
      have H2:Hid _:=ht2
      have HP:Hid _:=hp
      have HB:Hid _:=(hb.trans hb1)
      clear ht0 ht1 ht2 hp hok hlz hrow hown hb hb1
      go_wp2
      go_loopw [7,8] (fun n l w2=>∃ j:Nat,j ≤ 3∧l = .int .i64 j∧n = .int .i64 (sumT zs j)∧Below w1.heap.size w1 w2) (fun _ l _=>3 - (intOf l).toNat)
      case atStart=>exact ⟨0,by omega,rfl,rfl,Below.refl _ _⟩
      case round=>
        obtain ⟨j,hj,rfl,rfl,hb2⟩:=hrel
        rcases (show j = 0 ∨ j = 1 ∨ j = 2 ∨ j = 3 by omega) with rfl | rfl | rfl | rfl
        · have hs:sumT zs 0 = 1:=rfl
          go_wp2_with fail
          refine (H0.out _ hb2).mono ?_
          rintro e w3 ⟨rfl,hb3⟩
          go_wp2_with fail
          go_roundw
          case rel=>exact ⟨1,by omega,rfl,rfl,hb2.trans (hb3.mono hb2.size)⟩
          case measure=>simp [intOf]
        · have hs:sumT zs 1 = 1 + tot 32 zs:=rfl
          go_wp2_with fail
          refine (H1.out _ hb2).mono ?_
          rintro e w3 ⟨rfl,hb3⟩
          go_wp2_with fail
          go_roundw
          case rel=>exact ⟨2,by omega,rfl,rfl,hb2.trans (hb3.mono hb2.size)⟩
          case measure=>simp [intOf]
        · have hs:sumT zs 2 = 1 + tot 32 zs + tot 1024 zs:=rfl
          go_wp2_with fail
          refine (H2.out _ hb2).mono ?_
          rintro e w3 ⟨rfl,hb3⟩
          go_wp2_with fail
          go_roundw
          case rel=>exact ⟨3,by omega,rfl,rfl,hb2.trans (hb3.mono hb2.size)⟩
          case measure=>simp [intOf]
        · go_wp2
          go_ret2
          exact ⟨zs,HP.out,hso,rfl,HB.out.trans (hb2.mono (HB.out.size))⟩
theorem may_snoc {xs:List (Int × Int)} {k:Nat} (h:k < xs.length) (hp:∀ s ∈ xs.take k,mayS s = true) (hm:mayS (xs[k].1,xs[k].2) = true):∀ s ∈ xs.take (k + 1),mayS s = true:=by
  rw [List.take_succ_eq_append_getElem h]
  intro s hs
  rw [List.mem_append] at hs
  rcases hs with hs | hs
  · exact hp s hs
  · rw [List.mem_singleton] at hs; rw [hs]; exact hm
set_option maxHeartbeats 2000000 in
theorem Tables_bad (b off cap : Nat) (xs : List (Int × Int)) (hx : ∀ s ∈ xs, fits s) (hn : xs.length ≤ 1024) (ao : Option Addr) (w : World) (hr : xs = [] ∨ ao = some ⟨b, off, none⟩ ∧ Row w b off xs) (hv : ∃ s ∈ xs, mayS s = false) :
    Calls Tryz.prog 55 #[.slice ao xs.length cap] w fun e w'=>e = .returned (.tuple #[.int .i64 0,.int .i64 2])∧Below w.heap.size w w':=by
  obtain ⟨i0,hi,hz0,hz1,hz2⟩:=info_parts Tryz.infoS
  have Hx:Hid _:=hx
  have Hr:Hid _:=hr
  have Hv:Hid _:=hv
  clear hx hr hv
  go_enter Tryz.func55,Tryz.ntmps55
  go_wp2_with (at_make; refine wpList_make_own _ rfl _ _ 87 rfl w.heap.size 86 i0 (.agg #[.int .i64 0,.int .i64 0]) 2 Tryz.underlying87 hi hz0 hz1 _ _ _ xs.length rfl rfl (by omega) ?b2 ?b3 (Nat.le_refl _) ?_)
  case b2=>rw [hz2]; omega
  case b3=>unfold maxLen; omega
  intro w0 hown0 hgrow0
  go_wp2
  go_loopw [4,17] (fun v i wr=>∃ k:Nat,k ≤ xs.length∧i = .int .i64 k∧v = .slice (some ⟨w.heap.size,0,none⟩) (kept (xs.take k)).length xs.length∧wr.ownsRow w.heap.size 86 2 (.slice (some ⟨w.heap.size,0,none⟩) (kept (xs.take k)).length xs.length) (kept (xs.take k)).length (flat (kept (xs.take k)))∧Below w.heap.size w wr∧Hid (∀ s ∈ xs.take k,mayS s = true)) (fun _ i _=>xs.length - (intOf i).toNat)
  case atStart=>exact ⟨0,Nat.zero_le _,rfl,rfl,hown0,(Below.refl _ _).grown hgrow0 (Nat.le_refl _) (fun k h=>by cases h),fun s hs=>by simp at hs⟩
  case round=>
    obtain ⟨k,hk,rfl,rfl,hown,hb,HM⟩:=hrel
    have hkl:=kept_le xs k
    by_cases hlt:k < xs.length
    · obtain ⟨rfl,hbk,hc⟩:=(Hr.out).resolve_left (fun h=>by rw [h] at hlt; simp at hlt)
      obtain ⟨c1,c2⟩:=hc k hlt
      obtain ⟨hc1,hc2⟩:=bcell hb
      have c1':=(hc1 _ _ hbk).trans c1
      have c2':=(hc1 _ _ hbk).trans c2
      obtain ⟨f1,f2⟩:=Hx.out xs[k] (List.getElem_mem _)
      have HS:Hid (mayS (xs[k].1,xs[k].2) = true→∀ s ∈ xs.take (k + 1),mayS s = true):=fun hm=>may_snoc hlt HM.out hm
      clear HM
      have HK:Hid _:=kept_snoc xs k hlt
      clear hc1 hc2 c1 c2 hc
      generalize hgp:xs[k].1 = p at *
      generalize hgn:xs[k].2 = n at *
      have HP:Hid _:=hgp
      have HN:Hid _:=hgn
      clear hgp hgn
      cases hm:mayS (p,n) with
      | true=>
        by_cases hpos:0 < n
        · go_wp2_with (first
            | (go_at_call 93; refine (spanMayBe_any _ _ f1 f2 _).mono ?_; rintro e w' ⟨rfl,rfl⟩)
            | (at_builtin; refine wpList_append_fits _ rfl (.tmp 27) (.tmp 29) 87 rfl w.heap.size 86 i0 2 Tryz.underlying87 hi hz1 w.heap.size _ xs.length _ rfl (((hown.alloc _).alloc _).alloc _) ⟨wr.heap.size + 1 + 1,0,none⟩ 1 1 [.int .i64 p,.int .i64 n] rfl rfl (two_at wr _ _ _ _) (by intro u hu; simp at hu; rcases hu with rfl | rfl <;> rfl) (by omega) ?_; intro w1 hown1 hgrow1))
          have hE:kept (xs.take (k + 1)) = kept (xs.take k) ++ [(p,n)]:=by rw [HK.out,if_pos hpos, ← HP.out, ← HN.out]
          go_roundw
          case rel=>exact ⟨k + 1,by omega,by go_num,by rw [hE]; simp,by rw [hE]; simpa [flat] using hown1,(((hb.alloc hb.size _).alloc (by simp; have:=hb.size; omega) _).alloc (by simp; have:=hb.size; omega) _).grown hgrow1 (by simp; have:=hb.size; omega) (fun k hk=>by cases hk; exact Nat.le_refl _),HS.out hm⟩
          case measure=>simp [intOf]; omega
        · go_wp2_with (go_at_call 93; refine (spanMayBe_any _ _ f1 f2 _).mono ?_; rintro e w' ⟨rfl,rfl⟩)
          have hE:kept (xs.take (k + 1)) = kept (xs.take k):=by rw [HK.out,if_neg (by omega)]
          go_roundw
          case rel=>exact ⟨k + 1,by omega,by go_num,by rw [hE],by rw [hE]; exact (hown.alloc _).alloc _,(hb.alloc hb.size _).alloc (by simp; have:=hb.size; omega) _,HS.out hm⟩
          case measure=>simp [intOf]; omega
      | false=>
        go_wp2_with (go_at_call 93; refine (spanMayBe_any _ _ f1 f2 _).mono ?_; rintro e w' ⟨rfl,rfl⟩)
        go_ret2
        exact ⟨rfl,(hb.alloc hb.size _).alloc (by simp; have:=hb.size; omega) _⟩
    · obtain rfl:k = xs.length:=by omega
      obtain ⟨s,hs,hf⟩:=Hv.out
      have:=HM.out s (by rw [List.take_length]; exact hs)
      rw [hf] at this
      cases this
end Go.Proofs.YtgljdbabagdhlaaGreat.A
namespace Go.Proofs.YtgljdbabagdhlaaGreat.A
open Go.RowKit
set_option linter.unusedVariables false
set_option maxRecDepth 8192
def cn (p:Nat→Bool):Nat→Nat
  | 0=>0
  | M + 1=>cn p M + (if p M = true then 1 else 0)
theorem cn_congr {p q:Nat→Bool}:∀ M,(∀ k,k < M→p k = q k)→cn p M = cn q M
  | 0,_=>rfl
  | M + 1,h=>by simp only [cn]; rw [cn_congr M (fun k hk=>h k (by omega)),h M (by omega)]
theorem cn_or (p q:Nat→Bool):∀ M,cn (fun k=>p k || q k) M = cn p M + cn (fun k=>!p k && q k) M
  | 0=>rfl
  | M + 1=>by
    have ih:=cn_or p q M
    simp only [cn]
    rw [ih]
    by_cases hp:p M = true <;> by_cases hq:q M = true <;> simp [hp,hq] <;> omega
theorem cn_iv (a b:Nat) (h:a ≤ b):∀ M,cn (fun k=>decide (a ≤ k) && decide (k < b)) M = min b M - min a M
  | 0=>by simp [cn]
  | M + 1=>by
    have ih:=cn_iv a b h M
    simp only [cn]
    rw [ih]
    by_cases c1:a ≤ M <;> by_cases c2:M < b <;> simp [c1,c2] <;> omega
theorem cn_le (p:Nat→Bool):∀ M,cn p M ≤ M
  | 0=>Nat.le_refl _
  | M + 1=>by have ih:=cn_le p M; simp only [cn]; split <;> omega
def ned (q:Int) (s:Int × Int) (k:Nat):Bool:=decide (0 < s.2) && decide (s.1 / q ≤ (k:Int)) && decide ((k:Int) ≤ (s.1 + s.2 - 1) / q)
def cov (q:Int) (xs:List (Int × Int)) (k:Nat):Bool:=xs.any fun s=>ned q s k
theorem cov_iff (q:Int) (xs:List (Int × Int)) (k:Nat):cov q xs k = true ↔ ∃ s ∈ xs,ned q s k = true:=by simp [cov]
theorem ned_iff (q:Int) (s:Int × Int) (k:Nat):ned q s k = true ↔ 0 < s.2∧s.1 / q ≤ (k:Int)∧(k:Int) ≤ (s.1 + s.2 - 1) / q:=by
  simp [ned,and_assoc]
theorem cov_eq {q:Int} {xs ys:List (Int × Int)} (h:∀ s,0 < s.2→(s ∈ xs ↔ s ∈ ys)) (k:Nat):cov q xs k = cov q ys k:=by
  rw [Bool.eq_iff_iff,cov_iff,cov_iff]
  constructor
  · rintro ⟨s,hs,hn⟩; exact ⟨s,(h s ((ned_iff q s k).1 hn).1).1 hs,hn⟩
  · rintro ⟨s,hs,hn⟩; exact ⟨s,(h s ((ned_iff q s k).1 hn).1).2 hs,hn⟩
theorem cov_snoc (q:Int) (xs:List (Int × Int)) (s:Int × Int) (k:Nat):cov q (xs ++ [s]) k = (cov q xs k || ned q s k):=by simp [cov]
def Inv (q:Int) (M:Nat) (ys:List (Int × Int)) (st:Int × Int):Prop:=
  st.1 = cn (cov q ys) M∧(∀ k:Nat,cov q ys k = true→(k:Int) < st.2)∧(st.2 = 0 ∨ ∃ s ∈ ys,0 < s.2∧st.2 = (s.1 + s.2 - 1) / q + 1)
theorem inv_step (q:Int) (hq:1 ≤ q) (M:Nat) (hM:1048576 ≤ q * M) (ys:List (Int × Int)) (st s:Int × Int) (hs:okS s) (hok:∀ y ∈ ys,okS y) (hle:∀ y ∈ ys,y.1 ≤ s.1) (h:Inv q M ys st):Inv q M (ys ++ [s]) (tbStep q st s):=by
  obtain ⟨i1,i2,i3⟩:=h
  obtain ⟨s0,s1,s2⟩:=hs
  have hf0:0 ≤ s.1 / q:=Int.ediv_nonneg s0 (by omega)
  have hfe:s.1 / q ≤ (s.1 + s.2 - 1) / q:=Int.ediv_le_ediv (by omega) (by omega)
  have heM:(s.1 + s.2 - 1) / q < M:=by
    apply Int.ediv_lt_of_lt_mul (by omega)
    have:(M:Int) * q = q * M:=Int.mul_comm _ _
    omega
  have hst0:0 ≤ st.2:=by
    rcases i3 with h | ⟨y,hy,hp,h⟩
    · omega
    · obtain ⟨y0,y1,y2⟩:=hok y hy
      have:=(div_bd (y.1 + y.2 - 1) q (by omega) hq).1
      omega
  generalize hF:s.1 / q = f at *
  generalize hE:(s.1 + s.2 - 1) / q = e at *
  -- inside the span's own numbers,what was needed before lies just below 'fresh'
  have key:∀ k:Nat,f ≤ (k:Int)→(k:Int) ≤ e→(cov q ys k = true ↔ (k:Int) < st.2):=by
    intro k h1 h2
    refine ⟨i2 k,fun h3 => ?_⟩
    rcases i3 with h | ⟨y,hy,hp,h⟩
    · omega
    · refine (cov_iff q ys k).2 ⟨y,hy,(ned_iff q y k).2 ⟨hp, ?_,by omega⟩⟩
      have:y.1 / q ≤ s.1 / q:=Int.ediv_le_ediv (by omega) (hle y hy)
      omega
  have hn:∀ k:Nat,ned q s k = true ↔ f ≤ (k:Int)∧(k:Int) ≤ e:=by
    intro k
    rw [ned_iff,hF,hE]
    exact ⟨fun h=>h.2,fun h=>⟨by omega,h⟩⟩
  have hcn:cn (cov q (ys ++ [s])) M = cn (cov q ys) M + cn (fun k=>!cov q ys k && ned q s k) M:=by
    rw [cn_congr (q:=fun k=>cov q ys k || ned q s k) M (fun k _=>cov_snoc q ys s k),cn_or]
  unfold tbStep
  rw [hF,hE]
  split
  · rename_i hlt
    refine ⟨?_, ?_,Or.inr ⟨s,by simp,by omega,by rw [hE]⟩⟩
    · have hc:cn (fun k=>!cov q ys k && ned q s k) M = cn (fun k=>decide ((max st.2 f).toNat ≤ k) && decide (k < (e + 1).toNat)) M:=by
        refine cn_congr M (fun k _ => ?_)
        rw [Bool.eq_iff_iff]
        simp only [Bool.and_eq_true,Bool.not_eq_true',decide_eq_true_eq,hn]
        constructor
        · rintro ⟨h1,h2,h3⟩
          have:=key k h2 h3
          rw [h1] at this
          simp at this
          omega
        · rintro ⟨h1,h2⟩
          have h3:f ≤ (k:Int):=by omega
          have h4:(k:Int) ≤ e:=by omega
          refine ⟨?_,h3,h4⟩
          have:=key k h3 h4
          cases hc:cov q ys k
          · rfl
          · rw [hc] at this; simp at this; omega
      rw [cn_iv _ _ (by omega)] at hc
      show st.1 + (e + 1 - max st.2 f) = _
      rw [hcn,hc,i1]
      omega
    · intro k hk
      show (k:Int) < e + 1
      rw [cov_snoc,Bool.or_eq_true] at hk
      rcases hk with hk | hk
      · have:=i2 k hk; omega
      · have:=(hn k).1 hk; omega
  · rename_i hge
    have hsame:∀ k:Nat,cov q (ys ++ [s]) k = cov q ys k:=by
      intro k
      rw [cov_snoc]
      cases hd:ned q s k
      · simp
      · have h1:=(hn k).1 hd
        have:=(key k h1.1 h1.2).2 (by omega)
        rw [this]; rfl
    refine ⟨?_,fun k hk=>i2 k (by rw [← hsame k]; exact hk), ?_⟩
    · rw [i1,cn_congr M (fun k _=>hsame k)]
    · rcases i3 with h | ⟨y,hy,hp,h⟩
      · exact Or.inl h
      · exact Or.inr ⟨y,by simp [hy],hp,h⟩
theorem inv_to (q:Int) (hq:1 ≤ q) (M:Nat) (hM:1048576 ≤ q * M) (zs:List (Int × Int)) (hok:∀ s ∈ zs,okS s) (hso:zs.Pairwise (fun a b=>a.1 ≤ b.1)):∀ j,j ≤ zs.length→Inv q M (zs.take j) (tbTo q zs j)
  | 0,_=>by
    have h0:∀ M,cn (fun _=>false) M = 0:=fun M=>by induction M with | zero=>rfl | succ M ih=>simp [cn,ih]
    refine ⟨?_, ?_,Or.inl rfl⟩
    · simp only [tbTo,List.take_zero]
      rw [cn_congr (q:=fun _=>false) M (fun k _=>by simp [cov]),h0]
      rfl
    · intro k hk; simp [cov] at hk
  | j + 1,hj=>by
    have ih:=inv_to q hq M hM zs hok hso j (by omega)
    have hlt:j < zs.length:=by omega
    have hg:zs[j]?.getD (0,1) = zs[j]:=by rw [List.getElem?_eq_getElem hlt]; rfl
    simp only [tbTo,hg]
    rw [List.take_succ_eq_append_getElem hlt]
    refine inv_step q hq M hM _ _ _ (hok _ (List.getElem_mem _)) (fun y hy=>hok y (List.mem_of_mem_take hy)) (fun y hy => ?_) ih
    rw [List.pairwise_iff_getElem] at hso
    obtain ⟨i,hi,rfl⟩:=List.getElem_of_mem hy
    rw [List.getElem_take]
    simp at hi
    exact hso i j (by omega) hlt (by omega)
theorem tot_cn (q:Int) (hq:1 ≤ q) (M:Nat) (hM:1048576 ≤ q * M) {xs zs:List (Int × Int)} (hv:∀ s ∈ xs,mayS s = true) (hp:zs.Perm (kept xs)) (hso:zs.Pairwise (fun a b=>a.1 ≤ b.1)):tot q zs = cn (cov q xs) M:=by
  have h:=(inv_to q hq M hM zs (ok_kept hv hp) hso zs.length (Nat.le_refl _)).1
  rw [List.take_length] at h
  unfold tot
  rw [h,cn_congr M (fun k _=>cov_eq (ys:=xs) (fun s hs => ?_) k)]
  rw [hp.mem_iff]
  simp [kept,hs]
def total (xs:List (Int × Int)):Nat:=1 + cn (cov 32 xs) 32768 + cn (cov 1024 xs) 1024 + cn (cov 32768 xs) 32
theorem total_bd (xs:List (Int × Int)):1 ≤ total xs∧total xs ≤ 33825:=by
  have h1:=cn_le (cov 32 xs) 32768
  have h2:=cn_le (cov 1024 xs) 1024
  have h3:=cn_le (cov 32768 xs) 32
  unfold total; omega
theorem Tables_val (Hs : Srt) (b off cap : Nat) (xs : List (Int × Int)) (hx : ∀ s ∈ xs, fits s) (hn : xs.length ≤ 1024) (ao : Option Addr) (w : World) (hr : xs = [] ∨ ao = some ⟨b, off, none⟩ ∧ Row w b off xs) (hv : ∀ s ∈ xs, mayS s = true) :
    Calls Tryz.prog 55 #[.slice ao xs.length cap] w fun e w'=>e = .returned (.tuple #[.int .i64 (total xs:Int),.int .i64 0])∧Below w.heap.size w w':=by
  refine (Tables_all Hs b off cap xs hx hn ao w hr hv).mono ?_
  rintro e w' ⟨zs,hp,hso,rfl,hb⟩
  rw [tot_cn 32 (by omega) 32768 (by omega) hv hp hso,tot_cn 1024 (by omega) 1024 (by omega) hv hp hso,tot_cn 32768 (by omega) 32 (by omega) hv hp hso]
  refine ⟨?_,hb⟩
  have e:(1 + (cn (cov 32 xs) 32768:Int) + (cn (cov 1024 xs) 1024:Int) + (cn (cov 32768 xs) 32:Int)) = (total xs:Int):=by unfold total; omega
  rw [e]
end Go.Proofs.YtgljdbabagdhlaaGreat.A
