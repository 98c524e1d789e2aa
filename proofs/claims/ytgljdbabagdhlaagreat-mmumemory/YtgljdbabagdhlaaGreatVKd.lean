/- What colour's functions of numbers and the reference's give back, each for every number that it may be handed; no condition but the ranges that each theorem names. -/
import Derived.Test.YtgljdbabagdhlaaGreatRows
import Derived.WalkKit
import Derived.ProofKit
import Derived.OpenShut
import Derived.WalkSpells
import Derived.WalkLawsBesides
import Derived.Laws.BitsAllLaws
import Derived.Deep.QuietTactic
import Derived.BigQuiet
namespace Go.Proofs.YtgljdbabagdhlaaGreat.K
open Go.ChangeShapes Go.WideShapes Go.ChangeAt Go.RowKit
set_option linter.unusedVariables false
theorem own:ownKnob Tryz.prog.godebug = none:=by kernel_rfl
theorem ret_bool {a b:Bool} (h:a = b):Ending.returned (.bool a) = .returned (.bool b):=by rw [h]
def inB (n a b:Int):Bool:=decide (a ≤ n) && decide (n ≤ b)
theorem inB_t {n a b:Int} (h:a ≤ n) (h' : n ≤ b):inB n a b = true:=by simp [inB,h,h']
def Two (a e:Int) (w:World) (x:Ending) (w' : World):Prop:=x = .returned (.tuple #[.int .i64 a,.int .i64 e])∧w' = w
theorem frameMayBe_any (a:Int) (w:World):Calls Tryz.prog 152 #[.int .i64 a] w fun e w'=>e = .returned (.bool (inB a 0 4095))∧w' = w:=by
  go_enter Tryz.func152,Tryz.ntmps152
  go_wp2
  all_goals (go_ret; exact ⟨ret_bool (by rw [Bool.eq_iff_iff]; simp [inB]; omega),rfl⟩)
theorem framesMayBe_any (a:Int) (w:World):Calls Tryz.prog 88 #[.int .i64 a] w fun e w'=>e = .returned (.bool (inB a 1 4096))∧w' = w:=by
  go_enter Tryz.func88,Tryz.ntmps88
  go_wp2
  all_goals (go_ret; exact ⟨ret_bool (by rw [Bool.eq_iff_iff]; simp [inB]; omega),rfl⟩)
theorem coloursMayBe_any (a:Int) (w:World):Calls Tryz.prog 121 #[.int .i64 a] w fun e w'=>e = .returned (.bool (inB a 1 16))∧w' = w:=by
  go_enter Tryz.func121,Tryz.ntmps121
  go_wp2
  all_goals (go_ret; exact ⟨ret_bool (by rw [Bool.eq_iff_iff]; simp [inB]; omega),rfl⟩)
def cm (c n:Int):Bool:=inB n 1 16 && inB c 0 (n - 1)
theorem colourMayBe_any (c n:Int) (w:World):Calls Tryz.prog 89 #[.int .i64 c,.int .i64 n] w fun e w'=>e = .returned (.bool (cm c n))∧w' = w:=by
  cases h:inB n 1 16
  · go_enter Tryz.func89,Tryz.ntmps89
    go_wp2_with (go_at_call 121; refine (coloursMayBe_any _ _).mono ?_; rintro e w' ⟨rfl,rfl⟩)
    all_goals (go_ret; exact ⟨ret_bool (by simp [cm,h]),rfl⟩)
  · go_enter Tryz.func89,Tryz.ntmps89
    go_wp2_with (go_at_call 121; refine (coloursMayBe_any _ _).mono ?_; rintro e w' ⟨rfl,rfl⟩)
    all_goals (go_ret; exact ⟨ret_bool (by rw [Bool.eq_iff_iff]; simp [cm,h]; simp [inB]; omega),rfl⟩)
theorem Of_ok (x n:Int) (h0:0 ≤ x) (h1:x ≤ 4095) (h2:1 ≤ n) (h3:n ≤ 16) (w:World):Calls Tryz.prog 123 #[.int .i64 x,.int .i64 n] w (Two (x % n) 0 w):=by
  have ha:=inB_t h0 h1
  have hb:=inB_t h2 h3
  have hm:x.tmod n = x % n:=Int.tmod_eq_emod_of_nonneg h0
  have k0:=Int.emod_nonneg x (show n ≠ 0 by omega)
  have k1:=Int.emod_lt_of_pos x (show 0 < n by omega)
  have hn:¬ n = 0:=by omega
  go_enter Tryz.func123,Tryz.ntmps123
  go_wp2_with (first | (go_at_call 152; refine (frameMayBe_any _ _).mono ?_; rintro e w' ⟨rfl,rfl⟩) | (go_at_call 121; refine (coloursMayBe_any _ _).mono ?_; rintro e w' ⟨rfl,rfl⟩))
  go_ret2
  exact ⟨rfl,rfl⟩
theorem Index_ok (x n:Int) (h0:0 ≤ x) (h1:x ≤ 4095) (h2:1 ≤ n) (h3:n ≤ 16) (w:World):Calls Tryz.prog 124 #[.int .i64 x,.int .i64 n] w (Two (x / n) 0 w):=by
  have ha:=inB_t h0 h1
  have hb:=inB_t h2 h3
  have hm:x.tdiv n = x / n:=Int.tdiv_eq_ediv_of_nonneg h0
  have k0:0 ≤ x / n:=Int.ediv_nonneg h0 (by omega)
  have k1:x / n ≤ x:=Int.ediv_le_self n h0
  have hn:¬ n = 0:=by omega
  go_enter Tryz.func124,Tryz.ntmps124
  go_wp2_with (first | (go_at_call 152; refine (frameMayBe_any _ _).mono ?_; rintro e w' ⟨rfl,rfl⟩) | (go_at_call 121; refine (coloursMayBe_any _ _).mono ?_; rintro e w' ⟨rfl,rfl⟩))
  go_ret2
  exact ⟨rfl,rfl⟩
def fo (c i n:Int):Prop:=(1 ≤ n∧n ≤ 16)∧(0 ≤ c∧c < n)∧0 ≤ i∧i * n + c ≤ 4095
theorem prod_le (i n:Int) (h0:0 ≤ i) (h1:i ≤ 4095) (h2:1 ≤ n) (h3:n ≤ 16):0 ≤ i * n∧i * n ≤ 65520∧i ≤ i * n:=by
  refine ⟨Int.mul_nonneg h0 (by omega), ?_, ?_⟩
  · have:=Int.mul_le_mul h1 h3 (by omega) (by omega)
    omega
  · have:=Int.mul_le_mul_of_nonneg_left h2 h0
    omega
theorem fo_i {c i n:Int} (h:fo c i n):i ≤ 4095:=by
  obtain ⟨⟨a,b⟩,⟨c0,c1⟩,i0,l⟩:=h
  have:=Int.mul_le_mul_of_nonneg_left a i0
  omega
theorem Frame_ok (c i n:Int) (h:fo c i n) (w:World):Calls Tryz.prog 159 #[.int .i64 c,.int .i64 i,.int .i64 n] w (Two (i * n + c) 0 w):=by
  have hi:=fo_i h
  obtain ⟨⟨a,b⟩,⟨c0,c1⟩,i0,l⟩:=h
  obtain ⟨p0,p1,p2⟩:=prod_le i n i0 hi a b
  have h1:cm c n = true:=by simp [cm,inB_t a b,inB_t c0 (show c ≤ n - 1 by omega)]
  have h2:=inB_t i0 hi
  have h3:=inB_t (show 0 ≤ i * n + c by omega) l
  go_enter Tryz.func159,Tryz.ntmps159
  go_wp2_with (first | (go_at_call 89; refine (colourMayBe_any _ _ _).mono ?_; rintro e w' ⟨rfl,rfl⟩) | (go_at_call 152; refine (frameMayBe_any _ _).mono ?_; rintro e w' ⟨rfl,rfl⟩))
  go_ret2
  exact ⟨rfl,rfl⟩
def ct (F n c:Int):Int:=(F - c + n - 1) / n
theorem ct_le {F n c:Int} (hF:1 ≤ F) (hF1:F ≤ 4096) (h0:0 ≤ c) (h1:c < n) (hn:n ≤ 16):0 ≤ F - c + n - 1∧0 ≤ ct F n c∧ct F n c ≤ F - c + n - 1∧F - c + n - 1 ≤ 4111:=by
  have hs:0 ≤ F - c + n - 1:=by omega
  exact ⟨hs,Int.ediv_nonneg hs (by omega),Int.ediv_le_self n hs,by omega⟩
theorem Count_ok (F n c:Int) (hF:1 ≤ F) (hF1:F ≤ 4096) (h2:1 ≤ n) (h3:n ≤ 16) (h0:0 ≤ c) (h1:c < n) (w:World):Calls Tryz.prog 48 #[.int .i64 F,.int .i64 n,.int .i64 c] w (Two (ct F n c) 0 w):=by
  have ha:=inB_t hF hF1
  have hb:cm c n = true:=by simp [cm,inB_t h2 h3,inB_t h0 (show c ≤ n - 1 by omega)]
  obtain ⟨k0,k1,k2,k3⟩:=ct_le hF hF1 h0 h1 h3
  have hm:(F - c + n - 1).tdiv n = ct F n c:=Int.tdiv_eq_ediv_of_nonneg k0
  have hn:¬ n = 0:=by omega
  generalize ct F n c = q at *
  go_enter Tryz.func48,Tryz.ntmps48
  go_wp2_with (first | (go_at_call 88; refine (framesMayBe_any _ _).mono ?_; rintro e w' ⟨rfl,rfl⟩) | (go_at_call 89; refine (colourMayBe_any _ _ _).mono ?_; rintro e w' ⟨rfl,rfl⟩))
  go_ret2
  exact ⟨rfl,rfl⟩
def st (a n:Int):Int:=a / 256 % n * 16 + a % 256 / 16
theorem Set_ok (a n:Int) (h0:0 ≤ a) (h1:a < 1048576) (h2:1 ≤ n) (h3:n ≤ 16) (w:World):Calls Tryz.prog 141 #[.int .u64 a,.int .i64 n] w (Two (st a n) 0 w):=by
  have C:Hid (∀ w,Calls Tryz.prog 123 #[.int .i64 (a / 256),.int .i64 n] w (Two (a / 256 % n) 0 w)):=fun w=>Of_ok (a / 256) n (by omega) (by omega) h2 h3 w
  have k0:=Int.emod_nonneg (a / 256) (show n ≠ 0 by omega)
  have k1:=Int.emod_lt_of_pos (a / 256) (show 0 < n by omega)
  unfold st
  generalize a / 256 % n = c at *
  go_enter Tryz.func141,Tryz.ntmps141
  go_wp2_with (go_at_call 123; refine (C.out _).mono ?_; rintro e w' ⟨rfl,rfl⟩)
  go_ret2
  exact ⟨rfl,rfl⟩
end Go.Proofs.YtgljdbabagdhlaaGreat.K
