/- Entries and their words, told by numbers: which entries may be, which words; no condition but the ranges that each theorem names. -/
import Derived.Test.YtgljdbabagdhlaaGreatRows
import Derived.WalkKit
import Derived.ProofKit
import Derived.OpenShut
import Derived.WalkSpells
import Derived.WalkLawsBesides
import Derived.Laws.BitsAllLaws
import Derived.Deep.QuietTactic
import Derived.BigQuiet
import Derived.Deep.AppendLies
import Derived.Deep.WholeRow
namespace Go.Proofs.YtgljdbabagdhlaaGreat.N
open Go.ChangeShapes Go.WideShapes Go.ChangeAt Go.RowKit
set_option linter.unusedVariables false
set_option maxRecDepth 8192
def mb (p s r w a d z n q f:Bool):Bool:=(!p && !s && !r && !w && !a && !d && z) || ((p != s) && n && (if s then q else f) && !(w && !r) && !(s && (a || d)))
def may (p s r w a d:Bool) (t:Int):Bool:=mb p s r w a d (t == 0) (decide (0 ≤ t)) (decide (t ≤ 1023)) (decide (t ≤ 4095))
def bi (b:Bool) (k:Int):Int:=if b then k else 0
def lo (p s r w a d:Bool):Int:=bi p 1 + bi s 2 + bi r 4 + bi w 8 + bi a 16 + bi d 32
theorem lo_range (p s r w a d:Bool):0 ≤ lo p s r w a d∧lo p s r w a d < 64:=by
  revert p s r w a d
  decide
theorem may_range {p s r w a d:Bool} {t:Int} (h:may p s r w a d t = true):0 ≤ t∧t ≤ 4095:=by
  by_cases h0:0 ≤ t
  · refine ⟨h0, ?_⟩
    by_cases h1:t ≤ 4095
    · exact h1
    · exfalso
      have e1:(t == 0) = false:=by simp; omega
      have e2:decide (t ≤ 1023) = false:=by simp; omega
      have e3:decide (t ≤ 4095) = false:=by simp; omega
      unfold may at h
      rw [e1,e2,e3] at h
      revert h
      generalize decide (0 ≤ t) = n
      revert p s r w a d n
      decide
  · exfalso
    have e1:(t == 0) = false:=by simp; omega
    have e2:decide (0 ≤ t) = false:=by simp; omega
    unfold may at h
    rw [e1,e2] at h
    revert h
    generalize decide (t ≤ 1023) = q
    generalize decide (t ≤ 4095) = f
    revert p s r w a d q f
    decide
def fb (a k:Int):Bool:=bits .and .u64 a k != 0
def fbN (c k:Nat):Bool:=(c &&& k) != 0
theorem and_low (a:Int) (h0:0 ≤ a) (h1:a < 18446744073709551616) (k:Nat) (hk:k < 256):bits .and .u64 a (k:Int) = (((a % 256).toNat &&& k:Nat):Int):=by
  rw [u64_and a k h0 h1 (by omega) (by omega)]
  have e:a.toNat &&& (k:Int).toNat = (a % 256).toNat &&& k:=by
    have h2:((k:Int)).toNat = k:=by omega
    rw [h2]
    have h3:a.toNat &&& k < 2 ^ 8:=Nat.and_lt_two_pow _ (by omega)
    have h4:(a.toNat &&& k) % 2 ^ 8 = a.toNat &&& k:=Nat.mod_eq_of_lt h3
    rw [← h4,Nat.and_mod_two_pow]
    have h5:k % 2 ^ 8 = k:=Nat.mod_eq_of_lt (by omega)
    have h6:a.toNat % 2 ^ 8 = (a % 256).toNat:=by omega
    rw [h5,h6]
  rw [e]
theorem fb_low (a:Int) (h0:0 ≤ a) (h1:a < 18446744073709551616) (k:Nat) (hk:k < 256):fb a (k:Int) = fbN (a % 256).toNat k:=by
  unfold fb fbN
  rw [and_low a h0 h1 k hk,Bool.eq_iff_iff]
  simp
theorem not_mask (a : Int) (h0 : 0 ≤ a) (h1 : a < 18446744073709551616) (m i : Nat) (hm : m < 256) (hi : i ≤ 12) :
    (bits .andNot .u64 a (((2 ^ i - 1) * 256 + m:Nat):Int) == 0) = (((a % 256).toNat &&& (255 - m)) == 0 && decide (a / 256 < ((2 ^ i:Nat):Int))):=by
  have hp:2 ^ i ≤ 2 ^ 12:=Nat.pow_le_pow_right (by decide) hi
  have hp' : 2 ^ 12 = 4096:=by decide
  have hp0:0 < 2 ^ i:=Nat.pos_of_ne_zero (by simp)
  rw [u64_andNot a _ h0 h1 (by omega) (by omega)]
  have e1:(((2 ^ i - 1) * 256 + m:Nat):Int).toNat = (2 ^ i - 1) * 256 + m:=by omega
  rw [e1]
  generalize hM:18446744073709551615 - ((2 ^ i - 1) * 256 + m) = M
  have hM1:M % 2 ^ 8 = 255 - m:=by omega
  have hM2:M / 2 ^ 8 = 2 ^ 56 - 2 ^ i:=by omega
  have hz:(a.toNat &&& M = 0) ↔ ((a.toNat &&& M) % 2 ^ 8 = 0∧(a.toNat &&& M) / 2 ^ 8 = 0):=by omega
  rw [Nat.and_mod_two_pow,Nat.and_div_two_pow,hM1,hM2,nat_midmask 56 i _ (by omega)] at hz
  have h6:a.toNat % 2 ^ 8 = (a % 256).toNat:=by omega
  have h7:a.toNat / 2 ^ 8 = (a / 256).toNat:=by omega
  have h8:(a / 256).toNat % 2 ^ 56 = (a / 256).toNat:=Nat.mod_eq_of_lt (by omega)
  rw [h6,h7,h8] at hz
  have h9:((a / 256).toNat / 2 ^ i * 2 ^ i = 0) ↔ (a / 256 < ((2 ^ i:Nat):Int)):=by
    rw [Nat.mul_eq_zero,Nat.div_eq_zero_iff]
    omega
  rw [h9] at hz
  rw [Bool.eq_iff_iff]
  simp only [beq_iff_eq,Bool.and_eq_true,decide_eq_true_eq]
  rw [← hz]
  omega
def mayW (a:Int):Bool:=decide (a % 256 < 64) && may (fb a 1) (fb a 2) (fb a 4) (fb a 8) (fb a 16) (fb a 32) (a / 256)
theorem table_p:∀ c,c < 256→∀ z q f:Bool,fbN c 1 = true→(((c &&& 194) == 0 && f) && ((c &&& 12) != 8)) = (decide (c < 64) && mb (fbN c 1) (fbN c 2) (fbN c 4) (fbN c 8) (fbN c 16) (fbN c 32) z true q f):=by
  decide +kernel
theorem table_s:∀ c,c < 256→∀ z q f:Bool,fbN c 1 = false→fbN c 2 = true→(((c &&& 241) == 0 && q) && ((c &&& 12) != 8)) = (decide (c < 64) && mb (fbN c 1) (fbN c 2) (fbN c 4) (fbN c 8) (fbN c 16) (fbN c 32) z true q f):=by
  decide +kernel
theorem table_n:∀ c,c < 256→∀ z q f:Bool,fbN c 1 = false→fbN c 2 = false→(((c &&& 255) == 0 && z) && ((c &&& 12) != 8)) = (decide (c < 64) && mb (fbN c 1) (fbN c 2) (fbN c 4) (fbN c 8) (fbN c 16) (fbN c 32) z true q f):=by
  decide +kernel
theorem mayW_low (a:Int) (h0:0 ≤ a) (h1:a < 18446744073709551616):mayW a = (decide ((a % 256).toNat < 64) && mb (fbN (a % 256).toNat 1) (fbN (a % 256).toNat 2) (fbN (a % 256).toNat 4) (fbN (a % 256).toNat 8) (fbN (a % 256).toNat 16) (fbN (a % 256).toNat 32) (a / 256 == 0) true (decide (a / 256 ≤ 1023)) (decide (a / 256 ≤ 4095))):=by
  have e1:decide (a % 256 < 64) = decide ((a % 256).toNat < 64):=by rw [decide_eq_decide]; omega
  have e2:decide (0 ≤ a / 256) = true:=by simp; omega
  have k1:fb a 1 = fbN (a % 256).toNat 1:=fb_low a h0 h1 1 (by decide)
  have k2:fb a 2 = fbN (a % 256).toNat 2:=fb_low a h0 h1 2 (by decide)
  have k3:fb a 4 = fbN (a % 256).toNat 4:=fb_low a h0 h1 4 (by decide)
  have k4:fb a 8 = fbN (a % 256).toNat 8:=fb_low a h0 h1 8 (by decide)
  have k5:fb a 16 = fbN (a % 256).toNat 16:=fb_low a h0 h1 16 (by decide)
  have k6:fb a 32 = fbN (a % 256).toNat 32:=fb_low a h0 h1 32 (by decide)
  unfold mayW may
  rw [e1,e2,k1,k2,k3,k4,k5,k6]
theorem rw_low (a:Int) (h0:0 ≤ a) (h1:a < 18446744073709551616):(bits .and .u64 a 12 != 8) = (((a % 256).toNat &&& 12) != 8):=by
  have k:=and_low a h0 h1 12 (by decide)
  have e:((12:Nat):Int) = 12:=rfl
  rw [e] at k
  rw [k,Bool.eq_iff_iff]
  simp only [bne_iff_ne,ne_eq]
  omega
theorem word_p (a:Int) (h0:0 ≤ a) (h1:a < 18446744073709551616) (h:fb a 1 = true):((bits .andNot .u64 a 1048381 == 0) && (bits .and .u64 a 12 != 8)) = mayW a:=by
  have k:=fb_low a h0 h1 1 (by decide)
  have e:((1:Nat):Int) = 1:=rfl
  rw [e,h] at k
  have m:=not_mask a h0 h1 61 12 (by decide) (by decide)
  have e2:(((2 ^ 12 - 1) * 256 + 61:Nat):Int) = 1048381:=by decide
  have e3:decide (a / 256 < ((2 ^ 12:Nat):Int)) = decide (a / 256 ≤ 4095):=by rw [decide_eq_decide]; omega
  rw [e2,e3] at m
  rw [m,rw_low a h0 h1,mayW_low a h0 h1]
  exact table_p _ (by omega) _ _ _ k.symm
theorem word_s (a:Int) (h0:0 ≤ a) (h1:a < 18446744073709551616) (h:fb a 1 = false) (h' : fb a 2 = true):((bits .andNot .u64 a 261902 == 0) && (bits .and .u64 a 12 != 8)) = mayW a:=by
  have k:=fb_low a h0 h1 1 (by decide)
  have k':=fb_low a h0 h1 2 (by decide)
  have e:((1:Nat):Int) = 1:=rfl
  have e' : ((2:Nat):Int) = 2:=rfl
  rw [e,h] at k
  rw [e',h'] at k'
  have m:=not_mask a h0 h1 14 10 (by decide) (by decide)
  have e2:(((2 ^ 10 - 1) * 256 + 14:Nat):Int) = 261902:=by decide
  have e3:decide (a / 256 < ((2 ^ 10:Nat):Int)) = decide (a / 256 ≤ 1023):=by rw [decide_eq_decide]; omega
  rw [e2,e3] at m
  rw [m,rw_low a h0 h1,mayW_low a h0 h1]
  exact table_s _ (by omega) _ _ _ k.symm k'.symm
theorem word_n (a:Int) (h0:0 ≤ a) (h1:a < 18446744073709551616) (h:fb a 1 = false) (h' : fb a 2 = false):((bits .andNot .u64 a 0 == 0) && (bits .and .u64 a 12 != 8)) = mayW a:=by
  have k:=fb_low a h0 h1 1 (by decide)
  have k':=fb_low a h0 h1 2 (by decide)
  have e:((1:Nat):Int) = 1:=rfl
  have e' : ((2:Nat):Int) = 2:=rfl
  rw [e,h] at k
  rw [e',h'] at k'
  have m:=not_mask a h0 h1 0 0 (by decide) (by decide)
  have e2:(((2 ^ 0 - 1) * 256 + 0:Nat):Int) = 0:=by decide
  have e3:decide (a / 256 < ((2 ^ 0:Nat):Int)) = (a / 256 == 0):=by rw [Bool.eq_iff_iff]; simp; omega
  rw [e2,e3] at m
  rw [m,rw_low a h0 h1,mayW_low a h0 h1]
  exact table_n _ (by omega) _ _ _ k.symm k'.symm
theorem fb_word (p s r w a d : Bool) (t : Int) (h0 : 0 ≤ t) (h1 : t ≤ 4095) :
    fb (lo p s r w a d + t * 256) 1 = p∧fb (lo p s r w a d + t * 256) 2 = s∧fb (lo p s r w a d + t * 256) 4 = r∧fb (lo p s r w a d + t * 256) 8 = w∧fb (lo p s r w a d + t * 256) 16 = a∧fb (lo p s r w a d + t * 256) 32 = d:=by
  have hr:=lo_range p s r w a d
  have hm:(lo p s r w a d + t * 256) % 256 = lo p s r w a d:=by omega
  have k1:fb (lo p s r w a d + t * 256) 1 = fbN ((lo p s r w a d + t * 256) % 256).toNat 1:=fb_low (lo p s r w a d + t * 256) (by omega) (by omega) 1 (by decide)
  have k2:fb (lo p s r w a d + t * 256) 2 = fbN ((lo p s r w a d + t * 256) % 256).toNat 2:=fb_low (lo p s r w a d + t * 256) (by omega) (by omega) 2 (by decide)
  have k3:fb (lo p s r w a d + t * 256) 4 = fbN ((lo p s r w a d + t * 256) % 256).toNat 4:=fb_low (lo p s r w a d + t * 256) (by omega) (by omega) 4 (by decide)
  have k4:fb (lo p s r w a d + t * 256) 8 = fbN ((lo p s r w a d + t * 256) % 256).toNat 8:=fb_low (lo p s r w a d + t * 256) (by omega) (by omega) 8 (by decide)
  have k5:fb (lo p s r w a d + t * 256) 16 = fbN ((lo p s r w a d + t * 256) % 256).toNat 16:=fb_low (lo p s r w a d + t * 256) (by omega) (by omega) 16 (by decide)
  have k6:fb (lo p s r w a d + t * 256) 32 = fbN ((lo p s r w a d + t * 256) % 256).toNat 32:=fb_low (lo p s r w a d + t * 256) (by omega) (by omega) 32 (by decide)
  rw [hm] at k1 k2 k3 k4 k5 k6
  rw [k1,k2,k3,k4,k5,k6]
  clear hm hr k1 k2 k3 k4 k5 k6
  revert p s r w a d
  decide
theorem mayW_word (p s r w a d:Bool) (t:Int) (h0:0 ≤ t) (h1:t ≤ 4095):mayW (lo p s r w a d + t * 256) = may p s r w a d t:=by
  have hr:=lo_range p s r w a d
  obtain ⟨k1,k2,k3,k4,k5,k6⟩:=fb_word p s r w a d t h0 h1
  have e1:decide ((lo p s r w a d + t * 256) % 256 < 64) = true:=by simp; omega
  have e2:(lo p s r w a d + t * 256) / 256 = t:=by omega
  unfold mayW
  rw [k1,k2,k3,k4,k5,k6,e1,e2,Bool.true_and]
theorem low_bits:∀ c,c < 64→bi (fbN c 1) 1 + bi (fbN c 2) 2 + bi (fbN c 4) 4 + bi (fbN c 8) 8 + bi (fbN c 16) 16 + bi (fbN c 32) 32 = (c:Int):=by
  decide +kernel
theorem word_back (a:Int) (h0:0 ≤ a) (h1:a < 18446744073709551616) (h:a % 256 < 64):lo (fb a 1) (fb a 2) (fb a 4) (fb a 8) (fb a 16) (fb a 32) + a / 256 * 256 = a:=by
  have k1:fb a 1 = fbN (a % 256).toNat 1:=fb_low a h0 h1 1 (by decide)
  have k2:fb a 2 = fbN (a % 256).toNat 2:=fb_low a h0 h1 2 (by decide)
  have k3:fb a 4 = fbN (a % 256).toNat 4:=fb_low a h0 h1 4 (by decide)
  have k4:fb a 8 = fbN (a % 256).toNat 8:=fb_low a h0 h1 8 (by decide)
  have k5:fb a 16 = fbN (a % 256).toNat 16:=fb_low a h0 h1 16 (by decide)
  have k6:fb a 32 = fbN (a % 256).toNat 32:=fb_low a h0 h1 32 (by decide)
  unfold lo
  rw [k1,k2,k3,k4,k5,k6,low_bits _ (by omega)]
  omega
theorem below_new (w:World) (o:Obj):Below w.heap.size w (w.alloc o):=(Below.refl _ _).alloc (Nat.le_refl _) _
theorem below_drewN {B:Nat} {w w' : World} (h:Below B w w') (n:Nat):Below B w (w'.drewN n):=⟨h.os,h.tape,h.output,h.size,h.block⟩
theorem bitIf_any (b:Bool) (k:Int) (w:World):Calls Tryz.prog 105 #[.bool b,.int .u64 k] w fun e w'=>e = .returned (.int .u64 (bi b k))∧w' = w:=by
  cases b
  · go_enter Tryz.func105,Tryz.ntmps105
    go_wp2
    go_ret
    exact ⟨rfl,rfl⟩
  · go_enter Tryz.func105,Tryz.ntmps105
    go_wp2
    go_ret
    exact ⟨rfl,rfl⟩
theorem wordMayBe_any (a:Int) (h0:0 ≤ a) (h1:a < 18446744073709551616) (w:World):Calls Tryz.prog 106 #[.int .u64 a] w fun e w'=>e = .returned (.bool (mayW a))∧w' = w:=by
  cases k1:fb a 1
  · cases k2:fb a 2
    · rw [← word_n a h0 h1 k1 k2]
      unfold fb at k1 k2
      cases k3:(bits .andNot .u64 a 0 == 0)
      · go_enter Tryz.func106,Tryz.ntmps106
        go_wp2
        go_ret
        exact ⟨rfl,rfl⟩
      · go_enter Tryz.func106,Tryz.ntmps106
        go_wp2
        go_ret
        exact ⟨rfl,rfl⟩
    · rw [← word_s a h0 h1 k1 k2]
      unfold fb at k1 k2
      cases k3:(bits .andNot .u64 a 261902 == 0)
      · go_enter Tryz.func106,Tryz.ntmps106
        go_wp2
        go_ret
        exact ⟨rfl,rfl⟩
      · go_enter Tryz.func106,Tryz.ntmps106
        go_wp2
        go_ret
        exact ⟨rfl,rfl⟩
  · rw [← word_p a h0 h1 k1]
    unfold fb at k1
    cases k3:(bits .andNot .u64 a 1048381 == 0)
    · go_enter Tryz.func106,Tryz.ntmps106
      go_wp2
      go_ret
      exact ⟨rfl,rfl⟩
    · go_enter Tryz.func106,Tryz.ntmps106
      go_wp2
      go_ret
      exact ⟨rfl,rfl⟩
theorem or_1 (p s:Bool):bits .or .u64 (bi p 1) (bi s 2) = bi p 1 + bi s 2:=by revert p s; decide
theorem or_2 (p s r:Bool):bits .or .u64 (bi p 1 + bi s 2) (bi r 4) = bi p 1 + bi s 2 + bi r 4:=by revert p s r; decide
theorem or_3 (p s r u:Bool):bits .or .u64 (bi p 1 + bi s 2 + bi r 4) (bi u 8) = bi p 1 + bi s 2 + bi r 4 + bi u 8:=by revert p s r u; decide
theorem or_4 (p s r u a:Bool):bits .or .u64 (bi p 1 + bi s 2 + bi r 4 + bi u 8) (bi a 16) = bi p 1 + bi s 2 + bi r 4 + bi u 8 + bi a 16:=by revert p s r u a; decide
theorem or_5 (p s r u a d:Bool):bits .or .u64 (bi p 1 + bi s 2 + bi r 4 + bi u 8 + bi a 16) (bi d 32) = lo p s r u a d:=by revert p s r u a d; decide
theorem or_6 (c t:Int) (h0:0 ≤ c) (h1:c < 64) (h2:0 ≤ t) (h3:t ≤ 4095):bits .or .u64 c (t * 256) = c + t * 256:=by
  rw [u64_or c (t * 256) h0 (by omega) (by omega) (by omega),Nat.or_comm,nat_join 8 _ _ (by omega) (by omega)]
  omega
set_option maxHeartbeats 1000000 in
theorem Make_out (p s r u a d:Bool) (t:Int) (h:t < 0 ∨ 4095 < t) (w:World):Calls Tryz.prog 63 #[.agg #[.bool p,.bool s,.bool r,.bool u,.bool a,.bool d,.int .i64 t]] w fun e w'=>e = .returned (.tuple #[.int .u64 0,.int .i64 70])∧Below w.heap.size w w':=by
  have hb:=below_new w (.cells #[.bool p,.bool s,.bool r,.bool u,.bool a,.bool d,.int .i64 t] 32)
  by_cases h0:t < 0
  · have h1:decide (t < 0) = true:=by simpa using h0
    clear h h0
    go_enter Tryz.func63,Tryz.ntmps63
    go_wp2
    go_ret2
    exact ⟨rfl,hb⟩
  · have h1:decide (t < 0) = false:=by simpa using h0
    have h2:decide (4096 ≤ t) = true:=by simp; omega
    clear h h0
    go_enter Tryz.func63,Tryz.ntmps63
    go_wp2
    go_ret2
    exact ⟨rfl,hb⟩
set_option maxHeartbeats 1000000 in
theorem Make_in (p s r u a d:Bool) (t:Int) (h0:0 ≤ t) (h1:t ≤ 4095) (hm:may p s r u a d t = true) (w:World):Calls Tryz.prog 63 #[.agg #[.bool p,.bool s,.bool r,.bool u,.bool a,.bool d,.int .i64 t]] w fun e w'=>e = .returned (.tuple #[.int .u64 (lo p s r u a d + t * 256),.int .i64 0])∧Below w.heap.size w w':=by
  have hb:=below_new w (.cells #[.bool p,.bool s,.bool r,.bool u,.bool a,.bool d,.int .i64 t] 32)
  have hl:=lo_range p s r u a d
  have hw:=(mayW_word p s r u a d t h0 h1).trans hm
  have k1:=or_1 p s
  have k2:=or_2 p s r
  have k3:=or_3 p s r u
  have k4:=or_4 p s r u a
  have k5:=or_5 p s r u a d
  have k6:=or_6 (lo p s r u a d) t hl.1 hl.2 h0 h1
  have j1:decide (t < 0) = false:=by simp; omega
  have j2:decide (4096 ≤ t) = false:=by simp; omega
  clear hm
  go_enter Tryz.func63,Tryz.ntmps63
  go_wp2_with fail
  go_quiet ((go_at_call 105; exact Calls.quiet_of_same (bitIf_any _ _ _)))
  go_wp2_with fail
  refine (wordMayBe_any _ (by omega) (by omega) _).mono ?_
  rintro e w1 ⟨rfl,rfl⟩
  rw [hw]
  go_wp2
  go_ret2
  exact ⟨rfl,below_drewN hb _⟩
set_option maxHeartbeats 1000000 in
theorem Make_not (p s r u a d:Bool) (t:Int) (h0:0 ≤ t) (h1:t ≤ 4095) (hm:may p s r u a d t = false) (w:World):Calls Tryz.prog 63 #[.agg #[.bool p,.bool s,.bool r,.bool u,.bool a,.bool d,.int .i64 t]] w fun e w'=>e = .returned (.tuple #[.int .u64 0,.int .i64 70])∧Below w.heap.size w w':=by
  have hb:=below_new w (.cells #[.bool p,.bool s,.bool r,.bool u,.bool a,.bool d,.int .i64 t] 32)
  have hl:=lo_range p s r u a d
  have hw:=(mayW_word p s r u a d t h0 h1).trans hm
  have k1:=or_1 p s
  have k2:=or_2 p s r
  have k3:=or_3 p s r u
  have k4:=or_4 p s r u a
  have k5:=or_5 p s r u a d
  have k6:=or_6 (lo p s r u a d) t hl.1 hl.2 h0 h1
  have j1:decide (t < 0) = false:=by simp; omega
  have j2:decide (4096 ≤ t) = false:=by simp; omega
  clear hm
  go_enter Tryz.func63,Tryz.ntmps63
  go_wp2_with fail
  go_quiet ((go_at_call 105; exact Calls.quiet_of_same (bitIf_any _ _ _)))
  go_wp2_with fail
  refine (wordMayBe_any _ (by omega) (by omega) _).mono ?_
  rintro e w1 ⟨rfl,rfl⟩
  rw [hw]
  go_wp2
  go_ret2
  exact ⟨rfl,below_drewN hb _⟩
set_option maxHeartbeats 1000000 in
theorem Make_ok (p s r u a d:Bool) (t:Int) (hm:may p s r u a d t = true) (w:World):Calls Tryz.prog 63 #[.agg #[.bool p,.bool s,.bool r,.bool u,.bool a,.bool d,.int .i64 t]] w fun e w'=>e = .returned (.tuple #[.int .u64 (lo p s r u a d + t * 256),.int .i64 0])∧Below w.heap.size w w' :=
  Make_in p s r u a d t (may_range hm).1 (may_range hm).2 hm w
set_option maxHeartbeats 1000000 in
theorem Make_no (p s r u a d:Bool) (t:Int) (hm:may p s r u a d t = false) (w:World):Calls Tryz.prog 63 #[.agg #[.bool p,.bool s,.bool r,.bool u,.bool a,.bool d,.int .i64 t]] w fun e w'=>e = .returned (.tuple #[.int .u64 0,.int .i64 70])∧Below w.heap.size w w':=by
  by_cases h:t < 0 ∨ 4095 < t
  · exact Make_out p s r u a d t h w
  · exact Make_not p s r u a d t (by omega) (by omega) hm w
def er (b:Bool):Int:=if b then 0 else 70
theorem Check_any (p s r u a d:Bool) (t:Int) (w:World):Calls Tryz.prog 24 #[.agg #[.bool p,.bool s,.bool r,.bool u,.bool a,.bool d,.int .i64 t]] w fun e w'=>e = .returned (.int .i64 (er (may p s r u a d t)))∧Below w.heap.size w w':=by
  have hb:=below_new w (.cells #[.bool p,.bool s,.bool r,.bool u,.bool a,.bool d,.int .i64 t] 32)
  cases hm:may p s r u a d t
  · have C:=Make_no p s r u a d t hm (w.alloc (.cells #[.bool p,.bool s,.bool r,.bool u,.bool a,.bool d,.int .i64 t] 32))
    go_enter Tryz.func24,Tryz.ntmps24
    go_wp2_with fail
    refine C.mono ?_
    rintro e w1 ⟨rfl,k⟩
    clear C
    go_wp2
    go_ret
    exact ⟨rfl,hb.trans (k.mono (by simp))⟩
  · have C:=Make_ok p s r u a d t hm (w.alloc (.cells #[.bool p,.bool s,.bool r,.bool u,.bool a,.bool d,.int .i64 t] 32))
    go_enter Tryz.func24,Tryz.ntmps24
    go_wp2_with fail
    refine C.mono ?_
    rintro e w1 ⟨rfl,k⟩
    clear C
    go_wp2
    go_ret
    exact ⟨rfl,hb.trans (k.mono (by simp))⟩
theorem Read_ok (n:Int) (h0:0 ≤ n) (h1:n < 18446744073709551616) (hm:mayW n = true) (w:World):Calls Tryz.prog 69 #[.int .u64 n] w fun e w'=>e = .returned (.tuple #[.agg #[.bool (fb n 1),.bool (fb n 2),.bool (fb n 4),.bool (fb n 8),.bool (fb n 16),.bool (fb n 32),.int .i64 (n / 256)],.int .i64 0])∧Below w.heap.size w w':=by
  have hb:=below_new w (.cells #[.bool false,.bool false,.bool false,.bool false,.bool false,.bool false,.int .i64 0] 32)
  go_enter Tryz.func69,Tryz.ntmps69
  go_wp2_with fail
  refine (wordMayBe_any _ h0 h1 _).mono ?_
  rintro e w1 ⟨rfl,rfl⟩
  rw [hm]
  go_wp2
  refine bodyPost_ret (v:=.tuple #[.agg #[.bool (fb n 1),.bool (fb n 2),.bool (fb n 4),.bool (fb n 8),.bool (fb n 16),.bool (fb n 32),.int .i64 (n / 256)],.int .i64 0]) (by simp [results,Tryz.results69,go_sem,fb, *]) rfl ⟨rfl, ?_⟩
  exact below_new _ _
structure Sev (w:World) (g:Nat) (p s r u a d:Bool) (t:Int):Prop where
  lt:g < w.heap.size
  c0:w.cell? ⟨g,0,none⟩ = some (.bool p)
  c1:w.cell? ⟨g,1,none⟩ = some (.bool s)
  c2:w.cell? ⟨g,2,none⟩ = some (.bool r)
  c3:w.cell? ⟨g,3,none⟩ = some (.bool u)
  c4:w.cell? ⟨g,4,none⟩ = some (.bool a)
  c5:w.cell? ⟨g,5,none⟩ = some (.bool d)
  c6:w.cell? ⟨g,6,none⟩ = some (.int .i64 t)
theorem cell_new (w:World) (L:List Value) (ty:TypeId) (i:Nat):(w.alloc (.cells L.toArray ty)).cell? ⟨w.heap.size,i,none⟩ = L[i]?:=by
  rw [cell_of_row (w.alloc (.cells L.toArray ty)) w.heap.size i _ ty (0,0) (heap_alloc_last w _)]; simp
theorem sev_new (w:World) (p s r u a d:Bool) (t:Int):Sev (w.alloc (.cells #[.bool p,.bool s,.bool r,.bool u,.bool a,.bool d,.int .i64 t] 32)) w.heap.size p s r u a d t:=
  ⟨by simp,cell_new w _ 32 0,cell_new w _ 32 1,cell_new w _ 32 2,cell_new w _ 32 3,cell_new w _ 32 4,cell_new w _ 32 5,cell_new w _ 32 6⟩
theorem Sev.below {w w' : World} {g:Nat} {p s r u a d:Bool} {t:Int} (h:Sev w g p s r u a d t) (k:Below w.heap.size w w'):Sev w' g p s r u a d t:=
  ⟨Nat.lt_of_lt_of_le h.lt k.size,(k.cell h.lt).trans h.c0,(k.cell h.lt).trans h.c1,(k.cell h.lt).trans h.c2,(k.cell h.lt).trans h.c3,(k.cell h.lt).trans h.c4,(k.cell h.lt).trans h.c5,(k.cell h.lt).trans h.c6⟩
def al (p s r u q:Bool):Int:=if s then 2 else if !p then 1 else if !(if q then u else r) then 3 else 0
set_option maxHeartbeats 1000000 in
theorem Allows_ok (p s r u a d:Bool) (t:Int) (q:Bool) (hm:may p s r u a d t = true) (w:World):Calls Tryz.prog 117 #[.agg #[.bool p,.bool s,.bool r,.bool u,.bool a,.bool d,.int .i64 t],.bool q] w fun e w'=>e = .returned (.tuple #[.int .u8 (al p s r u q),.int .i64 0])∧Below w.heap.size w w':=by
  have hb:=below_new w (.cells #[.bool p,.bool s,.bool r,.bool u,.bool a,.bool d,.int .i64 t] 32)
  have S:=sev_new w p s r u a d t
  have C:=Check_any p s r u a d t (w.alloc (.cells #[.bool p,.bool s,.bool r,.bool u,.bool a,.bool d,.int .i64 t] 32))
  rw [hm] at C
  clear hm
  go_enter Tryz.func117,Tryz.ntmps117
  go_wp2_with fail
  refine C.mono ?_
  rintro e w1 ⟨rfl,k⟩
  have FIN:Hid (Below w.heap.size w w1):=hb.trans (k.mono (by simp))
  obtain ⟨_,c0,c1,c2,c3,_,_,_⟩:=S.below k
  clear C k hb S
  rw [show er true = 0 from rfl]
  cases q <;> cases p <;> cases s <;> cases r <;> cases u
  all_goals (go_wp2; go_ret2; exact ⟨rfl,FIN.out⟩)
end Go.Proofs.YtgljdbabagdhlaaGreat.N
