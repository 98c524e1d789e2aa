/- What the small integer functions of package addr that frames calls give back, each for every integer that it may be handed; no condition but the range that each theorem names. -/
import Derived.Test.YtgljdbabagdhlaaGreatRows
import Derived.WalkKit
import Derived.ProofKit
import Derived.OpenShut
import Derived.WalkSpells
import Derived.WalkLawsBesides
import Derived.Laws.BitsAllLaws
import Derived.Laws.IdiomCopy
import Derived.Lib.SliceRun
import Derived.Deep.AppendLies
import Derived.Deep.WholeRow
import Derived.Laws.ShiftsVarLaws
import Derived.Deep.QuietTactic
import Derived.BigQuiet
namespace Go.Proofs.YtgljdbabagdhlaaGreat.F
open Go.ChangeShapes Go.WideShapes Go.ChangeAt Go.RowKit
set_option linter.unusedVariables false
set_option maxRecDepth 8192
theorem low8_u64 (a:Int) (h0:0 ≤ a) (h1:a < 18446744073709551616):bits .and .u64 a 255 = a % 256:=by
  rw [u64_and a 255 h0 h1 (by decide) (by decide)]
  have e:(255:Int).toNat = 255:=rfl
  rw [e,nat_mask8]; omega
theorem join_u64 (a b:Int) (h0:0 ≤ a) (h1:a < 1048576) (h2:0 ≤ b) (h3:b < 256):bits .or .u64 (a * 256) b = a * 256 + b:=by
  rw [u64_or (a * 256) b (by omega) (by omega) h2 (by omega),nat_join 8 _ _ (by omega) (by omega)]; omega
theorem ret_int {k:IntKind} {a b:Int} (h:a = b):Ending.returned (.int k a) = .returned (.int k b):=by rw [h]
theorem ret_bool {a b:Bool} (h:a = b):Ending.returned (.bool a) = .returned (.bool b):=by rw [h]
theorem cut_any (a : Int) (h0 : 0 ≤ a) (h1 : a < 18446744073709551616) (w : World) :
    Calls Tryz.prog 138 #[.int .u64 a] w fun e w'=>e = .returned (.tuple #[.int .i64 (a / 256),.int .i64 (a % 256)])∧w' = w:=by
  have hl:=low8_u64 a h0 h1
  go_enter Tryz.func138,Tryz.ntmps138
  go_wp2
  go_ret2
  exact ⟨rfl,rfl⟩
def inB (n a b:Int):Bool:=decide (a ≤ n) && decide (n ≤ b)
theorem inB_t {n a b:Int} (h:a ≤ n) (h' : n ≤ b):inB n a b = true:=by simp [inB,h,h']
theorem offMayBe_any (a : Int) (w : World) :
    Calls Tryz.prog 79 #[.int .i64 a] w fun e w'=>e = .returned (.bool (inB a 0 255))∧w' = w:=by
  go_enter Tryz.func79,Tryz.ntmps79
  go_wp2
  all_goals (go_ret; exact ⟨ret_bool (by rw [Bool.eq_iff_iff]; simp [inB]; omega),rfl⟩)
theorem frameMayBe_any (a : Int) (w : World) :
    Calls Tryz.prog 109 #[.int .i64 a] w fun e w'=>e = .returned (.bool (inB a 0 4095))∧w' = w:=by
  go_enter Tryz.func109,Tryz.ntmps109
  go_wp2
  all_goals (go_ret; exact ⟨ret_bool (by rw [Bool.eq_iff_iff]; simp [inB]; omega),rfl⟩)
theorem put_any (a b : Int) (h0 : 0 ≤ a) (h1 : a < 1048576) (h2 : 0 ≤ b) (h3 : b < 256) (w : World) :
    Calls Tryz.prog 80 #[.int .i64 a,.int .i64 b] w fun e w'=>e = .returned (.int .u64 (a * 256 + b))∧w' = w:=by
  have hj:=join_u64 a b h0 h1 h2 h3
  go_enter Tryz.func80,Tryz.ntmps80
  go_wp2
  go_ret
  exact ⟨rfl,rfl⟩
theorem Frame_ok (a : Int) (h0 : 0 ≤ a) (h1 : a < 1048576) (w : World) :
    Calls Tryz.prog 144 #[.int .u64 a] w fun e w'=>e = .returned (.tuple #[.int .i64 (a / 256),.int .i64 (a % 256),.int .i64 0])∧w' = w:=by
  have hz:(a / 1048576 != 0) = false:=by simp; omega
  go_enter Tryz.func144,Tryz.ntmps144
  go_wp2_with (go_at_call 138; refine (cut_any _ h0 (by omega) _).mono ?_; rintro e w' ⟨rfl,rfl⟩)
  go_ret3
  exact ⟨rfl,rfl⟩
theorem Frame_no (a : Int) (h0 : 1048576 ≤ a) (h1 : a < 18446744073709551616) (w : World) :
    Calls Tryz.prog 144 #[.int .u64 a] w fun e w'=>e = .returned (.tuple #[.int .i64 0,.int .i64 0,.int .i64 10])∧w' = w:=by
  have hz:(a / 1048576 != 0) = true:=by rw [bne_iff_ne]; omega
  go_enter Tryz.func144,Tryz.ntmps144
  go_wp2_with fail
  go_ret3
  exact ⟨rfl,rfl⟩
theorem Place_ok (a b : Int) (h0 : 0 ≤ a) (h1 : a < 4096) (h2 : 0 ≤ b) (h3 : b < 256) (w : World) :
    Calls Tryz.prog 66 #[.int .i64 a,.int .i64 b] w fun e w'=>e = .returned (.tuple #[.int .u64 (a * 256 + b),.int .i64 0])∧w' = w:=by
  have ha:=inB_t h0 (show a ≤ 4095 by omega)
  have hb:=inB_t h2 (show b ≤ 255 by omega)
  go_enter Tryz.func66,Tryz.ntmps66
  go_wp2_with (first | (go_at_call 109; refine (frameMayBe_any _ _).mono ?_; rintro e w' ⟨rfl,rfl⟩) | (go_at_call 79; refine (offMayBe_any _ _).mono ?_; rintro e w' ⟨rfl,rfl⟩) | (go_at_call 80; refine (put_any _ _ h0 (by omega) h2 h3 _).mono ?_; rintro e w' ⟨rfl,rfl⟩))
  go_ret2
  exact ⟨rfl,rfl⟩
def By (w:World) (g n:Nat) (f:Nat→Int):Prop:=g < w.heap.size∧∀ i,i < n→w.cell? ⟨g,i,none⟩ = some (.int .u8 (f i))∧w.frozen? ⟨g,i,none⟩ = false
def okB (n:Nat) (f:Nat→Int):Prop:=∀ i,i < n→0 ≤ f i∧f i < 256
structure Mem (w:World) (p g n:Nat) (f:Nat→Int):Prop where
  lt:p < w.heap.size
  cell:w.cell? ⟨p,0,none⟩ = some (.slice (some ⟨g,0,none⟩) (n * 256) (n * 256))
  by' : By w g (n * 256) f
  ne:p ≠ g
  ok:okB (n * 256) f
def upd (f:Nat→Int) (k:Nat) (v:Int):Nat→Int:=fun i=>if i = k then v else f i
def lay (f:Nat→Int) (a m:Nat) (h:Nat→Int):Nat→Int:=fun i=>if a ≤ i∧i < a + m then h (i - a) else f i
theorem By.congr {w:World} {g n:Nat} {f h:Nat→Int} (b:By w g n f) (e:∀ i,i < n→f i = h i):By w g n h:=⟨b.1,fun i hi=>by rw [← e i hi]; exact b.2 i hi⟩
theorem By.kept {w w' : World} {g n:Nat} {f:Nat→Int} {row:Option Nat} (b:By w g n f) (h:w.grownBy w' row) (hne:some g ≠ row):By w' g n f:=
  ⟨Nat.lt_of_lt_of_le b.1 h.size,fun i hi=>⟨(h.cell_far _ b.1 hne).trans (b.2 i hi).1,(h.frozen_far _ b.1 hne).trans (b.2 i hi).2⟩⟩
theorem By.set {w:World} {g n:Nat} {f:Nat→Int} (b:By w g n f) (k:Nat) (v:Int):By (w.setCell ⟨g,k,none⟩ (.int .u8 v)) g n (upd f k v):=by
  refine ⟨by simpa [World.setCell] using b.1,fun i hi=>⟨?_,by rw [World.frozen?_setCell]; exact (b.2 i hi).2⟩⟩
  unfold upd
  by_cases e:i = k
  · subst e
    rw [World.cell?_setCell_same _ _ _ (b.2 i hi).1,if_pos rfl]
  · rw [World.cell?_setCell_other _ _ _ _ (by intro h; cases h; exact e rfl),if_neg e]
    exact (b.2 i hi).1
theorem size_setCells (b:Nat):∀ (vs:List Value) (o:Nat) (w:World),(w.setCells b o vs).heap.size = w.heap.size
  | [],_,_=>rfl
  | v :: r,o,w=>by rw [World.setCells,size_setCells b r]; simp [World.setCell]
theorem grown_setCell' (w:World) (g k:Nat) (v:Value):w.grownBy (w.setCell ⟨g,k,none⟩ v) (some g):=
  ⟨rfl,rfl,rfl,by simp [World.setCell],fun i hi hne=>Below.heap_setCell _ _ _ _ (by intro h; exact hne (by rw [h]))⟩
theorem grown_setCells (b:Nat):∀ (vs:List Value) (o:Nat) (w:World),w.grownBy (w.setCells b o vs) (some b)
  | [],_,w=>⟨rfl,rfl,rfl,Nat.le_refl _,fun _ _ _=>rfl⟩
  | v :: r,o,w=>by
    have h:=grown_setCell' w b o v
    have k:=grown_setCells b r (o + 1) (w.setCell ⟨b,o,none⟩ v)
    exact ⟨k.os.trans h.os,k.tape.trans h.tape,k.output.trans h.output,Nat.le_trans h.size k.size,fun i hi hne=>(k.block i (Nat.lt_of_lt_of_le hi h.size) hne).trans (h.block i hi hne)⟩
def vals (m:Nat) (h:Nat→Int):List Value:=(List.range m).map fun i=>.int .u8 (h i)
theorem vals_len (m:Nat) (h:Nat→Int):(vals m h).length = m:=by simp [vals]
theorem By.cells {w:World} {g n:Nat} {f:Nat→Int} (b:By w g n f) (a m:Nat) (h:Nat→Int) (hl:a + m ≤ n):By (w.setCells g a (vals m h)) g n (lay f a m h):=by
  refine ⟨by rw [size_setCells]; exact b.1,fun i hi=>⟨?_,by rw [World.frozen?_setCells]; exact (b.2 i hi).2⟩⟩
  unfold lay
  by_cases e:a ≤ i∧i < a + m
  · rw [if_pos e]
    have:=World.cell?_setCells_in g (vals m h) a w (fun j hj=>by rw [vals_len] at hj; rw [(b.2 (a + j) (by omega)).1]; rfl) (i - a) (by rw [vals_len]; omega)
    rw [show a + (i - a) = i by omega] at this
    rw [this]
    simp [vals]
  · rw [if_neg e,World.cell?_setCells_out g (vals m h) a w _ (fun _ _=>by rw [vals_len]; show i < a ∨ a + m ≤ i; omega)]
    exact (b.2 i hi).1
theorem okB.lay {n m:Nat} {f h:Nat→Int} (hf:okB n f) (a:Nat) (hh:okB m h):okB n (lay f a m h):=fun i hi=>by
  unfold Proofs.YtgljdbabagdhlaaGreat.F.lay
  split
  · exact hh _ (by omega)
  · exact hf i hi
theorem Mem.turn {w w' : World} {p g n:Nat} {f f' : Nat→Int} (b:Mem w p g n f) (h:w.grownBy w' (some g)) (hb:By w' g (n * 256) f') (ho:okB (n * 256) f'):Mem w' p g n f' :=
  ⟨Nat.lt_of_lt_of_le b.lt h.size,(h.cell_far _ b.lt (by intro e; exact b.ne (by injection e))).trans b.cell,hb,b.ne,ho⟩
theorem Frames_any {w : World} {p g n : Nat} {f : Nat → Int} (hM : Mem w p g n f) (hn : n ≤ 4096) :
    Calls Tryz.prog 143 #[.pointer (some ⟨p,0,none⟩)] w fun e w'=>e = .returned (.int .i64 n)∧w' = w:=by
  have hc:=hM.cell
  clear hM
  go_enter Tryz.func143,Tryz.ntmps143
  go_wp2
  go_ret
  exact ⟨ret_int (by omega),rfl⟩
theorem made_any {w : World} {p g n : Nat} {f : Nat → Int} (hM : Mem w p g n f) (h1 : 1 ≤ n) (hn : n ≤ 4096) :
    Calls Tryz.prog 112 #[.pointer (some ⟨p,0,none⟩)] w fun e w'=>e = .returned (.bool true)∧w' = w:=by
  go_enter Tryz.func112,Tryz.ntmps112
  go_wp2_with (go_at_call 143; refine (Frames_any hM hn).mono ?_; rintro e w' ⟨rfl,rfl⟩)
  go_ret
  exact ⟨ret_bool (by simp; omega),rfl⟩
theorem there_any {w : World} {p g n : Nat} {f : Nat → Int} (hM : Mem w p g n f) (hn : n ≤ 4096) (pa : Int) (h0 : 0 ≤ pa) (h1 : pa < 18446744073709551616) :
    Calls Tryz.prog 113 #[.pointer (some ⟨p,0,none⟩),.int .u64 pa] w fun e w'=>e = .returned (.bool (decide (pa < n * 256)))∧w' = w:=by
  by_cases hs:pa < 1048576
  · go_enter Tryz.func113,Tryz.ntmps113
    go_wp2_with (first | (go_at_call 144; refine (Frame_ok pa h0 hs w).mono ?_; rintro e w' ⟨rfl,rfl⟩) | (go_at_call 143; refine (Frames_any hM hn).mono ?_; rintro e w' ⟨rfl,rfl⟩))
    go_ret
    exact ⟨ret_bool (by rw [Bool.eq_iff_iff]; simp; omega),rfl⟩
  · go_enter Tryz.func113,Tryz.ntmps113
    go_wp2_with (first | (go_at_call 144; refine (Frame_no pa (by omega) h1 w).mono ?_; rintro e w' ⟨rfl,rfl⟩) | (go_at_call 143; refine (Frames_any hM hn).mono ?_; rintro e w' ⟨rfl,rfl⟩))
    go_ret
    exact ⟨ret_bool (by rw [Bool.eq_iff_iff]; simp; omega),rfl⟩
theorem ret_slice2 {a:Option Addr} {l l' c c' : Nat} {k:IntKind} {v:Int} (h:l = l') (h' : c = c'):Ending.returned (.tuple #[.slice a l c,.int k v]) = .returned (.tuple #[.slice a l' c',.int k v]):=by rw [h,h']
theorem run_ok {w : World} {p g n : Nat} {f : Nat → Int} (hM : Mem w p g n f) (hn : n ≤ 4096) (pa size : Nat) (h1 : 1 ≤ size) (h8 : size ≤ 8) (hl : pa + size ≤ n * 256) :
    Calls Tryz.prog 68 #[.pointer (some ⟨p,0,none⟩),.int .u64 pa,.int .i64 size] w fun e w'=>e = .returned (.tuple #[.slice (some ⟨g,pa,none⟩) size size,.int .i64 0])∧w' = w:=by
  have hc:=hM.cell
  have HM:Hid (Mem w p g n f):=hM
  clear hM
  go_enter Tryz.func68,Tryz.ntmps68
  go_wp2_with (first
    | (go_at_call 112; refine (made_any HM.out (by omega) hn).mono ?_; rintro e w' ⟨rfl,rfl⟩)
    | (go_at_call 113; refine (there_any HM.out hn _ (by omega) (by omega)).mono ?_; rintro e w' ⟨rfl,rfl⟩; rw [decide_eq_true (by omega)]))
  go_ret2
  exact ⟨ret_slice2 (by omega) (by omega),rfl⟩
theorem frame_ok {w : World} {p g n : Nat} {f : Nat → Int} (hM : Mem w p g n f) (hn : n ≤ 4096) (k : Nat) (hk : k < n) :
    Calls Tryz.prog 160 #[.pointer (some ⟨p,0,none⟩),.int .i64 k] w fun e w'=>e = .returned (.tuple #[.slice (some ⟨g,k * 256,none⟩) 256 256,.int .i64 0])∧w' = w:=by
  have hc:=hM.cell
  have HM:Hid (Mem w p g n f):=hM
  clear hM
  go_enter Tryz.func160,Tryz.ntmps160
  go_wp2_with (first
    | (go_at_call 112; refine (made_any HM.out (by omega) hn).mono ?_; rintro e w' ⟨rfl,rfl⟩)
    | (go_at_call 66; refine (Place_ok k 0 (by omega) (by omega) (by omega) (by omega) _).mono ?_; rintro e w' ⟨rfl,rfl⟩; rw [Int.add_zero])
    | (go_at_call 113; refine (there_any HM.out hn _ (by omega) (by omega)).mono ?_; rintro e w' ⟨rfl,rfl⟩; rw [decide_eq_true (by omega)]))
  go_ret2
  exact ⟨ret_slice2 (by omega) (by omega),rfl⟩
theorem Tryz.infoU:(Tryz.prog.info? 5).map (fun i=>(i.zero,i.size,i.bytes)) = some (some (.int .u8 0),1,1):=by kernel_rfl
theorem made_By {w:World} {base g M:Nat} (h:w.ownsRow base 5 1 (.slice (some ⟨g,0,none⟩) M M) M (madeCells #[.int .u8 0] (M * 1)).toList):By w g M (fun _=>0):=by
  rcases h.2 with ⟨hnil,_⟩ | ⟨g',cap',cur,hv,hbase,hb,h1,h2,h3,h4⟩
  · cases hnil
  · cases hv
    rw [toList_madeCells_one] at h4
    refine ⟨(Array.getElem?_eq_some_iff.1 hb).1,fun k hk => ?_⟩
    have hcur:cur[k]? = some (.int .u8 0):=by
      rw [← Array.getElem?_toList, ← List.getElem?_take_of_lt (show k < M * 1 by omega),h4]
      simp [hk]
    simp [World.cell?,World.frozen?,hb,hcur]
theorem New_ok (n : Nat) (h1 : 1 ≤ n) (hn : n ≤ 4096) (w : World) :
    Calls Tryz.prog 41 #[.int .i64 n] w fun e w'=>∃ p g,e = .returned (.tuple #[.pointer (some ⟨p,0,none⟩),.int .i64 0])∧Mem w' p g n (fun _=>0)∧w.grownBy w' none∧w.heap.size ≤ p∧w.heap.size ≤ g:=by
  obtain ⟨i0,hi,hz0,hz1,hz2⟩:=info_parts Tryz.infoU
  go_enter Tryz.func41,Tryz.ntmps41
  go_wp2_with (at_make; refine wpList_make_full _ rfl _ _ 155 rfl w.heap.size 5 i0 (.int .u8 0) 1 Tryz.underlying155 hi hz0 hz1 _ _ _ _ (n * 256) rfl rfl rfl rfl (by rw [hz2]; omega) (by unfold maxLen; omega) (Nat.le_refl _) ?_; intro w1 hown1 hgrow1)
  have hb:By w1 w.heap.size (n * 256) (fun _=>0):=made_By hown1
  have hg:=hgrow1
  have hsz:w.heap.size < w1.heap.size:=hb.1
  clear hown1 hgrow1
  go_ret2
  refine ⟨w1.heap.size,w.heap.size,rfl,⟨by simp, ?_,hb.kept (World.grownBy_alloc _ _ none) (by simp),by omega,fun i _=>⟨by decide,by decide⟩⟩,hg.trans (World.grownBy_alloc _ _ none),by omega,by omega⟩
  show (match (w1.alloc _).heap[w1.heap.size]? with | some (Obj.cells c _ _)=>c[0]? | _=>none) = _
  rw [heap_alloc_last]; rfl
theorem Byte_ok {w : World} {p g n : Nat} {f : Nat → Int} (hM : Mem w p g n f) (hn : n ≤ 4096) (pa : Nat) (hl : pa < n * 256) :
    Calls Tryz.prog 110 #[.pointer (some ⟨p,0,none⟩),.int .u64 pa] w fun e w'=>e = .returned (.tuple #[.int .u8 (f pa),.int .i64 0])∧w' = w:=by
  have hc:=(hM.by'.2 pa hl).1
  have HM:Hid (Mem w p g n f):=hM
  clear hM
  go_enter Tryz.func110,Tryz.ntmps110
  go_wp2_with (go_at_call 68; refine (run_ok HM.out hn pa 1 (by omega) (by omega) (by omega)).mono ?_; rintro e w' ⟨rfl,rfl⟩)
  go_ret2
  exact ⟨rfl,rfl⟩
def num (f:Nat→Int) (a:Nat):Nat→Int
  | 0=>0
  | k + 1=>num f a k + f (a + k) * 256 ^ k
theorem pow256 (k:Nat):(0:Int) < 256 ^ k:=Int.pow_pos (by decide)
theorem num_bd (f:Nat→Int) (a m:Nat) (h:∀ i,i < m→0 ≤ f (a + i)∧f (a + i) < 256):∀ k,k ≤ m→0 ≤ num f a k∧num f a k < 256 ^ k
  | 0,_=>by simp [num]
  | k + 1,hk=>by
    obtain ⟨i0,i1⟩:=num_bd f a m h k (by omega)
    obtain ⟨j0,j1⟩:=h k (by omega)
    have hp:=pow256 k
    simp only [num,Int.pow_succ]
    have h1:0 ≤ f (a + k) * 256 ^ k:=Int.mul_nonneg j0 (by omega)
    have h2:(f (a + k) + 1) * 256 ^ k ≤ 256 * 256 ^ k:=Int.mul_le_mul_of_nonneg_right (by omega) (by omega)
    rw [Int.add_mul] at h2
    omega
theorem pow8 (k:Nat):(2:Int) ^ (8 * k) = 256 ^ k:=by rw [Int.pow_mul]; rfl
theorem or_step (x b:Int) (k:Nat) (hk:k < 8) (x0:0 ≤ x) (x1:x < 256 ^ k) (b0:0 ≤ b) (b1:b < 256):bits .or .u64 x (IntKind.u64.wrap (b * 2 ^ (8 * k))) = x + b * 256 ^ k:=by
  obtain ⟨x,rfl⟩:=Int.eq_ofNat_of_zero_le x0
  obtain ⟨b,rfl⟩:=Int.eq_ofNat_of_zero_le b0
  have e:((256:Nat) ^ k:Nat) = 2 ^ (8 * k):=by rw [Nat.pow_mul]
  have hx:x < 2 ^ (8 * k):=by
    rw [← e]
    refine Int.ofNat_lt.1 ?_
    rw [Int.natCast_pow]
    exact x1
  have hb:b * 2 ^ (8 * k) < 2 ^ 64:=by
    have h1:b * 2 ^ (8 * k) < 256 * 2 ^ (8 * k):=Nat.mul_lt_mul_of_pos_right (by omega) (Nat.two_pow_pos _)
    have h2:256 * 2 ^ (8 * k) = 2 ^ (8 * k + 8):=by rw [Nat.pow_add]; omega
    have h3:2 ^ (8 * k + 8) ≤ 2 ^ 64:=Nat.pow_le_pow_right (by decide) (by omega)
    omega
  have hx6:x < 2 ^ 64:=Nat.lt_of_lt_of_le hx (Nat.pow_le_pow_right (by decide) (by omega))
  have ew:IntKind.u64.wrap ((b:Int) * 2 ^ (8 * k)) = ((b * 2 ^ (8 * k):Nat):Int):=by
    rw [IntKind.wrap_u64]
    push_cast
    rw [Int.emod_eq_of_lt (Int.mul_nonneg (by omega) (Int.le_of_lt (Int.pow_pos (by decide)))) (by
      have:=Int.ofNat_lt.2 hb
      rw [Int.natCast_mul,Int.natCast_pow] at this
      exact this)]
  rw [ew,u64_or _ _ (by omega) (by omega) (by omega) (by omega)]
  have:=Nat.two_pow_add_eq_or_of_lt hx b
  simp only [Int.toNat_natCast]
  rw [Nat.or_comm,Nat.mul_comm, ← this, ← pow8]
  push_cast
  rw [Int.mul_comm,Int.add_comm]
theorem Load_ok {w : World} {p g n : Nat} {f : Nat → Int} (hM : Mem w p g n f) (hn : n ≤ 4096) (pa size : Nat) (h1 : 1 ≤ size) (h8 : size ≤ 8) (hl : pa + size ≤ n * 256) :
    Calls Tryz.prog 29 #[.pointer (some ⟨p,0,none⟩),.int .u64 pa,.int .i64 size] w fun e w'=>e = .returned (.tuple #[.int .u64 (num f pa size),.int .i64 0])∧w' = w:=by
  have HM:Hid (Mem w p g n f):=hM
  clear hM
  go_enter Tryz.func29,Tryz.ntmps29
  go_wp2_with (go_at_call 68; refine (run_ok HM.out hn pa size h1 h8 hl).mono ?_; rintro e w' ⟨rfl,rfl⟩)
  go_loop [10,25] (fun v i=>∃ k:Nat,k ≤ size∧i = .int .i64 k∧v = .int .u64 (num f pa k)) (fun _ i=>size - (intOf i).toNat)
  case atStart=>exact ⟨0,by omega,rfl,rfl⟩
  case round=>
    obtain ⟨k,hk,rfl,rfl⟩:=hrel
    by_cases hlt:k < size
    · have hc:=(HM.out.by'.2 (pa + k) (by omega)).1
      obtain ⟨b0,b1⟩:=HM.out.ok (pa + k) (by omega)
      obtain ⟨c0,c1⟩:=num_bd f pa size (fun i hi=>HM.out.ok (pa + i) (by omega)) k hk
      have HE:Hid _:=or_step (num f pa k) (f (pa + k)) k (by omega) c0 c1 b0 b1
      clear c0 c1
      go_wp2
      go_round
      case rel=>exact ⟨k + 1,by omega,by go_num,by rw [HE.out]; rfl⟩
      case measure=>simp [intOf]; omega
    · obtain rfl:k = size:=by omega
      go_wp2
      go_ret2
      exact ⟨rfl,rfl⟩
def byt (v:Int) (i:Nat):Int:=v / 256 ^ i % 256
theorem byt_ok (m:Nat) (v:Int):okB m (byt v):=fun i _=>⟨Int.emod_nonneg _ (by decide),Int.emod_lt_of_pos _ (by decide)⟩
theorem lay_next (f:Nat→Int) (a k:Nat) (h:Nat→Int) (i:Nat):lay f a (k + 1) h i = upd (lay f a k h) (a + k) (h k) i:=by
  unfold upd lay
  show (if a ≤ i∧i < a + (k + 1) then h (i - a) else f i) = if i = a + k then h k else if a ≤ i∧i < a + k then h (i - a) else f i
  by_cases e:i = a + k
  · subst e
    rw [if_pos (by omega),if_pos rfl,Nat.add_sub_cancel_left]
  · rw [if_neg e]
    by_cases e2:a ≤ i∧i < a + k
    · rw [if_pos e2,if_pos (by omega)]
    · rw [if_neg e2,if_neg (by omega)]
theorem lay_zero (f:Nat→Int) (a:Nat) (h:Nat→Int) (i:Nat):lay f a 0 h i = f i:=by
  unfold lay
  rw [if_neg (by omega)]
theorem Store_ok {w : World} {p g n : Nat} {f : Nat → Int} (hM : Mem w p g n f) (hn : n ≤ 4096) (pa size : Nat) (h1 : 1 ≤ size) (h8 : size ≤ 8) (hl : pa + size ≤ n * 256) (v : Int) (hv0 : 0 ≤ v) (hv1 : v < 18446744073709551616) :
    Calls Tryz.prog 28 #[.pointer (some ⟨p,0,none⟩),.int .u64 pa,.int .i64 size,.int .u64 v] w fun e w'=>e = .returned (.int .i64 0)∧Mem w' p g n (lay f pa size (byt v))∧w.grownBy w' (some g):=by
  have HM:Hid (Mem w p g n f):=hM
  clear hM
  go_enter Tryz.func28,Tryz.ntmps28
  go_wp2_with (go_at_call 68; refine (run_ok HM.out hn pa size h1 h8 hl).mono ?_; rintro e w' ⟨rfl,rfl⟩)
  go_loopw [24] (fun i wr=>∃ k:Nat,k ≤ size∧i = .int .i64 k∧By wr g (n * 256) (lay f pa k (byt v))∧w'.grownBy wr (some g)) (fun i _=>size - (intOf i).toNat)
  case atStart=>exact ⟨0,by omega,rfl,HM.out.by'.congr (fun i _=>(lay_zero f pa _ i).symm),World.grownBy.refl _ _⟩
  case round=>
    obtain ⟨k,hk,rfl,hb,hg⟩:=hrel
    by_cases hlt:k < size
    · obtain ⟨hc,hf⟩:=hb.2 (pa + k) (by omega)
      have HB:Hid (By wr g (n * 256) (lay f pa k (byt v))):=hb
      have HG:Hid (w'.grownBy wr (some g)):=hg
      clear hb hg
      generalize lay f pa k (byt v) (pa + k) = old at *
      go_wp2
      go_roundw
      case rel=>
        rw [pow8]
        refine ⟨k + 1,by omega,by go_num,(HB.out.set (pa + k) (byt v k)).congr (fun i _=>(lay_next f pa k _ i).symm),HG.out.trans (grown_setCell' _ _ _ _)⟩
      case measure=>simp [intOf]; omega
    · obtain rfl:k = size:=by omega
      have HB:Hid (By wr g (n * 256) (lay f pa k (byt v))):=hb
      have HG:Hid (w'.grownBy wr (some g)):=hg
      clear hb hg
      go_wp2
      go_ret
      exact ⟨rfl,HM.out.turn HG.out HB.out (HM.out.ok.lay pa (byt_ok _ v)),HG.out⟩
theorem Tryz.zeroU:(Tryz.prog.info? 5).map (fun i=>(i.zero,i.size)) = some (some (.int .u8 0),1):=by kernel_rfl
theorem vals_zero (m:Nat):List.replicate m (Value.int .u8 0) = vals m (fun _=>0):=by
  simp only [vals,List.map_const',List.length_range]
theorem Zero_ok {w : World} {p g n : Nat} {f : Nat → Int} (hM : Mem w p g n f) (hn : n ≤ 4096) (k : Nat) (hk : k < n) :
    Calls Tryz.prog 129 #[.pointer (some ⟨p,0,none⟩),.int .i64 k] w fun e w'=>e = .returned (.int .i64 0)∧Mem w' p g n (lay f (k * 256) 256 (fun _=>0))∧w.grownBy w' (some g):=by
  have hcl:∀ ty,(Builtin.clear_ #[155] ty #[.slice (some ⟨g,k * 256,none⟩) 256 256]).run Tryz.prog w = .ok (.tuple #[]) (w.setCells g (k * 256) (vals 256 (fun _=>0))):=fun ty=>by
    rw [← vals_zero]
    exact Lib.run_clear_slice w 155 5 ty (.int .u8 0) Tryz.underlying155 (zero_of_info Tryz.zeroU).1 rfl rfl g (k * 256) 256 256 (by decide) (fun j hj=>by rw [(hM.by'.2 _ (by omega)).1]; rfl) (fun j hj=>(hM.by'.2 _ (by omega)).2)
  have HM:Hid (Mem w p g n f):=hM
  clear hM
  have HZ:Hid (By (w.setCells g (k * 256) (vals 256 (fun _=>0))) g (n * 256) (lay f (k * 256) 256 (fun _=>0))):=HM.out.by'.cells _ _ _ (by omega)
  have HG:Hid (w.grownBy (w.setCells g (k * 256) (vals 256 (fun _=>0))) (some g)):=grown_setCells _ _ _ _
  generalize w.setCells g (k * 256) (vals 256 (fun _=>0)) = wz at *
  go_enter Tryz.func129,Tryz.ntmps129
  go_wp2_with (go_at_call 160; refine (frame_ok HM.out hn k hk).mono ?_; rintro e w' ⟨rfl,rfl⟩)
  go_ret
  exact ⟨rfl,HM.out.turn HG.out HZ.out (HM.out.ok.lay _ (fun _ _=>⟨by decide,by decide⟩)),HG.out⟩
theorem num_split (f:Nat→Int) (a c:Nat):∀ d,num f a (c + d) = num f a c + num f (a + c) d * 256 ^ c
  | 0=>by simp [num]
  | d + 1=>by
    rw [← Nat.add_assoc]
    simp only [num]
    rw [num_split f a c d,Int.add_mul,Int.pow_add,Int.mul_assoc,Int.mul_comm (256 ^ d),Nat.add_assoc,Int.add_assoc]
theorem mod_div (v A Q:Int) (hA:0 < A) (hQ:0 < Q):v % (A * Q) / A = v / A % Q:=by
  have hAQ:=Int.mul_pos hA hQ
  have h1:=Int.emod_add_mul_ediv v (A * Q)
  have h0:=Int.emod_nonneg v (show A * Q ≠ 0 by omega)
  have hl:=Int.emod_lt_of_pos v hAQ
  generalize v / (A * Q) = t at *
  generalize v % (A * Q) = r at *
  subst h1
  have h3:(r + A * Q * t) / A = r / A + Q * t:=by rw [Int.mul_assoc]; exact Int.add_mul_ediv_left _ _ (by omega)
  have h4:0 ≤ r / A:=Int.ediv_nonneg h0 (by omega)
  have h5:r / A < Q:=Int.ediv_lt_of_lt_mul hA (by rw [Int.mul_comm]; exact hl)
  rw [h3,Int.add_mul_emod_self_left,Int.emod_eq_of_lt h4 h5]
theorem pow_le (c:Nat) (h:c ≤ 8):(256:Int) ^ c ≤ 18446744073709551616:=by
  have:(256:Nat) ^ c ≤ 256 ^ 8:=Nat.pow_le_pow_right (by decide) h
  have h2:=Int.ofNat_le.2 this
  rw [Int.natCast_pow,Int.natCast_pow] at h2
  exact h2
theorem num_lt (f:Nat→Int) (a m:Nat) (hm:m ≤ 8) (h:∀ i,i < m→0 ≤ f (a + i)∧f (a + i) < 256):0 ≤ num f a m∧num f a m < 18446744073709551616:=by
  obtain ⟨h0,h1⟩:=num_bd f a m h m (Nat.le_refl _)
  exact ⟨h0,Int.lt_of_lt_of_le h1 (pow_le m hm)⟩
end Go.Proofs.YtgljdbabagdhlaaGreat.F
