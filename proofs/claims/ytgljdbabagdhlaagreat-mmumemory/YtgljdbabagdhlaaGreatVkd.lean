/- What a core's sweep, Zero, Copy, Bring give back and leave; no condition but those named. -/
import Derived.Test.YtgljdbabagdhlaaGreatVkb
import Derived.Test.YtgljdbabagdhlaaGreatVHa
import Derived.Test.YtgljdbabagdhlaaGreatVFa
import Derived.Deep.Cut
import Derived.Deep.CutRange
import Derived.Deep.CutBlock
import Derived.Deep.RegionWith
import Derived.Deep.RegionHeld3
import Derived.Deep.AppendLies
import Derived.Laws.AppendOwnNone
import Derived.Deep.QuietTactic
import Derived.BigQuiet
import Derived.Laws.IdiomCopy
import Derived.Deep.WholeRow
namespace Go.Proofs.YtgljdbabagdhlaaGreat.E
open Go.ChangeShapes Go.WideShapes Go.ChangeAt Go.RowKit
set_option linter.unusedVariables false
set_option maxRecDepth 8192
def swF (fs:Nat→Nat) (m:Nat) (x:Nat):Nat:=fs (x % m) * 256 + x / m * 16
theorem swF_at (fs:Nat→Nat) {m i j:Nat} (hj:j < m):swF fs m (i * m + j) = fs j * 256 + i * 16:=by
  unfold swF
  have h1:(i * m + j) % m = j:=by rw [Nat.mul_comm,Nat.mul_add_mod]; exact Nat.mod_eq_of_lt hj
  have h2:(i * m + j) / m = i:=by rw [Nat.mul_comm,Nat.mul_add_div (by omega),Nat.div_eq_of_lt hj]; rfl
  rw [h1,h2]
theorem arg_kp {w w' : World} {ao:Option Addr} {l:Nat} {f:Nat→Int} {X X' : Nat→Prop} (h:Arg w ao l f) (k:C.Kp X X' w w') (hX:∀ b off,ao = some ⟨b,off,none⟩→¬ X b):Arg w' ao l f:=by
  rcases h with h | ⟨b,off,rfl,hb,hc⟩
  · exact Or.inl h
  · exact Or.inr ⟨b,off,rfl,Nat.lt_of_lt_of_le hb k.size,fun i hi=>(World.cell?_of_block (w:=w) (a:=⟨b,off + i,none⟩) (k.block b hb (hX b off rfl))).trans (hc i hi)⟩
theorem Gv.touch {w w1 : World} {X : Nat → Prop} {p : Nat} {h : Hw} {s : Sc} (K : Gv pK w X p h s w1) (pa : Nat) (hp : pa < h.n * 256) :
    Calls Tryz.prog 111 #[.pointer (some ⟨p,0,none⟩),.int .u64 pa] w1 fun e w'=>e = .returned (.agg #[.bool (hA h s pa),.bool (hB h s pa)])∧Gv pK w X p h (tou h s pa) w':=by
  obtain ⟨X1,c,k⟩:=K
  refine (touch_ok c pa hp).mono ?_
  rintro e w' ⟨rfl,g⟩
  exact ⟨rfl,g.pre k⟩
theorem Gv.kp {w w1:World} {X:Nat→Prop} {p:Nat} {h:Hw} {s:Sc} (K:Gv pK w X p h s w1):∃ X',C.Kp X X' w w1:=by
  obtain ⟨X1,_,k⟩:=K
  exact ⟨X1,k⟩
set_option maxHeartbeats 1000000 in
theorem sweep_ok {w : World} {X : Nat → Prop} {p : Nat} {h : Hw} {s : Sc} (K : Cr pK w X p h s) {ao : Option Addr} {m c : Nat} {fs : Nat → Nat} (hm : 1 ≤ m) (hm2 : m ≤ 2) (ha : Arg w ao m (fun i => (fs i : Int))) (hX : ∀ b off, ao = some ⟨b, off, none⟩ → ¬ X b) (hin : ∀ i, i < m → fs i < h.n) :
    Calls Tryz.prog 130 #[.pointer (some ⟨p,0,none⟩),.slice ao m c] w fun e w'=>e = .returned (.tuple #[])∧Gv pK w X p h (tw h s (swF fs m) (16 * m)) w':=by
  have hn:=K.ok.n2
  have HK0:Hid (Gv pK w X p h (tw h s (swF fs m) 0) w):=K.gv (Below.refl _ _)
  have HA0:Hid (Arg w ao m (fun i=>(fs i:Int))):=ha
  have HIN:Hid (∀ i,i < m→fs i < h.n):=hin
  have HX:Hid (∀ b off,ao = some ⟨b,off,none⟩→¬ X b):=hX
  clear K ha hin hX
  go_enter Tryz.func130,Tryz.ntmps130
  go_wp2_with fail
  go_loopw [9] (fun i wr=>∃ k:Nat,k ≤ 16∧i = .int .i64 k∧Gv pK w X p h (tw h s (swF fs m) (k * m)) wr) (fun i _=>16 - (D.iv i).toNat)
  case atStart=>exact ⟨0,by omega,rfl,by rw [Nat.zero_mul]; exact HK0.out⟩
  case round=>
    obtain ⟨k,hk,rfl,hG⟩:=hrel
    have HG:Hid (Gv pK w X p h (tw h s (swF fs m) (k * m)) wr):=hG
    clear hG
    by_cases hlt:k < 16
    case' pos=>
      have hd:decide ((k:Int) < 16) = true:=by rw [decide_eq_true_eq]; omega
      go_wp2_with fail
      go_loopw [14] (fun i wr=>∃ j:Nat,j ≤ m∧i = .int .i64 j∧Gv pK w X p h (tw h s (swF fs m) (k * m + j)) wr) (fun i _=>m - (D.iv i).toNat)
      case atStart=>exact ⟨0,by omega,rfl,HG.out⟩
      case round=>
        obtain ⟨j,hj,rfl,hG⟩:=hrel
        have HGj:Hid (Gv pK w X p h (tw h s (swF fs m) (k * m + j)) wr):=hG
        clear hG HG
        by_cases hjm:j < m
        case' pos=>
          obtain ⟨X1,kp⟩:=HGj.out.kp
          obtain ⟨b,off,rfl,hc⟩:=(arg_kp HA0.out kp HX.out).at' (Below.refl _ _) hjm
          have hfj:=HIN.out j hjm
          have hsw:tw h s (swF fs m) (k * m + (j + 1)) = tou h (tw h s (swF fs m) (k * m + j)) (fs j * 256 + k * 16):=by
            rw [← swF_at fs hjm]
            rfl
          have HSW:Hid (tw h s (swF fs m) (k * m + (j + 1)) = tou h (tw h s (swF fs m) (k * m + j)) (fs j * 256 + k * 16)):=hsw
          clear hsw kp
          generalize fs j = fj at *
          have CP:Hid (∀ w:World,Calls Tryz.prog 66 #[.int .i64 (fj:Nat),.int .i64 ((k:Int) * 16)] w fun e w'=>e = .returned (.tuple #[.int .u64 ((fj * 256 + k * 16:Nat):Int),.int .i64 0])∧w' = w):=fun w=>by
            have:=F.Place_ok (fj:Int) ((k:Int) * 16) (by omega) (by omega) (by omega) (by omega) w
            have e:((fj:Int) * 256 + (k:Int) * 16) = ((fj * 256 + k * 16:Nat):Int):=by push_cast; rfl
            rw [e] at this
            exact this
          have CT:Hid (Calls _ _ _ _ _):=HGj.out.touch (fj * 256 + k * 16) (by omega)
          rw [← HSW.out] at CT
          generalize hA h (tw h s (swF fs m) (k * m + j)) (fj * 256 + k * 16) = xa at *
          generalize hB h (tw h s (swF fs m) (k * m + j)) (fj * 256 + k * 16) = xb at *
          generalize fj * 256 + k * 16 = pa at *
          go_wp2_with (first
            | (go_at_call 66; refine (CP.out _).mono ?_; rintro e w' ⟨rfl,rfl⟩)
            | (go_at_call 111; refine CT.out.mono ?_; rintro e w3 ⟨rfl,hg⟩; have HG3:Hid (Gv pK w X p h (tw h s (swF fs m) (k * m + (j + 1))) w3):=hg; clear hg))
          go_roundw
          case rel=>exact ⟨j + 1,by omega,by go_num,HG3.out⟩
          case measure=>simp [D.iv]; omega
        case' neg=>
          obtain rfl:j = m:=by omega
          go_wp2
          go_roundw
          case rel=>exact ⟨k + 1,by omega,by go_num,by rw [Nat.add_mul,Nat.one_mul]; exact HGj.out⟩
          case measure=>simp [D.iv]; omega
    case' neg=>
      obtain rfl:k = 16:=by omega
      go_wp2
      go_end0
      exact ⟨rfl,HG.out⟩
def sw1 (h:Hw) (s:Sc) (a:Nat):Sc:=tw h s (swF (fun _=>a) 1) 16
theorem Gv.sweep1 {w w1 : World} {X : Nat → Prop} {p : Nat} {h : Hw} {s : Sc} (K : Gv pK w X p h s w1) (a : Nat) (ha : a < h.n) :
    Calls Tryz.prog 130 #[.pointer (some ⟨p,0,none⟩),.slice (some ⟨w1.heap.size,0,none⟩) 1 1] (w1.alloc (.cells #[.int .i64 (a:Nat)] 3)) fun e w'=>e = .returned (.tuple #[])∧Gv pK w X p h (sw1 h s a) w':=by
  obtain ⟨X1,c,k⟩:=K
  have b:Below w1.heap.size w1 (w1.alloc (.cells #[.int .i64 (a:Nat)] 3)):=(Below.refl _ _).alloc (Nat.le_refl _) _
  have hb:=C.blk_new w1 [.int .i64 (a:Nat)] 3
  refine (sweep_ok (c.below b) (fs:=fun _=>a) (Nat.le_refl 1) (by omega) (Or.inr ⟨w1.heap.size,0,rfl,hb.lt,fun i hi => ?_⟩) (fun g off e z => ?_) (fun i hi=>ha)).mono ?_
  · obtain rfl:i = 0:=by omega
    exact hb.cell 0
  · injection e with e; injection e with e1 e2 e3; subst e1
    have:=c.lt _ z; omega
  · rintro e w' ⟨rfl,g⟩
    exact ⟨rfl,(g.pre (kp_of_below _ b)).pre k⟩
theorem Cr.memt {w:World} {X:Nat→Prop} {p:Nat} {h:Hw} {s:Sc} (K:Cr pK w X p h s):∃ pm gm,w.cell? ⟨p,0,none⟩ = some (.pointer (some ⟨pm,0,none⟩))∧F.Mem w pm gm h.n s.m∧X gm∧∀ w' m',F.Mem w' pm gm h.n m'→w.grownBy w' (some gm)→Gv pK w X p h { s with m:=m' } w':=by
  obtain ⟨G,P,c,rfl,rfl⟩:=K
  refine ⟨_,_,c.c0,c.mm,⟨1,c.gg⟩,fun w' m' hM hg => ?_⟩
  obtain ⟨c',k'⟩:=c.t1 hM hg
  exact c'.gv k'
theorem Zero_ok {w : World} {X : Nat → Prop} {p : Nat} {h : Hw} {s : Sc} (K : Cr pK w X p h s) (a : Nat) (ha : a < h.n) :
    Calls Tryz.prog 92 #[.pointer (some ⟨p,0,none⟩),.int .i64 (a:Nat)] w fun e w'=>e = .returned (.int .i64 0)∧Gv pK w X p h (sw1 h { s with m:=F.lay s.m (a * 256) 256 (fun _=>0) } a) w':=by
  have HK:Hid (Calls _ _ _ _ _):=K.made
  have hn:=K.ok.n2
  obtain ⟨pm,gm,c0,hM,_,ht⟩:=K.memt
  have CZ:Hid (Calls _ _ _ _ _):=F.Zero_ok hM hn a ha
  have HT:Hid (∀ w' m',F.Mem w' pm gm h.n m'→w.grownBy w' (some gm)→Gv pK w X p h { s with m:=m' } w'):=ht
  clear K hM ht
  go_enter Tryz.func92,Tryz.ntmps92
  go_wp2_with (first
    | (go_at_call 31; refine HK.out.mono ?_; rintro e w' ⟨rfl,rfl⟩)
    | (go_at_call 129; refine CZ.out.mono ?_; rintro e w1 ⟨rfl,m1,g1⟩; have H1:Hid (Gv pK _ X p h { s with m:=F.lay s.m (a * 256) 256 (fun _=>0) } w1):=HT.out _ _ m1 g1; clear m1 g1)
    | (go_at_call 130; refine (H1.out.sweep1 a ha).mono ?_; rintro e w2 ⟨rfl,hg⟩; have H2:Hid (Gv pK _ X p h _ w2):=hg; clear hg))
  go_ret
  exact ⟨rfl,H2.out⟩
end Go.Proofs.YtgljdbabagdhlaaGreat.E
