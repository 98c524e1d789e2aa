/- Tables of a configuration; the chapter's rows; what the statements' own awake gives back; no condition. -/
import Derived.Test.YtgljdbabagdhlaaGreatVth
import Derived.Test.YtgljdbabagdhlaaGreatVWa
namespace Go.Proofs.YtgljdbabagdhlaaGreat.Pg
open P E Go.ChangeShapes Go.WideShapes Go.ChangeAt Go.RowKit
set_option linter.unusedVariables false
set_option maxRecDepth 8192
theorem spn_new (w:World) (a n:Int):Spn (w.alloc (.cells #[.int .i64 a,.int .i64 n] 86)) (some ⟨w.heap.size,0,none⟩) [(a,n)]:=by
  have b:=C.blk_new w [.int .i64 a,.int .i64 n] 86
  refine Or.inr ⟨_,0,rfl,b.lt,fun i hi => ?_⟩
  obtain rfl:i = 0:=by simpa using hi
  exact ⟨b.cell 0,b.cell 1⟩
variable {w0 w:World} {Z:Nat→Prop} {t c p:Nat} {h:Hw} {P:Par} {S:E.Sc × Us} {m:Nat→Option Nat}
theorem Sm.trans {Z:Nat→Prop} {w w' w'' : World} (s:Sm Z w w') (s' : Sm Z w' w''):Sm Z w w'':=fun k hk=>(s' k hk).trans (s k hk)
theorem Ts.less {Z' : Nat→Prop} (K:Ts w0 Z t c p h P S m w) (hz:∀ k,Z' k→Z k):Ts w0 Z' t c p h P S m w:=K.more (Below.refl _ _) (fun k hk=>Or.inl (hz k hk))
theorem Ts.make (K:Ts w0 Z t c p h P S m w) (o:Obj):Ts w0 (fun k=>Z k ∨ k = w.heap.size) t c p h P S m (w.alloc o)∧Sm Z w (w.alloc o):=by
  have b:Below w.heap.size w (w.alloc o):=(Below.refl _ _).alloc (Nat.le_refl _) _
  exact ⟨K.more b (fun k hk=>hk.imp id fun q=>⟨by omega,by rw [q]; simp⟩),K.zt.sm b⟩
theorem cn_pts (p:Nat→Bool) (t M:Nat) (hp:p t = false) (hM:t < M):A.cn (fun k=>p k || k == t) M = A.cn p M + 1:=cn_more hp (by simp) (fun k hk=>by simp [hk]) hM
theorem cn_no (M:Nat):A.cn (fun _=>false) M = 0:=by rw [← ct_cn]; exact ct_none (fun _ _=>rfl)
theorem cn_pt (t M:Nat) (hM:t < M):A.cn (fun k=>k == t) M = 1:=by
  have:=cn_pts (fun _=>false) t M rfl hM
  rw [cn_no] at this
  simpa using this
theorem ned_pt (q a n:Int) (t:Nat) (h0:0 < n) (h1:a / q = t) (h2:(a + n - 1) / q = t) (k:Nat):A.ned q (a,n) k = (k == t):=by
  rw [Bool.eq_iff_iff,A.ned_iff,beq_iff_eq]
  simp only [h1,h2]
  omega
theorem cov1 (q:Int) (s:Int × Int):A.cov q [s] = A.ned q s:=by funext k; simp [A.cov]
theorem q1:(par us 1).q 3 = 6:=by decide
theorem q0:(par us 0).q 3 = 8:=by decide
structure Aw (w w' : World) (Z:Nat→Prop) (t c p r:Nat) (S:E.Sc × Us) (m:Nat→Option Nat):Prop where
  ts:Ts w Z t c p (hwOf us) (par us 1) S m w'
  rt:m r ≠ none
  cu:cU S.2 3 4096 = 4
  al:all (pr (wd S.1.m) r) = 4
  l0:pr (wd S.1.m) r 3 0 = true
  l1:pr (wd S.1.m) r 3 1 = false
end Go.Proofs.YtgljdbabagdhlaaGreat.Pg
