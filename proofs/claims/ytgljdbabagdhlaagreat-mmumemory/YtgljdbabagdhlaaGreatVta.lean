/- Page tables as a plain function: which frame is the table of a depth and a number under a root, read off the words that the frames hold; what one word turned makes of it; no condition but those named. -/
import Derived.Test.YtgljdbabagdhlaaGreatRows
import Derived.Test.YtgljdbabagdhlaaGreatVHa
import Derived.Test.YtgljdbabagdhlaaGreatVaa
namespace Go.Proofs.YtgljdbabagdhlaaGreat.Pg
set_option linter.unusedVariables false
set_option maxRecDepth 8192
def tb (W:Nat→Nat→Int) (r:Nat):Nat→Nat→Option Nat
  | 0,k=>if k = 0 then some r else none
  | d + 1,k=>match tb W r d (k / 32) with
    | none=>none
    | some f=>if W f (k % 32) % 2 = 1 then some (W f (k % 32) / 256).toNat else none
theorem tb_zero (W:Nat→Nat→Int) (r k:Nat):tb W r 0 k = if k = 0 then some r else none:=rfl
theorem tb_some {W:Nat→Nat→Int} {r d k f:Nat} (h:tb W r d (k / 32) = some f):tb W r (d + 1) k = if W f (k % 32) % 2 = 1 then some (W f (k % 32) / 256).toNat else none:=by
  rw [tb,h]
theorem tb_none {W:Nat→Nat→Int} {r d k:Nat} (h:tb W r d (k / 32) = none):tb W r (d + 1) k = none:=by
  rw [tb,h]
theorem tb_up {W:Nat→Nat→Int} {r d k g:Nat} (h:tb W r (d + 1) k = some g):∃ f,tb W r d (k / 32) = some f∧W f (k % 32) % 2 = 1∧g = (W f (k % 32) / 256).toNat:=by
  cases hf:tb W r d (k / 32) with
  | none=>rw [tb_none hf] at h; cases h
  | some f=>
    rw [tb_some hf] at h
    by_cases hw:W f (k % 32) % 2 = 1
    · rw [if_pos hw] at h
      exact ⟨f,rfl,hw,(Option.some.inj h).symm⟩
    · rw [if_neg hw] at h; cases h
theorem tb_lt {W:Nat→Nat→Int} {r:Nat}:∀ {d k f:Nat},tb W r d k = some f→k < 32 ^ d
  | 0,k,f,h=>by
    rw [tb_zero] at h
    by_cases hk:k = 0
    · subst hk; decide
    · rw [if_neg hk] at h; cases h
  | d + 1,k,f,h=>by
    obtain ⟨g,hg,_⟩:=tb_up h
    have:=tb_lt hg
    rw [Nat.pow_succ]
    omega
theorem tb_congr {W W' : Nat→Nat→Int} {r:Nat}:∀ {n:Nat},(∀ d k f,d < n→tb W r d k = some f→∀ i,i < 32→W' f i = W f i)→∀ k,tb W' r n k = tb W r n k
  | 0,_,k=>rfl
  | n + 1,h,k=>by
    have ih:=tb_congr (n:=n) (fun d k f hd=>h d k f (by omega)) (k / 32)
    cases hf:tb W r n (k / 32) with
    | none=>rw [tb_none hf,tb_none (ih.trans hf)]
    | some f=>rw [tb_some hf,tb_some (ih.trans hf),h n (k / 32) f (by omega) hf (k % 32) (Nat.mod_lt _ (by decide))]
def put (W:Nat→Nat→Int) (f i:Nat) (v:Int):Nat→Nat→Int:=fun f' i'=>if f' = f∧i' = i then v else W f' i'
def nought (W:Nat→Nat→Int) (g:Nat):Nat→Nat→Int:=fun f' i'=>if f' = g then 0 else W f' i'
theorem put_same (W:Nat→Nat→Int) (f i:Nat) (v:Int):put W f i v f i = v:=by simp [put]
theorem put_other (W:Nat→Nat→Int) {f i f' i' : Nat} (v:Int) (h:¬ (f' = f∧i' = i)):put W f i v f' i' = W f' i':=by unfold put; rw [if_neg h]
theorem nought_same (W:Nat→Nat→Int) (g i:Nat):nought W g g i = 0:=by simp [nought]
theorem nought_other (W:Nat→Nat→Int) {g f:Nat} (h:f ≠ g) (i:Nat):nought W g f i = W f i:=by unfold nought; rw [if_neg h]
structure Fo (W:Nat→Nat→Int) (R own:Nat→Prop) (L:Int→Prop):Prop where
  ow:∀ r,R r→∀ d k f,d ≤ 3→tb W r d k = some f→own f
  inj:∀ r r',R r→R r'→∀ d d' k k' f,d ≤ 3→d' ≤ 3→tb W r d k = some f→tb W r' d' k' = some f→r = r'∧d = d'∧k = k'
  wf:∀ r,R r→∀ d k f,d < 3→tb W r d k = some f→∀ i,i < 32→W f i = 0 ∨ ∃ g:Nat,W f i = 1 + 256 * (g:Int)
  lf:∀ r,R r→∀ k f,tb W r 3 k = some f→∀ i,i < 32→L (W f i)
theorem word_at {g:Nat} {v:Int} (h:v = 1 + 256 * (g:Int)):v % 2 = 1∧(v / 256).toNat = g:=by
  subst h
  constructor
  · omega
  · omega
theorem Fo.empty {W:Nat→Nat→Int} {R own:Nat→Prop} {L:Int→Prop} (F:Fo W R own L) {r d k f i:Nat} (hr:R r) (hd:d < 3) (h:tb W r d k = some f) (hi:i < 32):tb W r (d + 1) (k * 32 + i) = none ↔ W f i = 0:=by
  have e1:(k * 32 + i) / 32 = k:=by omega
  have e2:(k * 32 + i) % 32 = i:=by omega
  rw [tb_some (by rw [e1]; exact h),e2]
  rcases F.wf r hr d k f hd h i hi with hw | ⟨g,hw⟩
  · rw [hw]; simp
  · rw [if_pos (word_at hw).1]
    constructor
    · intro e; cases e
    · intro e; omega
theorem Fo.next {W:Nat→Nat→Int} {R own:Nat→Prop} {L:Int→Prop} (F:Fo W R own L) {r d k f i g:Nat} (hr:R r) (hd:d < 3) (h:tb W r d k = some f) (hi:i < 32):tb W r (d + 1) (k * 32 + i) = some g ↔ W f i = 1 + 256 * (g:Int):=by
  have e1:(k * 32 + i) / 32 = k:=by omega
  have e2:(k * 32 + i) % 32 = i:=by omega
  rw [tb_some (by rw [e1]; exact h),e2]
  rcases F.wf r hr d k f hd h i hi with hw | ⟨g',hw⟩
  · rw [hw]
    constructor
    · intro e; simp at e
    · intro e; omega
  · rw [if_pos (word_at hw).1,(word_at hw).2]
    constructor
    · intro e; rw [hw,Option.some.inj e]
    · intro e; congr 1; omega
theorem Fo.leaf {W : Nat → Nat → Int} {R own : Nat → Prop} {L : Int → Prop} (F : Fo W R own L) {r k f i : Nat} (hr : R r) (h : tb W r 3 k = some f) (v : Int) (hv : L v) :
    Fo (put W f i v) R own L∧∀ r',R r'→∀ d,d ≤ 3→∀ k',tb (put W f i v) r' d k' = tb W r' d k':=by
  have E:∀ r',R r'→∀ d,d ≤ 3→∀ k',tb (put W f i v) r' d k' = tb W r' d k':=fun r' hr' d hd k' =>
    tb_congr (fun d' k'' f' hd' hf' j hj=>put_other W v (fun e=>by
      have:=(F.inj r' r hr' hr d' 3 k'' k f (by omega) (by omega) (e.1 ▸ hf') h).2.1
      omega)) k'
  refine ⟨⟨fun r' hr' d k' f' hd hf'=>F.ow r' hr' d k' f' hd ((E r' hr' d hd k').symm.trans hf'),fun r1 r2 h1 h2 d d' k1 k2 f' hd hd' hf1 hf2=>F.inj r1 r2 h1 h2 d d' k1 k2 f' hd hd' ((E r1 h1 d hd k1).symm.trans hf1) ((E r2 h2 d' hd' k2).symm.trans hf2),fun r' hr' d k' f' hd hf' j hj => ?_,fun r' hr' k' f' hf' j hj => ?_⟩,E⟩
  · have hf'':=(E r' hr' d (by omega) k').symm.trans hf'
    rw [put_other W v (fun e=>by
      have:=(F.inj r' r hr' hr d 3 k' k f (by omega) (by omega) (e.1 ▸ hf'') h).2.1
      omega)]
    exact F.wf r' hr' d k' f' hd hf'' j hj
  · have hf'':=(E r' hr' 3 (by omega) k').symm.trans hf'
    by_cases e:f' = f∧j = i
    · rw [e.1,e.2,put_same]; exact hv
    · rw [put_other W v e]; exact F.lf r' hr' k' f' hf'' j hj
theorem Fo.nought {W : Nat → Nat → Int} {R own : Nat → Prop} {L : Int → Prop} (F : Fo W R own L) {g : Nat} (hg : ¬ own g) :
    Fo (nought W g) R own L∧∀ r',R r'→∀ d,d ≤ 3→∀ k',tb (nought W g) r' d k' = tb W r' d k':=by
  have E:∀ r',R r'→∀ d,d ≤ 3→∀ k',tb (Pg.nought W g) r' d k' = tb W r' d k':=fun r' hr' d hd k' =>
    tb_congr (fun d' k'' f' hd' hf' j hj=>nought_other W (fun e:f' = g=>hg (by rw [← e]; exact F.ow r' hr' d' k'' f' (by omega) hf')) j) k'
  refine ⟨⟨fun r' hr' d k' f' hd hf'=>F.ow r' hr' d k' f' hd ((E r' hr' d hd k').symm.trans hf'),fun r1 r2 h1 h2 d d' k1 k2 f' hd hd' hf1 hf2=>F.inj r1 r2 h1 h2 d d' k1 k2 f' hd hd' ((E r1 h1 d hd k1).symm.trans hf1) ((E r2 h2 d' hd' k2).symm.trans hf2),fun r' hr' d k' f' hd hf' j hj => ?_,fun r' hr' k' f' hf' j hj => ?_⟩,E⟩
  · have hf'':=(E r' hr' d (by omega) k').symm.trans hf'
    rw [nought_other W (fun e:f' = g=>hg (by rw [← e]; exact F.ow r' hr' d k' f' (by omega) hf''))]
    exact F.wf r' hr' d k' f' hd hf'' j hj
  · have hf'':=(E r' hr' 3 (by omega) k').symm.trans hf'
    rw [nought_other W (fun e:f' = g=>hg (by rw [← e]; exact F.ow r' hr' 3 k' f' (by omega) hf''))]
    exact F.lf r' hr' k' f' hf'' j hj
theorem Fo.link {W : Nat → Nat → Int} {R own : Nat → Prop} {L : Int → Prop} (F : Fo W R own L) {r d k f i g : Nat} (hr : R r) (hd : d < 3) (h : tb W r d k = some f) (hi : i < 32) (h0 : W f i = 0) (hg : ¬ own g) (hz : ∀ j, j < 32 → W g j = 0) (hL : L 0) :
    Fo (put W f i (1 + 256 * (g:Int))) R (fun x=>own x ∨ x = g) L∧∀ r',R r'→∀ d',d' ≤ 3→∀ k',tb (put W f i (1 + 256 * (g:Int))) r' d' k' = if r' = r∧d' = d + 1∧k' = k * 32 + i then some g else tb W r' d' k':=by
  have ow_f:=F.ow r hr d k f (by omega) h
  have hgf:g ≠ f:=fun e=>hg (e ▸ ow_f)
  -- every other table's words stay
  have st:∀ r',R r'→∀ d' k' f',d' < 3→tb W r' d' k' = some f'→¬ (r' = r∧d' = d∧k' = k)→∀ j,put W f i (1 + 256 * (g:Int)) f' j = W f' j:=fun r' hr' d' k' f' hd' hf' hn j=>put_other W _ (fun e=>hn (F.inj r' r hr' hr d' d k' k f (by omega) (by omega) (e.1 ▸ hf') h))
  have E:∀ r',R r'→∀ d',d' ≤ 3→∀ k',tb (put W f i (1 + 256 * (g:Int))) r' d' k' = if r' = r∧d' = d + 1∧k' = k * 32 + i then some g else tb W r' d' k':=by
    intro r' hr' d'
    induction d' with
    | zero=>
      intro _ k'
      rw [if_neg (by omega)]
      rfl
    | succ n ih=>
      intro hn k'
      have ih':=ih (by omega) (k' / 32)
      by_cases hc:r' = r∧n = d + 1∧k' / 32 = k * 32 + i
      · -- under the new table
        rw [if_pos hc] at ih'
        have e0:tb W r' n (k' / 32) = none:=by
          obtain ⟨rfl,rfl,e3⟩:=hc
          rw [e3]
          exact (F.empty hr hd h hi).2 h0
        rw [tb_some ih',tb_none e0,put_other W _ (fun e=>hgf e.1),hz (k' % 32) (Nat.mod_lt _ (by decide)),if_neg (c:=(0:Int) % 2 = 1) (by decide),if_neg (by omega)]
      · rw [if_neg hc] at ih'
        cases hf' : tb W r' n (k' / 32) with
        | none=>
          rw [tb_none (ih'.trans hf'),tb_none hf',if_neg]
          rintro ⟨rfl,e2,rfl⟩
          have e4:(k * 32 + i) / 32 = k:=by omega
          obtain rfl:n = d:=by omega
          rw [e4,h] at hf'
          cases hf'
        | some f' =>
          rw [tb_some (ih'.trans hf'),tb_some hf']
          by_cases hs:r' = r∧n = d∧k' / 32 = k
          · obtain ⟨rfl,rfl,rfl⟩:=hs
            rw [h] at hf'
            obtain rfl:=Option.some.inj hf'
            by_cases hj:k' % 32 = i
            · rw [hj,put_same,if_pos (by omega),if_pos (by have:=Nat.div_add_mod k' 32; omega)]
              congr 1
              omega
            · rw [put_other W _ (fun e=>hj e.2)]
              rw [if_neg (c:=r' = r'∧_) (by rintro ⟨_,_,e⟩; omega)]
          · rw [st r' hr' n (k' / 32) f' (by omega) hf' hs]
            rw [if_neg (c:=r' = r∧_) (by
              rintro ⟨e1,e2,e3⟩
              exact hs ⟨e1,by omega,by omega⟩)]
  have gone:∀ r',R r'→∀ d' k',d' ≤ 3→tb W r' d' k' ≠ some g:=fun r' hr' d' k' hd' e=>hg (F.ow r' hr' d' k' g hd' e)
  refine ⟨⟨fun r' hr' d' k' f' hd' hf' => ?_,fun r1 r2 h1 h2 d1 d2 k1 k2 f' hd1 hd2 hf1 hf2 => ?_,fun r' hr' d' k' f' hd' hf' j hj => ?_,fun r' hr' k' f' hf' j hj => ?_⟩,E⟩
  · rw [E r' hr' d' hd' k'] at hf'
    by_cases hc:r' = r∧d' = d + 1∧k' = k * 32 + i
    · rw [if_pos hc] at hf'; exact Or.inr (Option.some.inj hf').symm
    · rw [if_neg hc] at hf'; exact Or.inl (F.ow r' hr' d' k' f' hd' hf')
  · rw [E r1 h1 d1 hd1 k1] at hf1
    rw [E r2 h2 d2 hd2 k2] at hf2
    by_cases c1:r1 = r∧d1 = d + 1∧k1 = k * 32 + i
    · by_cases c2:r2 = r∧d2 = d + 1∧k2 = k * 32 + i
      · exact ⟨c1.1.trans c2.1.symm,c1.2.1.trans c2.2.1.symm,c1.2.2.trans c2.2.2.symm⟩
      · rw [if_pos c1] at hf1
        rw [if_neg c2] at hf2
        exact absurd ((Option.some.inj hf1) ▸ hf2) (gone r2 h2 d2 k2 hd2)
    · by_cases c2:r2 = r∧d2 = d + 1∧k2 = k * 32 + i
      · rw [if_neg c1] at hf1
        rw [if_pos c2] at hf2
        exact absurd ((Option.some.inj hf2) ▸ hf1) (gone r1 h1 d1 k1 hd1)
      · rw [if_neg c1] at hf1
        rw [if_neg c2] at hf2
        exact F.inj r1 r2 h1 h2 d1 d2 k1 k2 f' hd1 hd2 hf1 hf2
  · rw [E r' hr' d' (by omega) k'] at hf'
    by_cases hc:r' = r∧d' = d + 1∧k' = k * 32 + i
    · rw [if_pos hc] at hf'
      obtain rfl:=Option.some.inj hf'
      rw [put_other W _ (fun e=>hgf e.1)]
      exact Or.inl (hz j hj)
    · rw [if_neg hc] at hf'
      by_cases e:f' = f∧j = i
      · rw [e.1,e.2,put_same]; exact Or.inr ⟨g,rfl⟩
      · rw [put_other W _ e]; exact F.wf r' hr' d' k' f' hd' hf' j hj
  · rw [E r' hr' 3 (by omega) k'] at hf'
    by_cases hc:r' = r∧3 = d + 1∧k' = k * 32 + i
    · rw [if_pos hc] at hf'
      obtain rfl:=Option.some.inj hf'
      rw [put_other W _ (fun e=>hgf e.1),hz j hj]
      exact hL
    · rw [if_neg hc] at hf'
      rw [put_other W _ (fun e=>by
        have:=(F.inj r' r hr' hr 3 d k' k f (by omega) (by omega) (e.1 ▸ hf') h).2.1
        omega)]
      exact F.lf r' hr' k' f' hf' j hj
theorem Fo.root {W : Nat → Nat → Int} {R own : Nat → Prop} {L : Int → Prop} (F : Fo W R own L) {g : Nat} (hg : ¬ own g) (hz : ∀ j, j < 32 → W g j = 0) :
    Fo W (fun x=>R x ∨ x = g) (fun x=>own x ∨ x = g) L∧∀ d k,tb W g d k = if d = 0∧k = 0 then some g else none:=by
  have E:∀ d k,tb W g d k = if d = 0∧k = 0 then some g else none:=by
    intro d
    induction d with
    | zero=>intro k; rw [tb_zero]; simp
    | succ n ih=>
      intro k
      have:=ih (k / 32)
      by_cases hc:n = 0∧k / 32 = 0
      · rw [if_pos hc] at this
        rw [tb_some this,hz (k % 32) (Nat.mod_lt _ (by decide)),if_neg (c:=(0:Int) % 2 = 1) (by decide),if_neg (by omega)]
      · rw [if_neg hc] at this
        rw [tb_none this,if_neg (by omega)]
  have only:∀ {d k f},tb W g d k = some f→d = 0∧k = 0∧f = g:=fun {d k f} h=>by
    rw [E] at h
    by_cases hc:d = 0∧k = 0
    · rw [if_pos hc] at h; exact ⟨hc.1,hc.2,(Option.some.inj h).symm⟩
    · rw [if_neg hc] at h; cases h
  refine ⟨⟨fun r hr d k f hd hf => ?_,fun r1 r2 h1 h2 d1 d2 k1 k2 f hd1 hd2 hf1 hf2 => ?_,fun r hr d k f hd hf i hi => ?_,fun r hr k f hf i hi => ?_⟩,E⟩
  · rcases hr with hr | rfl
    · exact Or.inl (F.ow r hr d k f hd hf)
    · exact Or.inr (only hf).2.2
  · rcases h1 with h1 | rfl
    · rcases h2 with h2 | rfl
      · exact F.inj r1 r2 h1 h2 d1 d2 k1 k2 f hd1 hd2 hf1 hf2
      · obtain ⟨_,_,rfl⟩:=only hf2
        exact absurd (F.ow r1 h1 d1 k1 f hd1 hf1) hg
    · rcases h2 with h2 | rfl
      · obtain ⟨_,_,rfl⟩:=only hf1
        exact absurd (F.ow r2 h2 d2 k2 f hd2 hf2) hg
      · obtain ⟨a1,a2,_⟩:=only hf1
        obtain ⟨b1,b2,_⟩:=only hf2
        exact ⟨rfl,a1.trans b1.symm,a2.trans b2.symm⟩
  · rcases hr with hr | rfl
    · exact F.wf r hr d k f hd hf i hi
    · obtain ⟨_,_,rfl⟩:=only hf
      exact Or.inl (hz i hi)
  · rcases hr with hr | rfl
    · exact F.lf r hr k f hf i hi
    · exact absurd (only hf).1 (by decide)
theorem num_congr {f g:Nat→Int} {a b:Nat}:∀ {n:Nat},(∀ j,j < n→f (a + j) = g (b + j))→F.num f a n = F.num g b n
  | 0,_=>rfl
  | n + 1,h=>by
    unfold F.num
    rw [num_congr (fun j hj=>h j (by omega)),h n (by omega)]
theorem num_byt (v:Int):∀ k,F.num (F.byt v) 0 k = v % 256 ^ k
  | 0=>by simp [F.num]
  | k + 1=>by
    unfold F.num
    rw [num_byt v k,Nat.zero_add]
    unfold F.byt
    have h1:(0:Int) < 256 ^ k:=F.pow256 k
    have h2:=F.mod_div v (256 ^ k) 256 h1 (by decide)
    rw [Int.pow_succ]
    have h3:=Int.emod_emod_of_dvd v (Int.dvd_mul_right (256 ^ k) (256:Int))
    have h4:=Int.mul_ediv_add_emod (v % (256 ^ k * 256)) (256 ^ k)
    rw [h2,h3] at h4
    rw [Int.mul_comm (v / 256 ^ k % 256) (256 ^ k)]
    omega
theorem num_nought (m:Nat→Int) (a:Nat) (h:∀ j,j < 8→m (a + j) = 0):F.num m a 8 = 0:=by
  have:F.num m a 8 = F.num (fun _=>(0:Int)) 0 8:=num_congr h
  rw [this]
  decide
def wd (m:Nat→Int) (f i:Nat):Int:=if i < 32 then F.num m (f * 256 + i * 8) 8 else 0
theorem wd_at (m:Nat→Int) (f:Nat) {i:Nat} (hi:i < 32):wd m f i = F.num m (f * 256 + i * 8) 8:=by unfold wd; rw [if_pos hi]
theorem lay_in (f:Nat→Int) (a k:Nat) (h:Nat→Int) {j:Nat} (hj:j < k):F.lay f a k h (a + j) = h j:=by
  unfold F.lay
  rw [if_pos (by omega)]
  congr 1
  omega
theorem lay_out (f:Nat→Int) (a k:Nat) (h:Nat→Int) {x:Nat} (hx:x < a ∨ a + k ≤ x):F.lay f a k h x = f x:=by
  unfold F.lay
  rw [if_neg (by omega)]
theorem wd_put (m:Nat→Int) (f:Nat) {i:Nat} (hi:i < 32) {v:Int} (h0:0 ≤ v) (h1:v < 18446744073709551616):wd (F.lay m (f * 256 + i * 8) 8 (F.byt v)) = put (wd m) f i v:=by
  funext f' i'
  by_cases hi' : i' < 32
  · rw [wd_at _ _ hi']
    by_cases e:f' = f∧i' = i
    · obtain ⟨rfl,rfl⟩:=e
      rw [put_same]
      have:F.num (F.lay m (f' * 256 + i' * 8) 8 (F.byt v)) (f' * 256 + i' * 8) 8 = F.num (F.byt v) 0 8:=num_congr (fun j hj=>by rw [lay_in _ _ _ _ hj,Nat.zero_add])
      rw [this,num_byt]
      exact Int.emod_eq_of_lt h0 (by simpa using h1)
    · rw [put_other _ _ e,wd_at _ _ hi']
      refine num_congr (fun j hj=>lay_out _ _ _ _ ?_)
      by_cases ef:f' = f
      · subst ef
        have:i' ≠ i:=fun q=>e ⟨rfl,q⟩
        omega
      · omega
  · have hn:¬ (f' = f∧i' = i):=fun e=>hi' (by omega)
    rw [put_other _ _ hn]
    unfold wd
    rw [if_neg hi',if_neg hi']
theorem wd_nought (m:Nat→Int) (g:Nat):wd (F.lay m (g * 256) 256 (fun _=>0)) = nought (wd m) g:=by
  funext f i
  by_cases hi:i < 32
  · rw [wd_at _ _ hi]
    by_cases e:f = g
    · subst e
      rw [nought_same]
      refine num_nought _ _ (fun j hj => ?_)
      rw [show f * 256 + i * 8 + j = f * 256 + (i * 8 + j) by omega,lay_in _ _ _ _ (by omega)]
    · rw [nought_other _ e,wd_at _ _ hi]
      refine num_congr (fun j hj=>lay_out _ _ _ _ ?_)
      omega
  · by_cases e:f = g
    · subst e
      rw [nought_same]
      unfold wd
      rw [if_neg hi]
    · rw [nought_other _ e]
      unfold wd
      rw [if_neg hi,if_neg hi]
theorem wd_other (m:Nat→Int) {a k:Nat} (h:Nat→Int) {f:Nat} (hf:a + k ≤ f * 256 ∨ f * 256 + 256 ≤ a) (i:Nat):wd (F.lay m a k h) f i = wd m f i:=by
  unfold wd
  by_cases hi:i < 32
  · rw [if_pos hi,if_pos hi]
    exact num_congr (fun j hj=>lay_out _ _ _ _ (by omega))
  · rw [if_neg hi,if_neg hi]
theorem Fo.same {W W' : Nat→Nat→Int} {R own:Nat→Prop} {L:Int→Prop} (F:Fo W R own L) (h:∀ f,own f→∀ i,i < 32→W' f i = W f i):Fo W' R own L∧∀ r,R r→∀ d,d ≤ 3→∀ k,tb W' r d k = tb W r d k:=by
  have E:∀ r,R r→∀ d,d ≤ 3→∀ k,tb W' r d k = tb W r d k:=fun r hr d hd k=>tb_congr (fun d' k' f hd' hf i hi=>h f (F.ow r hr d' k' f (by omega) hf) i hi) k
  refine ⟨⟨fun r hr d k f hd hf=>F.ow r hr d k f hd ((E r hr d hd k).symm.trans hf),fun r1 r2 h1 h2 d d' k1 k2 f hd hd' hf1 hf2=>F.inj r1 r2 h1 h2 d d' k1 k2 f hd hd' ((E r1 h1 d hd k1).symm.trans hf1) ((E r2 h2 d' hd' k2).symm.trans hf2),fun r hr d k f hd hf i hi => ?_,fun r hr k f hf i hi => ?_⟩,E⟩
  · have hf':=(E r hr d (by omega) k).symm.trans hf
    rw [h f (F.ow r hr d k f (by omega) hf') i hi]
    exact F.wf r hr d k f hd hf' i hi
  · have hf':=(E r hr 3 (by omega) k).symm.trans hf
    rw [h f (F.ow r hr 3 k f (by omega) hf') i hi]
    exact F.lf r hr k f hf' i hi
def sm (f:Nat→Nat):Nat→Nat
  | 0=>0
  | n + 1=>sm f n + f n
theorem sm_congr {f g:Nat→Nat}:∀ {n:Nat},(∀ i,i < n→f i = g i)→sm f n = sm g n
  | 0,_=>rfl
  | n + 1,h=>by rw [sm,sm,sm_congr (fun i hi=>h i (by omega)),h n (by omega)]
theorem sm_zero {f:Nat→Nat}:∀ {n:Nat},(∀ i,i < n→f i = 0)→sm f n = 0
  | 0,_=>rfl
  | n + 1,h=>by rw [sm,sm_zero (fun i hi=>h i (by omega)),h n (by omega)]
theorem sm_add (f g:Nat→Nat):∀ n,sm (fun i=>f i + g i) n = sm f n + sm g n
  | 0=>rfl
  | n + 1=>by simp only [sm,sm_add f g n]; omega
def ct (p:Nat→Bool) (a n:Nat):Nat:=A.cn (fun j=>p (a + j)) n
theorem ct_zero (p:Nat→Bool) (a:Nat):ct p a 0 = 0:=rfl
theorem ct_succ (p:Nat→Bool) (a n:Nat):ct p a (n + 1) = ct p a n + (if p (a + n) = true then 1 else 0):=by
  unfold ct
  rw [A.cn]
theorem ct_one (p:Nat→Bool) (a:Nat):ct p a 1 = if p a = true then 1 else 0:=by rw [ct_succ,ct_zero]; simp
theorem ct_none {p:Nat→Bool} {a:Nat}:∀ {n:Nat},(∀ j,j < n→p (a + j) = false)→ct p a n = 0
  | 0,_=>rfl
  | n + 1,h=>by rw [ct_succ,ct_none (fun j hj=>h j (by omega)),h n (by omega)]; simp
theorem ct_add (p:Nat→Bool) (a m:Nat):∀ n,ct p a (m + n) = ct p a m + ct p (a + m) n
  | 0=>by simp [ct_zero]
  | n + 1=>by
    rw [← Nat.add_assoc,ct_succ,ct_add p a m n,ct_succ,Nat.add_assoc a m n]
    omega
theorem ct_split (p:Nat→Bool) (a m:Nat):∀ n,ct p a (n * m) = sm (fun i=>ct p (a + i * m) m) n
  | 0=>by rw [Nat.zero_mul]; rfl
  | n + 1=>by rw [Nat.add_mul,Nat.one_mul,ct_add,ct_split p a m n,sm]
def gone (p nd:Nat→Nat→Bool):Nat→Nat→Nat→Nat
  | 0,_,_=>0
  | l + 1,d,k=>sm (fun i=>if p (d + 1) (k * 32 + i) = true then gone p nd l (d + 1) (k * 32 + i) + (if nd (d + 1) (k * 32 + i) = true then 0 else 1) else 0) 32
def byd (p nd:Nat→Nat→Bool) (d k:Nat):Nat→Nat
  | 0=>0
  | e + 1=>byd p nd d k e + ct (fun x=>p (d + (e + 1)) x && !nd (d + (e + 1)) x) (k * 32 ^ (e + 1)) (32 ^ (e + 1))
def Clo (p:Nat→Nat→Bool):Prop:=∀ d k,p (d + 1) k = true→p d (k / 32) = true
theorem Clo.up {p:Nat→Nat→Bool} (h:Clo p):∀ {e d k:Nat},p (d + e) k = true→p d (k / 32 ^ e) = true
  | 0,d,k,q=>by rw [Nat.pow_zero,Nat.div_one]; exact q
  | e + 1,d,k,q=>by
    have:=h (d + e) k (by rw [Nat.add_assoc]; exact q)
    have:=h.up this
    rwa [Nat.div_div_eq_div_mul,Nat.mul_comm, ← Nat.pow_succ] at this
theorem byd_shift (p nd:Nat→Nat→Bool) (d k:Nat):∀ e,byd p nd d k (e + 1) = ct (fun x=>p (d + 1) x && !nd (d + 1) x) (k * 32) 32 + sm (fun i=>byd p nd (d + 1) (k * 32 + i) e) 32
  | 0=>by
    have h0:sm (fun i=>byd p nd (d + 1) (k * 32 + i) 0) 32 = 0:=sm_zero (fun i hi=>rfl)
    rw [byd,byd,h0]
    simp
  | e + 1=>by
    rw [byd,byd_shift p nd d k e]
    have h1:ct (fun x=>p (d + (e + 1 + 1)) x && !nd (d + (e + 1 + 1)) x) (k * 32 ^ (e + 1 + 1)) (32 ^ (e + 1 + 1)) = sm (fun i=>ct (fun x=>p (d + 1 + (e + 1)) x && !nd (d + 1 + (e + 1)) x) ((k * 32 + i) * 32 ^ (e + 1)) (32 ^ (e + 1))) 32:=by
      have e1:32 ^ (e + 1 + 1) = 32 * 32 ^ (e + 1):=by rw [Nat.pow_succ,Nat.mul_comm]
      have e2:d + (e + 1 + 1) = d + 1 + (e + 1):=by omega
      rw [e1,ct_split,e2]
      refine sm_congr (fun i _ => ?_)
      congr 1
      rw [Nat.add_mul,Nat.mul_assoc]
    rw [h1,Nat.add_assoc, ← sm_add]
    rfl
theorem byd_none {p nd:Nat→Nat→Bool} (hc:Clo p) {d k:Nat} (h:p d k = false):∀ e,byd p nd d k e = 0
  | 0=>rfl
  | e + 1=>by
    rw [byd,byd_none hc h e,ct_none (fun j hj => ?_)]
    by_cases hp:p (d + (e + 1)) (k * 32 ^ (e + 1) + j) = true
    · have:=hc.up hp
      have e1:(k * 32 ^ (e + 1) + j) / 32 ^ (e + 1) = k:=by
        rw [Nat.mul_comm,Nat.mul_add_div (Nat.pow_pos (by decide)),Nat.div_eq_of_lt hj,Nat.add_zero]
      rw [e1,h] at this
      cases this
    · simp only [Bool.not_eq_true] at hp
      simp only [hp,Bool.false_and]
theorem gone_byd {p nd:Nat→Nat→Bool} (hc:Clo p):∀ l d k,gone p nd l d k = byd p nd d k l
  | 0,_,_=>rfl
  | l + 1,d,k=>by
    rw [byd_shift,gone]
    have h1:ct (fun x=>p (d + 1) x && !nd (d + 1) x) (k * 32) 32 = sm (fun i=>if (p (d + 1) (k * 32 + i) && !nd (d + 1) (k * 32 + i)) = true then 1 else 0) 32:=by
      have:=ct_split (fun x=>p (d + 1) x && !nd (d + 1) x) (k * 32) 1 32
      rw [Nat.mul_one] at this
      rw [this]
      exact sm_congr (fun i _=>by rw [ct_one,Nat.mul_one])
    rw [h1, ← sm_add]
    refine sm_congr (fun i _ => ?_)
    by_cases hp:p (d + 1) (k * 32 + i) = true
    · rw [if_pos hp,gone_byd hc l (d + 1) (k * 32 + i),hp]
      cases nd (d + 1) (k * 32 + i)
      · simp; omega
      · simp
    · simp only [Bool.not_eq_true] at hp
      rw [byd_none hc hp,hp]
      simp
def pr (W:Nat→Nat→Int) (r d k:Nat):Bool:=(tb W r d k).isSome
theorem pr_clo (W:Nat→Nat→Int) (r:Nat):Clo (pr W r):=fun d k h=>by
  unfold pr at h ⊢
  cases hg:tb W r (d + 1) k with
  | none=>rw [hg] at h; cases h
  | some g=>
    obtain ⟨f,hf,_⟩:=tb_up hg
    rw [hf]
    rfl
def qd:Nat→Int
  | 0=>1048576
  | 1=>32768
  | 2=>1024
  | _=>32
def nd (xs:List (Int × Int)) (d k:Nat):Bool:=A.cov (qd d) xs k
theorem nd_up {xs:List (Int × Int)} {d k:Nat} (hd:d < 3) (h:nd xs (d + 1) k = true):nd xs d (k / 32) = true:=by
  unfold nd at h ⊢
  rw [A.cov_iff] at h ⊢
  obtain ⟨s,hs,hn⟩:=h
  refine ⟨s,hs, ?_⟩
  rw [A.ned_iff] at hn ⊢
  rcases (show d = 0 ∨ d = 1 ∨ d = 2 by omega) with rfl | rfl | rfl
  · simp only [qd] at hn ⊢; omega
  · simp only [qd] at hn ⊢; omega
  · simp only [qd] at hn ⊢; omega
theorem cn_sub (p q:Nat→Bool):∀ M,A.cn (fun k=>p k && !q k) M + A.cn (fun k=>p k && q k) M = A.cn p M
  | 0=>rfl
  | M + 1=>by
    have:=cn_sub p q M
    simp only [A.cn]
    rcases Bool.eq_false_or_eq_true (p M) with e1 | e1 <;> rcases Bool.eq_false_or_eq_true (q M) with e2 | e2 <;> simp [e1,e2] <;> omega
def all (p:Nat→Nat→Bool):Nat:=1 + A.cn (p 3) 32768 + A.cn (p 2) 1024 + A.cn (p 1) 32
theorem ct_cn (p:Nat→Bool) (M:Nat):ct p 0 M = A.cn p M:=A.cn_congr M (fun k _=>by rw [Nat.zero_add])
theorem gone_root {p q:Nat→Nat→Bool} (hc:Clo p):gone p q 3 0 0 = A.cn (fun k=>p 1 k && !q 1 k) 32 + A.cn (fun k=>p 2 k && !q 2 k) 1024 + A.cn (fun k=>p 3 k && !q 3 k) 32768:=by
  rw [gone_byd hc]
  simp only [byd,Nat.zero_mul,Nat.zero_add,ct_cn]
theorem gone_nothing {p:Nat→Nat→Bool} (hc:Clo p):1 + gone p (fun _ _=>false) 3 0 0 = all p:=by
  rw [gone_root hc]
  unfold all
  simp only [Bool.not_false,Bool.and_true]
  have e1:A.cn (fun k=>p 1 k) 32 = A.cn (p 1) 32:=rfl
  have e2:A.cn (fun k=>p 2 k) 1024 = A.cn (p 2) 1024:=rfl
  have e3:A.cn (fun k=>p 3 k) 32768 = A.cn (p 3) 32768:=rfl
  omega
theorem total_all (xs:List (Int × Int)):A.total xs = all (nd xs):=rfl
theorem all_gone {p q:Nat→Nat→Bool} (hc:Clo p):all (fun d k=>p d k && q d k) + gone p q 3 0 0 = all p:=by
  rw [gone_root hc]
  have h1:=cn_sub (p 1) (q 1) 32
  have h2:=cn_sub (p 2) (q 2) 1024
  have h3:=cn_sub (p 3) (q 3) 32768
  show 1 + A.cn (fun k=>p 3 k && q 3 k) 32768 + A.cn (fun k=>p 2 k && q 2 k) 1024 + A.cn (fun k=>p 1 k && q 1 k) 32 + _ = all p
  unfold all
  omega
def miss (p q:Nat→Nat→Bool):Nat:=A.cn (fun k=>q 3 k && !p 3 k) 32768 + A.cn (fun k=>q 2 k && !p 2 k) 1024 + A.cn (fun k=>q 1 k && !p 1 k) 32
theorem all_miss (p q:Nat→Nat→Bool):all (fun d k=>p d k && q d k) + miss p q = all q:=by
  have e1:A.cn (fun k=>q 1 k && p 1 k) 32 = A.cn (fun k=>p 1 k && q 1 k) 32:=A.cn_congr _ (fun k _=>Bool.and_comm _ _)
  have e2:A.cn (fun k=>q 2 k && p 2 k) 1024 = A.cn (fun k=>p 2 k && q 2 k) 1024:=A.cn_congr _ (fun k _=>Bool.and_comm _ _)
  have e3:A.cn (fun k=>q 3 k && p 3 k) 32768 = A.cn (fun k=>p 3 k && q 3 k) 32768:=A.cn_congr _ (fun k _=>Bool.and_comm _ _)
  have h1:=cn_sub (q 1) (p 1) 32
  have h2:=cn_sub (q 2) (p 2) 1024
  have h3:=cn_sub (q 3) (p 3) 32768
  show 1 + A.cn (fun k=>p 3 k && q 3 k) 32768 + A.cn (fun k=>p 2 k && q 2 k) 1024 + A.cn (fun k=>p 1 k && q 1 k) 32 + _ = all q
  unfold all miss
  omega
theorem cn_more {p p' : Nat→Bool} {t:Nat} (h0:p t = false) (h1:p' t = true) (hs:∀ k,k ≠ t→p' k = p k):∀ {M:Nat},t < M→A.cn p' M = A.cn p M + 1
  | 0,h=>absurd h (Nat.not_lt_zero _)
  | M + 1,h=>by
    simp only [A.cn]
    by_cases e:t = M
    · subst e
      rw [h0,h1,A.cn_congr t (fun k hk=>hs k (by omega))]
      simp
    · rw [cn_more h0 h1 hs (by omega:t < M),hs M (fun q=>e q.symm)]
      omega
theorem all_more {p p' : Nat→Nat→Bool} {d k:Nat} (hd:0 < d) (hd3:d ≤ 3) (hk:k < 32 ^ d) (h0:p d k = false) (h1:p' d k = true) (hs:∀ d' k',¬ (d' = d∧k' = k)→p' d' k' = p d' k'):all p' = all p + 1:=by
  have same:∀ d',d' ≠ d→∀ M,A.cn (p' d') M = A.cn (p d') M:=fun d' hn M=>A.cn_congr M (fun k' _=>hs d' k' (fun e=>hn e.1))
  have more:∀ M,k < M→A.cn (p' d) M = A.cn (p d) M + 1:=fun M hM=>cn_more h0 h1 (fun k' hk'=>hs d k' (fun e=>hk' e.2)) hM
  unfold all
  rcases (show d = 1 ∨ d = 2 ∨ d = 3 by omega) with rfl | rfl | rfl
  · rw [same 3 (by decide),same 2 (by decide),more 32 (by simpa using hk)]; omega
  · rw [same 3 (by decide),same 1 (by decide),more 1024 (by simpa using hk)]; omega
  · rw [same 2 (by decide),same 1 (by decide),more 32768 (by simpa using hk)]; omega
def Cl (W:Nat→Nat→Int) (r:Nat) (C:Nat→Nat→Prop) (f i:Nat):Prop:=∃ d k,d < 3∧C (d + 1) k∧tb W r d (k / 32) = some f∧k % 32 = i∧tb W r (d + 1) k ≠ none
def Clf (W:Nat→Nat→Int) (r:Nat) (C:Nat→Nat→Prop) (f:Nat):Prop:=∃ d k,d < 3∧C (d + 1) k∧tb W r (d + 1) k = some f
open Classical in
noncomputable def Wc (W:Nat→Nat→Int) (r:Nat) (C:Nat→Nat→Prop):Nat→Nat→Int:=fun f i=>if Cl W r C f i then 0 else W f i
open Classical in
noncomputable def Uc (W:Nat→Nat→Int) (r:Nat) (C:Nat→Nat→Prop) (us:Nat→Option Nat):Nat→Option Nat:=fun f=>if Clf W r C f then none else us f
theorem Wc_pos {W:Nat→Nat→Int} {r:Nat} {C:Nat→Nat→Prop} {f i:Nat} (h:Cl W r C f i):Wc W r C f i = 0:=if_pos h
theorem Wc_neg {W:Nat→Nat→Int} {r:Nat} {C:Nat→Nat→Prop} {f i:Nat} (h:¬ Cl W r C f i):Wc W r C f i = W f i:=if_neg h
theorem Uc_pos {W:Nat→Nat→Int} {r:Nat} {C:Nat→Nat→Prop} {us:Nat→Option Nat} {f:Nat} (h:Clf W r C f):Uc W r C us f = none:=if_pos h
theorem Uc_neg {W:Nat→Nat→Int} {r:Nat} {C:Nat→Nat→Prop} {us:Nat→Option Nat} {f:Nat} (h:¬ Clf W r C f):Uc W r C us f = us f:=if_neg h
theorem Wc_none (W:Nat→Nat→Int) (r:Nat):Wc W r (fun _ _=>False) = W:=by
  funext f i
  exact Wc_neg (fun ⟨_,_,_,h,_⟩=>h)
theorem Uc_none (W:Nat→Nat→Int) (r:Nat) (us:Nat→Option Nat):Uc W r (fun _ _=>False) us = us:=by
  funext f
  exact Uc_neg (fun ⟨_,_,_,h,_⟩=>h)
theorem Wc_congr {W:Nat→Nat→Int} {r:Nat} {C C' : Nat→Nat→Prop} (h:∀ d k,d < 3→tb W r (d + 1) k ≠ none→(C (d + 1) k ↔ C' (d + 1) k)):Wc W r C = Wc W r C':=by
  funext f i
  have:Cl W r C f i ↔ Cl W r C' f i:=⟨fun ⟨d,k,h1,h2,h3,h4,h5⟩=>⟨d,k,h1,(h d k h1 h5).1 h2,h3,h4,h5⟩,fun ⟨d,k,h1,h2,h3,h4,h5⟩=>⟨d,k,h1,(h d k h1 h5).2 h2,h3,h4,h5⟩⟩
  by_cases q:Cl W r C f i
  · rw [Wc_pos q,Wc_pos (this.1 q)]
  · rw [Wc_neg q,Wc_neg (fun z=>q (this.2 z))]
theorem Uc_congr {W:Nat→Nat→Int} {r:Nat} {C C' : Nat→Nat→Prop} (us:Nat→Option Nat) (h:∀ d k,d < 3→tb W r (d + 1) k ≠ none→(C (d + 1) k ↔ C' (d + 1) k)):Uc W r C us = Uc W r C' us:=by
  funext f
  have:Clf W r C f ↔ Clf W r C' f:=⟨fun ⟨d,k,h1,h2,h3⟩=>⟨d,k,h1,(h d k h1 (by rw [h3]; exact nofun)).1 h2,h3⟩,fun ⟨d,k,h1,h2,h3⟩=>⟨d,k,h1,(h d k h1 (by rw [h3]; exact nofun)).2 h2,h3⟩⟩
  by_cases q:Clf W r C f
  · rw [Uc_pos q,Uc_pos (this.1 q)]
  · rw [Uc_neg q,Uc_neg (fun z=>q (this.2 z))]
theorem Wc_put {W : Nat → Nat → Int} {r d k f g : Nat} {C : Nat → Nat → Prop} (hd : d < 3) (h : tb W r d (k / 32) = some f) (hg : tb W r (d + 1) k = some g) :
    put (Wc W r C) f (k % 32) 0 = Wc W r (fun d' k'=>C d' k' ∨ (d' = d + 1∧k' = k)):=by
  funext f' i'
  by_cases e:f' = f∧i' = k % 32
  · rw [e.1,e.2,put_same,Wc_pos ⟨d,k,hd,Or.inr ⟨rfl,rfl⟩,h,rfl,by rw [hg]; exact nofun⟩]
  · rw [put_other _ _ e]
    by_cases q:Cl W r C f' i'
    · rw [Wc_pos q]
      obtain ⟨d',k',h1,h2,h3⟩:=q
      rw [Wc_pos ⟨d',k',h1,Or.inl h2,h3⟩]
    · rw [Wc_neg q,Wc_neg]
      rintro ⟨d',k',h1,h2 | ⟨h2,rfl⟩,h3,h4,h5⟩
      · exact q ⟨d',k',h1,h2,h3,h4,h5⟩
      · obtain rfl:d' = d:=by omega
        rw [h] at h3
        exact e ⟨(Option.some.inj h3).symm,h4.symm⟩
theorem Uc_put {W : Nat → Nat → Int} {r d k g : Nat} {C : Nat → Nat → Prop} {us : Nat → Option Nat} (hd : d < 3) (hg : tb W r (d + 1) k = some g) :
    (fun x=>if x = g then none else Uc W r C us x) = Uc W r (fun d' k'=>C d' k' ∨ (d' = d + 1∧k' = k)) us:=by
  funext f'
  by_cases e:f' = g
  · rw [if_pos e,Uc_pos ⟨d,k,hd,Or.inr ⟨rfl,rfl⟩,by rw [e]; exact hg⟩]
  · rw [if_neg e]
    by_cases q:Clf W r C f'
    · rw [Uc_pos q]
      obtain ⟨d',k',h1,h2,h3⟩:=q
      rw [Uc_pos ⟨d',k',h1,Or.inl h2,h3⟩]
    · rw [Uc_neg q,Uc_neg]
      rintro ⟨d',k',h1,h2 | ⟨h2,rfl⟩,h3⟩
      · exact q ⟨d',k',h1,h2,h3⟩
      · obtain rfl:d' = d:=by omega
        rw [hg] at h3
        exact e (Option.some.inj h3).symm
theorem Wc_at {W:Nat→Nat→Int} {R own:Nat→Prop} {L:Int→Prop} (F:Fo W R own L) {r r' d k f i:Nat} {C:Nat→Nat→Prop} (hr:R r) (hr' : R r') (hd:d ≤ 3) (h:tb W r' d k = some f) (hi:i < 32) (hc:r' = r→d < 3→¬ C (d + 1) (k * 32 + i)):Wc W r C f i = W f i:=by
  refine Wc_neg ?_
  rintro ⟨d',k',h1,h2,h3,h4,h5⟩
  obtain ⟨rfl,rfl,rfl⟩:=F.inj r r' hr hr' d' d (k' / 32) k f (by omega) hd h3 h
  have e:k' / 32 * 32 + i = k':=by omega
  rw [e] at hc
  exact hc rfl h1 h2
theorem Uc_at {W:Nat→Nat→Int} {R own:Nat→Prop} {L:Int→Prop} (F:Fo W R own L) {r r' d k f:Nat} {C:Nat→Nat→Prop} {us:Nat→Option Nat} (hr:R r) (hr' : R r') (hd:d ≤ 3) (h:tb W r' d k = some f) (hc:r' = r→0 < d→¬ C d k):Uc W r C us f = us f:=by
  refine Uc_neg ?_
  rintro ⟨d',k',h1,h2,h3⟩
  obtain ⟨rfl,rfl,rfl⟩:=F.inj r r' hr hr' (d' + 1) d k' k f (by omega) hd h3 h
  exact hc rfl (by omega) h2
def Sub (W:Nat→Nat→Int) (r:Nat) (C:Nat→Nat→Prop):Prop:=∀ d k,0 < d→d < 3→C d (k / 32)→tb W r (d + 1) k ≠ none→C (d + 1) k
open Classical in
theorem tb_struck {W : Nat → Nat → Int} {R own : Nat → Prop} {L : Int → Prop} (F : Fo W R own L) {r : Nat} {C : Nat → Nat → Prop} (hr : R r) (hs : Sub W r C) {r' : Nat} (hr' : R r') :
    ∀ d,d ≤ 3→∀ k,tb (Wc W r C) r' d k = if r' = r∧0 < d∧C d k then none else tb W r' d k
  | 0,_,k=>by rw [if_neg (by omega)]; rfl
  | d + 1,hd,k=>by
    have ih:=tb_struck F hr hs hr' d (by omega) (k / 32)
    by_cases hc:r' = r∧0 < d∧C d (k / 32)
    · rw [if_pos hc] at ih
      rw [tb_none ih]
      by_cases hz:tb W r' (d + 1) k = none
      · rw [hz,ite_self]
      · rw [if_pos ⟨hc.1,by omega,hs d k hc.2.1 (by omega) hc.2.2 (by rw [← hc.1]; exact hz)⟩]
    · rw [if_neg hc] at ih
      cases hf:tb W r' d (k / 32) with
      | none=>rw [tb_none (ih.trans hf),tb_none hf,ite_self]
      | some f=>
        rw [tb_some (ih.trans hf)]
        have e1:k / 32 * 32 + k % 32 = k:=by omega
        by_cases hq:r' = r∧0 < d + 1∧C (d + 1) k
        · rw [if_pos hq]
          by_cases hl:Cl W r C f (k % 32)
          · rw [Wc_pos hl,if_neg (by decide)]
          · rw [Wc_neg hl]
            by_cases hz:tb W r' (d + 1) k = none
            · rw [tb_some hf] at hz; exact hz
            · exact absurd ⟨d,k,by omega,hq.2.2,by rw [← hq.1]; exact hf,rfl,by rw [← hq.1]; exact hz⟩ hl
        · rw [if_neg hq,tb_some hf,Wc_at F hr hr' (by omega) hf (Nat.mod_lt _ (by decide)) (fun e1' _=>by rw [e1]; exact fun z=>hq ⟨e1',by omega,z⟩)]
theorem Fo.strike {W:Nat→Nat→Int} {R own:Nat→Prop} {L:Int→Prop} (F:Fo W R own L) {r:Nat} {C:Nat→Nat→Prop} (hr:R r) (hs:Sub W r C):Fo (Wc W r C) R (fun x=>own x∧¬ Clf W r C x) L:=by
  have cut:∀ {r' d k f},R r'→d ≤ 3→tb (Wc W r C) r' d k = some f→tb W r' d k = some f∧¬ (r' = r∧0 < d∧C d k):=fun {r' d k f} hr' hd h=>by
    rw [tb_struck F hr hs hr' d hd k] at h
    split at h
    · cases h
    · exact ⟨h,by assumption⟩
  refine ⟨fun r' hr' d k f hd hf => ?_,fun r1 r2 h1 h2 d d' k1 k2 f hd hd' hf1 hf2=>F.inj r1 r2 h1 h2 d d' k1 k2 f hd hd' (cut h1 hd hf1).1 (cut h2 hd' hf2).1,fun r' hr' d k f hd hf i hi => ?_,fun r' hr' k f hf i hi => ?_⟩
  · obtain ⟨h1,h2⟩:=cut hr' hd hf
    refine ⟨F.ow r' hr' d k f hd h1, ?_⟩
    rintro ⟨d',k',q1,q2,q3⟩
    obtain ⟨rfl,rfl,rfl⟩:=F.inj r r' hr hr' (d' + 1) d k' k f (by omega) hd q3 h1
    exact h2 ⟨rfl,by omega,q2⟩
  · obtain ⟨h1,h2⟩:=cut hr' (by omega) hf
    by_cases q:Cl W r C f i
    · exact Or.inl (Wc_pos q)
    · rw [Wc_neg q]; exact F.wf r' hr' d k f hd h1 i hi
  · obtain ⟨h1,h2⟩:=cut hr' (by omega) hf
    rw [Wc_at F hr hr' (Nat.le_refl 3) h1 hi (fun _ q=>absurd q (by omega))]
    exact F.lf r' hr' k f h1 i hi
theorem Fo.own_congr {W:Nat→Nat→Int} {R R' own own' : Nat→Prop} {L:Int→Prop} (F:Fo W R own L) (hR:∀ x,R' x ↔ R x) (h:∀ x,own x→own' x):Fo W R' own' L:=
  ⟨fun r hr d k f hd hf=>h f (F.ow r ((hR r).1 hr) d k f hd hf),fun r1 r2 h1 h2=>F.inj r1 r2 ((hR r1).1 h1) ((hR r2).1 h2),fun r hr=>F.wf r ((hR r).1 hr),fun r hr=>F.lf r ((hR r).1 hr)⟩
def nds (W:Nat→Nat→Int) (r:Nat):Nat→Nat→Nat→List (Nat × Nat)
  | 0,_,_=>[]
  | l + 1,d,k=>(List.range 32).flatMap fun i=>if (tb W r (d + 1) (k * 32 + i)).isSome then nds W r l (d + 1) (k * 32 + i) ++ [(d + 1,k * 32 + i)] else []
def ndn (W:Nat→Nat→Int) (r l d k n:Nat):List (Nat × Nat):=(List.range n).flatMap fun i=>if (tb W r (d + 1) (k * 32 + i)).isSome then nds W r l (d + 1) (k * 32 + i) ++ [(d + 1,k * 32 + i)] else []
theorem ndn_succ (W:Nat→Nat→Int) (r l d k n:Nat):ndn W r l d k (n + 1) = ndn W r l d k n ++ (if (tb W r (d + 1) (k * 32 + n)).isSome then nds W r l (d + 1) (k * 32 + n) ++ [(d + 1,k * 32 + n)] else []):=by
  simp [ndn,List.range_succ]
theorem nds_all (W:Nat→Nat→Int) (r l d k:Nat):nds W r (l + 1) d k = ndn W r l d k 32:=rfl
theorem mem_nds {W:Nat→Nat→Int} {r:Nat}:∀ {l d k:Nat} {x:Nat × Nat},x ∈ nds W r l d k→d < x.1∧x.1 ≤ d + l∧x.2 / 32 ^ (x.1 - d) = k∧tb W r x.1 x.2 ≠ none
  | 0,_,_,_,h=>by simp [nds] at h
  | l + 1,d,k,x,h=>by
    simp only [nds,List.mem_flatMap,List.mem_range] at h
    obtain ⟨i,hi,h⟩:=h
    split at h
    · rename_i hs
      rcases List.mem_append.1 h with h | h
      · obtain ⟨h1,h2,h3,h4⟩:=mem_nds h
        refine ⟨by omega,by omega, ?_,h4⟩
        have e:x.1 - d = (x.1 - (d + 1)) + 1:=by omega
        rw [e,Nat.pow_succ, ← Nat.div_div_eq_div_mul,h3]
        omega
      · simp only [List.mem_singleton] at h
        subst h
        refine ⟨by show d < d + 1; omega,by show d + 1 ≤ d + (l + 1); omega, ?_,fun e=>by rw [e] at hs; cases hs⟩
        show (k * 32 + i) / 32 ^ (d + 1 - d) = k
        rw [show d + 1 - d = 1 by omega,Nat.pow_one]
        omega
    · simp at h
theorem tb_anc {W:Nat→Nat→Int} {r:Nat}:∀ {e d k:Nat},tb W r (d + e) k ≠ none→tb W r d (k / 32 ^ e) ≠ none
  | 0,d,k,h=>by rw [Nat.pow_zero,Nat.div_one]; exact h
  | e + 1,d,k,h=>by
    have h1:tb W r (d + e) (k / 32) ≠ none:=fun q=>h (by rw [← Nat.add_assoc]; exact tb_none q)
    have h2:=tb_anc h1
    rwa [Nat.div_div_eq_div_mul,Nat.mul_comm, ← Nat.pow_succ] at h2
theorem nds_mem {W:Nat→Nat→Int} {r:Nat}:∀ {l d k d' k' : Nat},d < d'→d' ≤ d + l→k' / 32 ^ (d' - d) = k→tb W r d' k' ≠ none→(d',k') ∈ nds W r l d k
  | 0,d,k,d',k',h1,h2,_,_=>by omega
  | l + 1,d,k,d',k',h1,h2,h3,h4=>by
    simp only [nds,List.mem_flatMap,List.mem_range]
    have e:d' - d = (d' - (d + 1)) + 1:=by omega
    rw [e,Nat.pow_succ, ← Nat.div_div_eq_div_mul] at h3
    obtain ⟨m,hm⟩:∃ m,k' / 32 ^ (d' - (d + 1)) = m:=⟨_,rfl⟩
    rw [hm] at h3
    have em:k * 32 + m % 32 = m:=by omega
    have h5:tb W r (d + 1) m ≠ none:=by
      have:=tb_anc (W:=W) (r:=r) (e:=d' - (d + 1)) (d:=d + 1) (k:=k') (by rw [show d + 1 + (d' - (d + 1)) = d' by omega]; exact h4)
      rwa [hm] at this
    refine ⟨m % 32,Nat.mod_lt _ (by decide), ?_⟩
    rw [em,if_pos (by cases q:tb W r (d + 1) m with
      | none=>exact absurd q h5
      | some g=>rfl)]
    by_cases e1:d' = d + 1
    · subst e1
      rw [Nat.sub_self,Nat.pow_zero,Nat.div_one] at hm
      subst hm
      exact List.mem_append_right _ (List.mem_singleton.2 rfl)
    · exact List.mem_append_left _ (nds_mem (by omega) (by omega) hm h4)
theorem nds_nodup {W:Nat→Nat→Int} {r:Nat}:∀ l d k,(nds W r l d k).Nodup
  | 0,_,_=>List.nodup_nil
  | l + 1,d,k=>by
    have key:∀ n,n ≤ 32→(ndn W r l d k n).Nodup∧∀ x ∈ ndn W r l d k n,∃ i,i < n∧d < x.1∧x.2 / 32 ^ (x.1 - (d + 1)) = k * 32 + i:=by
      intro n
      induction n with
      | zero=>intro _; exact ⟨List.nodup_nil,fun x hx=>by simp [ndn] at hx⟩
      | succ n ih=>
        intro hn
        obtain ⟨h1,h2⟩:=ih (by omega)
        rw [ndn_succ]
        have h3:∀ x ∈ (if (tb W r (d + 1) (k * 32 + n)).isSome then nds W r l (d + 1) (k * 32 + n) ++ [(d + 1,k * 32 + n)] else []),d < x.1∧x.2 / 32 ^ (x.1 - (d + 1)) = k * 32 + n:=by
          intro x hx
          split at hx
          · rcases List.mem_append.1 hx with hx | hx
            · obtain ⟨q1,q2,q3,_⟩:=mem_nds hx
              exact ⟨by omega,q3⟩
            · rw [List.mem_singleton.1 hx]
              refine ⟨Nat.lt_succ_self d, ?_⟩
              show (k * 32 + n) / 32 ^ (d + 1 - (d + 1)) = k * 32 + n
              rw [Nat.sub_self,Nat.pow_zero,Nat.div_one]
          · simp at hx
        refine ⟨List.nodup_append.2 ⟨h1, ?_,fun a ha b hb e => ?_⟩,fun x hx => ?_⟩
        · split
          · refine List.nodup_append.2 ⟨nds_nodup l (d + 1) _,List.pairwise_singleton _ _,fun a ha b hb e => ?_⟩
            rw [List.mem_singleton.1 hb] at e
            have:=(mem_nds ha).1
            rw [e] at this
            exact absurd this (Nat.lt_irrefl _)
          · exact List.nodup_nil
        · subst e
          obtain ⟨i,q1,q2,q3⟩:=h2 a ha
          have:=(h3 a hb).2
          omega
        · rcases List.mem_append.1 hx with hx | hx
          · obtain ⟨i,q1,q2⟩:=h2 x hx
            exact ⟨i,by omega,q2⟩
          · exact ⟨n,by omega,h3 x hx⟩
    exact (key 32 (Nat.le_refl _)).1
end Go.Proofs.YtgljdbabagdhlaaGreat.Pg
