/- What a TLB holds, as a list of translations, and what each call makes of it; what it is for a world to hold rows of translations; no condition. -/
import Derived.Test.YtgljdbabagdhlaaGreatRows
import Derived.WalkKit
import Derived.ProofKit
import Derived.OpenShut
import Derived.WalkSpells
import Derived.WalkLawsBesides
import Derived.Laws.IdiomCopy
import Derived.Lib.SliceRun
import Derived.Deep.AppendLies
import Derived.Deep.WholeRow
import Derived.Deep.RegionHeld3
import Derived.Deep.RegionHeldLaw
namespace Go.Proofs.YtgljdbabagdhlaaGreat.T
open Go.ChangeShapes Go.WideShapes Go.ChangeAt Go.RowKit
set_option linter.unusedVariables false
set_option maxRecDepth 8192
theorem own:ownKnob Tryz.prog.godebug = none:=by kernel_rfl
theorem ret_bool {a b:Bool} (h:a = b):Ending.returned (.bool a) = .returned (.bool b):=by rw [h]
theorem some_ne {a b:Nat} (h:a ≠ b):some a ≠ some b:=fun e=>h (by injection e)
structure Tr where
  a:Int
  p:Int
  f:Int
  r:Bool
  w:Bool
  d:Bool
def tc (x:Tr):List Value:=[.int .i64 x.a,.int .i64 x.p,.int .i64 x.f,.bool x.r,.bool x.w,.bool x.d]
def tv (l:List Tr):List Value:=l.flatMap tc
def hk (a p:Int) (x:Tr):Bool:=x.a == a && x.p == p
def rm (a p:Int) (l:List Tr):List Tr:=l.filter (fun x=>!hk a p x)
def look (a p:Int) (l:List Tr):Option Tr:=l.find? (hk a p)
def Uq (l:List Tr):Prop:=l.Pairwise (fun x y=>hk x.a x.p y = false)
def fil (n:Nat) (x:Tr) (l:List Tr):List Tr:=(x :: rm x.a x.p l).take n
def mrk (a p:Int) (l:List Tr):List Tr:=l.map (fun x=>if hk a p x then { x with d:=true } else x)
theorem tv_len:∀ l:List Tr,(tv l).length = l.length * 6
  | []=>rfl
  | x :: l=>by
    have:=tv_len l
    simp only [tv,List.flatMap_cons,List.length_append,List.length_cons,List.length_nil,tc] at this ⊢
    omega
theorem tv_app (a b:List Tr):tv (a ++ b) = tv a ++ tv b:=by simp [tv]
theorem tv_cons (x:Tr) (l:List Tr):tv (x :: l) = tc x ++ tv l:=by simp [tv]
theorem tv_one (l:List Tr):∀ v ∈ tv l,v.oneCell' = true:=by
  intro v hv
  simp only [tv,List.mem_flatMap] at hv
  obtain ⟨x,_,h⟩:=hv
  simp only [tc,List.mem_cons,List.not_mem_nil,or_false] at h
  rcases h with rfl | rfl | rfl | rfl | rfl | rfl <;> rfl
theorem tc_one (x:Tr):∀ v ∈ tc x,v.oneCell' = true:=by
  have:=tv_one [x]
  simpa [tv] using this
theorem tv_take:∀ (l:List Tr) (k:Nat),(tv l).take (k * 6) = tv (l.take k)
  | [],k=>by simp [tv]
  | x :: l,0=>by simp [tv]
  | x :: l,k + 1=>by
    rw [tv_cons,show (k + 1) * 6 = (tc x).length + k * 6 by simp [tc]; omega,List.take_length_add_append,tv_take l k,List.take_succ_cons,tv_cons]
theorem tv_drop:∀ (l:List Tr) (k:Nat),(tv l).drop (k * 6) = tv (l.drop k)
  | [],k=>by simp [tv]
  | x :: l,0=>by simp [tv]
  | x :: l,k + 1=>by
    rw [tv_cons,show (k + 1) * 6 = (tc x).length + k * 6 by simp [tc]; omega,List.drop_length_add_append,tv_drop l k,List.drop_succ_cons]
theorem tv_at:∀ {l:List Tr} {k:Nat} {x:Tr},l[k]? = some x→∀ j v,(tc x)[j]? = some v→(tv l)[k * 6 + j]? = some v
  | [],k,x,h=>by simp at h
  | y :: l,0,x,h=>by
    simp at h
    subst h
    intro j v hv
    have hj:=(List.getElem?_eq_some_iff.1 hv).1
    rw [tv_cons,Nat.zero_mul,Nat.zero_add,List.getElem?_append_left hj]
    exact hv
  | y :: l,k + 1,x,h=>by
    intro j v hv
    simp at h
    rw [tv_cons,show (k + 1) * 6 + j = (k * 6 + j) + (tc y).length by simp [tc]; omega,List.getElem?_append_right (by omega),Nat.add_sub_cancel]
    exact tv_at h j v hv
theorem hk_eq {a p:Int} {x:Tr} (h:hk a p x = true):x.a = a∧x.p = p:=by simpa [hk] using h
theorem hk_self (x:Tr):hk x.a x.p x = true:=by simp [hk]
theorem rm_none {a p:Int} {l:List Tr} (h:∀ x ∈ l,hk a p x = false):rm a p l = l:=by
  unfold rm
  rw [List.filter_eq_self]
  intro x hx
  simp [h x hx]
theorem rm_at:∀ {l:List Tr} {k:Nat} {x:Tr} {a p:Int},Uq l→l[k]? = some x→hk a p x = true→rm a p l = l.take k ++ l.drop (k + 1)
  | [],k,x,a,p,_,h,_=>by simp at h
  | y :: l,0,x,a,p,hu,h,hx=>by
    simp at h
    subst h
    have h1:=(List.pairwise_cons.1 hu).1
    obtain ⟨rfl,rfl⟩:=hk_eq hx
    have e:rm y.a y.p (y :: l) = rm y.a y.p l:=by unfold rm; rw [List.filter_cons_of_neg (by simp [hk_self])]
    rw [e,rm_none h1]
    simp
  | y :: l,k + 1,x,a,p,hu,h,hx=>by
    simp at h
    have h1:=(List.pairwise_cons.1 hu).1 x (List.mem_of_getElem? h)
    have ih:=rm_at (List.pairwise_cons.1 hu).2 h hx
    have hy:hk a p y = false:=by
      cases e:hk a p y with
      | false=>rfl
      | true=>
        obtain ⟨rfl,rfl⟩:=hk_eq e
        rw [h1] at hx
        cases hx
    unfold rm at ih ⊢
    rw [List.filter_cons_of_pos (by simp [hy]),ih]
    simp
theorem rm_len_at {l:List Tr} {k:Nat} {x:Tr} {a p:Int} (hu:Uq l) (h:l[k]? = some x) (hx:hk a p x = true):(rm a p l).length + 1 = l.length:=by
  have hk:=(List.getElem?_eq_some_iff.1 h).1
  rw [rm_at hu h hx]
  simp
  omega
theorem Uq.sub {l l' : List Tr} (h:Uq l) (s:l'.Sublist l):Uq l':=List.Pairwise.sublist s h
theorem Uq.front {l:List Tr} (h:Uq l) (x:Tr):Uq (x :: rm x.a x.p l):=by
  unfold Uq
  rw [List.pairwise_cons]
  refine ⟨fun y hy => ?_,h.sub List.filter_sublist⟩
  have:=(List.mem_filter.1 hy).2
  simpa using this
theorem fil_uq (n:Nat) (x:Tr) {l:List Tr} (h:Uq l):Uq (fil n x l):=(h.front x).sub (List.take_sublist _ _)
theorem rm_uq (a p:Int) {l:List Tr} (h:Uq l):Uq (rm a p l):=h.sub List.filter_sublist
theorem mrk_uq (a p:Int) {l:List Tr} (h:Uq l):Uq (mrk a p l):=by
  unfold Uq mrk
  rw [List.pairwise_map]
  refine List.Pairwise.imp ?_ h
  intro x y hxy
  split <;> split <;> simpa [hk] using hxy
theorem mrk_len (a p:Int) (l:List Tr):(mrk a p l).length = l.length:=by simp [mrk]
structure Ix (a p:Int) (l:List Tr) (k:Nat) (x:Tr):Prop where
  at' : l[k]? = some x
  is:hk a p x = true
  ahead:∀ j y,j < k→l[j]? = some y→hk a p y = false
theorem ix_or (a p:Int) (l:List Tr):(∃ k x,Ix a p l k x∧look a p l = some x) ∨ ((∀ x ∈ l,hk a p x = false)∧look a p l = none):=by
  unfold look
  cases h:l.find? (hk a p) with
  | none=>
    right
    refine ⟨fun x hx => ?_,rfl⟩
    have:=List.find?_eq_none.1 h x hx
    simpa using this
  | some x=>
    left
    obtain ⟨hx,l1,l2,e,hb⟩:=List.find?_eq_some_iff_append.1 h
    refine ⟨l1.length,x,⟨by rw [e]; simp,hx,fun j y hj hy => ?_⟩,rfl⟩
    rw [e,List.getElem?_append_left hj] at hy
    have:=hb y (List.mem_of_getElem? hy)
    simpa using this
theorem grown_setCell' (w:World) (g k:Nat) (v:Value):w.grownBy (w.setCell ⟨g,k,none⟩ v) (some g):=
  ⟨rfl,rfl,rfl,by simp [World.setCell],fun i hi hne=>Below.heap_setCell _ _ _ _ (by intro h; exact hne (by rw [h]))⟩
theorem grown_setCells (b:Nat):∀ (vs:List Value) (o:Nat) (w:World),w.grownBy (w.setCells b o vs) (some b)
  | [],_,w=>⟨rfl,rfl,rfl,Nat.le_refl _,fun _ _ _=>rfl⟩
  | v :: r,o,w=>by
    have h:=grown_setCell' w b o v
    have k:=grown_setCells b r (o + 1) (w.setCell ⟨b,o,none⟩ v)
    exact ⟨k.os.trans h.os,k.tape.trans h.tape,k.output.trans h.output,Nat.le_trans h.size k.size,fun i hi hne=>(k.block i (Nat.lt_of_lt_of_le hi h.size) hne).trans (h.block i hi hne)⟩
theorem below_new (w:World) (o:Obj):Below w.heap.size w (w.alloc o):=(Below.refl _ _).alloc (Nat.le_refl _) _
theorem below_drew (w:World) (B:Nat):Below B w w.drew:=(Below.refl B w).drew
theorem below_drewN (w:World) (B n:Nat):Below B w (w.drewN n):=⟨rfl,rfl,rfl,Nat.le_refl _,fun _ _=>rfl⟩
def Blk (w:World) (g:Nat) (ty:TypeId) (L:List Value):Prop:=w.heap[g]? = some (.cells L.toArray ty (0,0))
theorem Blk.lt {w:World} {g:Nat} {ty:TypeId} {L:List Value} (h:Blk w g ty L):g < w.heap.size:=(Array.getElem?_eq_some_iff.1 h).1
theorem Blk.cell {w:World} {g:Nat} {ty:TypeId} {L:List Value} (h:Blk w g ty L) (i:Nat):w.cell? ⟨g,i,none⟩ = L[i]?:=by
  rw [cell_of_row w g i _ ty (0,0) h]; simp
theorem Blk.frozen {w:World} {g:Nat} {ty:TypeId} {L:List Value} (h:Blk w g ty L) (i:Nat):w.frozen? ⟨g,i,none⟩ = false:=by
  unfold Blk at h
  simp [World.frozen?,h]
theorem Blk.of_eq {w w' : World} {g:Nat} {ty:TypeId} {L:List Value} (h:Blk w g ty L) (e:w'.heap[g]? = w.heap[g]?):Blk w' g ty L:=by unfold Blk at *; rw [e,h]
theorem Blk.kept {w w' : World} {g:Nat} {ty:TypeId} {L:List Value} {row:Option Nat} (h:Blk w g ty L) (k:w.grownBy w' row) (hne:some g ≠ row):Blk w' g ty L:=h.of_eq (k.block g h.lt hne)
theorem Blk.below {w w' : World} {g:Nat} {ty:TypeId} {L:List Value} (h:Blk w g ty L) (k:Below w.heap.size w w'):Blk w' g ty L:=h.of_eq (k.block g h.lt)
theorem Blk.set {w:World} {g:Nat} {ty:TypeId} {L:List Value} (h:Blk w g ty L) (i:Nat) (v:Value):Blk (w.setCell ⟨g,i,none⟩ v) g ty (L.set i v):=by
  unfold Blk at *
  simp only [World.setCell,Array.getElem?_modify,if_true,h]
  simp
theorem over_cons (L:List Value) (a:Nat) (v:Value) (vs:List Value) (h:a + 1 + vs.length ≤ L.length):(L.set a v).take (a + 1) ++ vs ++ (L.set a v).drop (a + 1 + vs.length) = L.take a ++ (v :: vs) ++ L.drop (a + (vs.length + 1)):=by
  rw [List.drop_set_of_lt (by omega),List.take_set,List.take_add_one,List.getElem?_eq_getElem (by omega:a < L.length)]
  simp only [Option.toList_some]
  rw [List.set_append_right _ _ (by simp; omega)]
  simp
  rw [Nat.min_eq_left (by omega),Nat.sub_self]
  simp
  congr 1
  omega
theorem Blk.sets {g:Nat} {ty:TypeId}:∀ (vs:List Value) (a:Nat) (w:World) (L:List Value),Blk w g ty L→a + vs.length ≤ L.length→Blk (w.setCells g a vs) g ty (L.take a ++ vs ++ L.drop (a + vs.length))
  | [],a,w,L,h,_=>by simpa [World.setCells] using h
  | v :: vs,a,w,L,h,hl=>by
    simp only [List.length_cons] at hl
    have:=Blk.sets vs (a + 1) _ _ (h.set a v) (by simp; omega)
    rw [over_cons L a v vs (by omega)] at this
    rw [World.setCells]
    simpa using this
theorem blk_new (w:World) (L:List Value) (ty:TypeId):Blk (w.alloc (.cells L.toArray ty)) w.heap.size ty L:=heap_alloc_last w _
def Own (B:Nat) (w:World) (v:Value) (l:List Tr):Prop:=w.ownsRow B 67 6 v l.length (tv l)
theorem Own.nil (B:Nat) (w:World):Own B w (.slice none 0 0) []:=World.ownsRow_nil w B 67 6
theorem Own.shape {B:Nat} {w:World} {v:Value} {l:List Tr} (h:Own B w v l):(v = .slice none 0 0∧l = []) ∨ ∃ g cap L,v = .slice (some ⟨g,0,none⟩) l.length cap∧B ≤ g∧Blk w g 67 L∧l.length ≤ cap∧cap ≤ maxLen∧L.length = cap * 6∧L.take (l.length * 6) = tv l:=by
  rcases h.2 with ⟨h1,h2⟩ | ⟨g,cap,cur,h1,h2,h3,h4,h5,h6,h7⟩
  · exact Or.inl ⟨h1,List.eq_nil_of_length_eq_zero h2⟩
  · refine Or.inr ⟨g,cap,cur.toList,h1,h2, ?_,h4,h5,by simpa using h6,by simpa using h7⟩
    unfold Blk
    simpa using h3
theorem Own.of_blk {B:Nat} {w:World} {g cap:Nat} {L:List Value} {l:List Tr} (hB:B ≤ g) (h:Blk w g 67 L) (h1:l.length ≤ cap) (h2:cap ≤ maxLen) (h3:L.length = cap * 6) (h4:L.take (l.length * 6) = tv l):Own B w (.slice (some ⟨g,0,none⟩) l.length cap) l:=
  ⟨tv_len l,Or.inr ⟨g,cap,L.toArray,rfl,hB,h,h1,h2,by simpa using h3,by simpa using h4⟩⟩
theorem Own.of_eq {B:Nat} {w w' : World} {v:Value} {l:List Tr} (h:Own B w v l) (e:∀ g,v.ownBlock = some g→w'.heap[g]? = w.heap[g]?):Own B w' v l:=by
  refine ⟨h.1, ?_⟩
  rcases h.2 with h1 | ⟨g,cap,cur,h1,h2,h3,h4⟩
  · exact Or.inl h1
  · subst h1
    exact Or.inr ⟨g,cap,cur,rfl,h2,(e g rfl).trans h3,h4⟩
theorem Own.lt {B:Nat} {w:World} {v:Value} {l:List Tr} (h:Own B w v l):∀ g,v.ownBlock = some g→B ≤ g∧g < w.heap.size:=by
  intro g hg
  rcases h.shape with ⟨rfl,_⟩ | ⟨g',cap,L,rfl,hB,hb,_⟩
  · cases hg
  · cases hg
    exact ⟨hB,hb.lt⟩
theorem Own.below {B:Nat} {w w' : World} {v:Value} {l:List Tr} (h:Own B w v l) (k:Below w.heap.size w w'):Own B w' v l:=h.of_eq (fun g hg=>k.block g (h.lt g hg).2)
theorem Own.len {B:Nat} {w:World} {v:Value} {l:List Tr} (h:Own B w v l):∃ a cap,v = .slice a l.length cap:=by
  rcases h.shape with ⟨h1,rfl⟩ | ⟨g,cap,L,h1,_⟩
  · exact ⟨none,0,h1⟩
  · exact ⟨_,_,h1⟩
structure Six (w:World) (g o:Nat) (x:Tr):Prop where
  c0:w.cell? ⟨g,o,none⟩ = some (.int .i64 x.a)
  c1:w.cell? ⟨g,o + 1,none⟩ = some (.int .i64 x.p)
  c2:w.cell? ⟨g,o + 2,none⟩ = some (.int .i64 x.f)
  c3:w.cell? ⟨g,o + 3,none⟩ = some (.bool x.r)
  c4:w.cell? ⟨g,o + 4,none⟩ = some (.bool x.w)
  c5:w.cell? ⟨g,o + 5,none⟩ = some (.bool x.d)
theorem Six.of {w:World} {g o:Nat} {x:Tr} (h:∀ j v,(tc x)[j]? = some v→w.cell? ⟨g,o + j,none⟩ = some v):Six w g o x:=
  ⟨h 0 _ rfl,h 1 _ rfl,h 2 _ rfl,h 3 _ rfl,h 4 _ rfl,h 5 _ rfl⟩
theorem Six.of_eq {w w' : World} {g o:Nat} {x:Tr} (h:Six w g o x) (e:w'.heap[g]? = w.heap[g]?):Six w' g o x:=
  ⟨(World.cell?_of_block (w:=w) (a:=⟨g,o,none⟩) e).trans h.c0,(World.cell?_of_block (w:=w) (a:=⟨g,o + 1,none⟩) e).trans h.c1,(World.cell?_of_block (w:=w) (a:=⟨g,o + 2,none⟩) e).trans h.c2,(World.cell?_of_block (w:=w) (a:=⟨g,o + 3,none⟩) e).trans h.c3,(World.cell?_of_block (w:=w) (a:=⟨g,o + 4,none⟩) e).trans h.c4,(World.cell?_of_block (w:=w) (a:=⟨g,o + 5,none⟩) e).trans h.c5⟩
def Sx (w:World) (g:Nat) (x:Tr):Prop:=w.cell? ⟨g,0,none⟩ = some (.int .i64 x.a)∧w.cell? ⟨g,1,none⟩ = some (.int .i64 x.p)∧w.cell? ⟨g,2,none⟩ = some (.int .i64 x.f)∧w.cell? ⟨g,3,none⟩ = some (.bool x.r)∧w.cell? ⟨g,4,none⟩ = some (.bool x.w)∧w.cell? ⟨g,5,none⟩ = some (.bool x.d)
theorem Six.sx {w:World} {g:Nat} {x:Tr} (h:Six w g 0 x):Sx w g x:=⟨h.c0,h.c1,h.c2,h.c3,h.c4,h.c5⟩
theorem Six.below {w w' : World} {g o:Nat} {x:Tr} (h:Six w g o x) (hg:g < w.heap.size) (k:Below w.heap.size w w'):Six w' g o x:=h.of_eq (k.block g hg)
theorem six_new (w:World) (x:Tr) (ty:TypeId):Six (w.alloc (.cells (tc x).toArray ty)) w.heap.size 0 x:=
  Six.of (fun j v hv=>by rw [Nat.zero_add,(blk_new w (tc x) ty).cell j]; exact hv)
theorem Own.cell {B:Nat} {w:World} {v:Value} {l:List Tr} (h:Own B w v l) {k:Nat} {x:Tr} (hk:l[k]? = some x):∃ g cap,v = .slice (some ⟨g,0,none⟩) l.length cap∧Six w g (k * 6) x∧(∀ j,w.frozen? ⟨g,j,none⟩ = false)∧g < w.heap.size∧l.length ≤ cap∧cap ≤ maxLen:=by
  obtain ⟨hlt,_⟩:=List.getElem?_eq_some_iff.1 hk
  rcases h.shape with ⟨_,rfl⟩ | ⟨g,cap,L,h1,hB,h2,h3,h4,h5,h6⟩
  · simp at hlt
  · refine ⟨g,cap,h1,Six.of (fun j v hv => ?_),fun j=>h2.frozen j,h2.lt,h3,h4⟩
    have hj:j < 6:=by have:=(List.getElem?_eq_some_iff.1 hv).1; simpa [tc] using this
    rw [h2.cell, ← List.getElem?_take_of_lt (j:=l.length * 6) (by omega),h6]
    exact tv_at hk j v hv
def eqT (x y:Tr):Bool:=x.a == y.a && (x.p == y.p && (x.f == y.f && (x.r == y.r && (x.w == y.w && x.d == y.d))))
theorem eq_run (a p f a' p' f' : Int) (r w d r' w' d' : Bool) (W:World):(binOp .eql 67 (.agg #[.int .i64 a,.int .i64 p,.int .i64 f,.bool r,.bool w,.bool d]) (.agg #[.int .i64 a',.int .i64 p',.int .i64 f',.bool r',.bool w',.bool d'])).run Tryz.prog W = .ok (.bool (eqT ⟨a,p,f,r,w,d⟩ ⟨a',p',f',r',w',d'⟩)) W:=by
  simp only [run_eql_struct]
  rw [run_equalIn_agg W 9999 67 _ _ (by kernel_rfl) Tryz.stoodInHeld67]
  simp [go_sem,Program.fieldsOf,Tryz.underlying67]
  unfold eqT
  by_cases h1:a = a'
  · by_cases h2:p = p'
    · by_cases h3:f = f'
      · by_cases h4:r = r'
        · by_cases h5:w = w'
          · by_cases h6:d = d'
            · simp [h1,h2,h3,h4,h5,h6]
            · simp [h1,h2,h3,h4,h5,h6]
          · simp [h1,h2,h3,h4,h5]
        · simp [h1,h2,h3,h4]
      · simp [h1,h2,h3]
    · simp [h1,h2]
  · simp [h1]
structure Kp (F F' : Nat→Prop) (w w' : World):Prop where
  os:w'.os = w.os
  tape:w'.tape = w.tape
  output:w'.output = w.output
  size:w.heap.size ≤ w'.heap.size
  block:∀ k,k < w.heap.size→¬ F k→w'.heap[k]? = w.heap[k]?
  new:∀ k,F' k→F k ∨ w.heap.size ≤ k
theorem Kp.of_grown {F F' : Nat→Prop} {w w' : World} {row:Option Nat} (h:w.grownBy w' row) (hr:∀ g,row = some g→F g) (hn:∀ k,F' k→F k ∨ w.heap.size ≤ k):Kp F F' w w' :=
  ⟨h.os,h.tape,h.output,h.size,fun k hk hF=>h.block k hk (by intro e; exact hF (hr k e.symm)),hn⟩
theorem Kp.of_below (F:Nat→Prop) {w w' : World} (h:Below w.heap.size w w'):Kp F F w w' :=
  ⟨h.os,h.tape,h.output,h.size,fun k hk _=>h.block k hk,fun _ q=>Or.inl q⟩
theorem Kp.trans {F F' F'' : Nat→Prop} {a b c:World} (h:Kp F F' a b) (k:Kp F' F'' b c):Kp F F'' a c:=
  ⟨k.os.trans h.os,k.tape.trans h.tape,k.output.trans h.output,Nat.le_trans h.size k.size,
   fun i hi hF=>(k.block i (Nat.lt_of_lt_of_le hi h.size) (fun e=>by rcases h.new i e with q | q; exact hF q; omega)).trans (h.block i hi hF),
   fun i hi=>by
    rcases k.new i hi with q | q
    · exact h.new i q
    · exact Or.inr (Nat.le_trans h.size q)⟩
structure Tb (w:World) (p n:Nat) (v:Value) (l:List Tr):Prop where
  lt:p < w.heap.size
  c0:w.cell? ⟨p,0,none⟩ = some (.int .i64 n)
  c1:w.cell? ⟨p,1,none⟩ = some v
  z1:w.frozen? ⟨p,1,none⟩ = false
  own:Own 0 w v l
  vp:v.ownBlock ≠ some p
  len:l.length ≤ n
  uq:Uq l
  n1:1 ≤ n
  n64:n ≤ 64
theorem Tb.of_eq {w w' : World} {p n:Nat} {v:Value} {l:List Tr} (h:Tb w p n v l) (hs:w.heap.size ≤ w'.heap.size) (ep:w'.heap[p]? = w.heap[p]?) (eV:∀ g,v.ownBlock = some g→w'.heap[g]? = w.heap[g]?):Tb w' p n v l:=
  ⟨Nat.lt_of_lt_of_le h.lt hs,(World.cell?_of_block (w:=w) (a:=⟨p,0,none⟩) ep).trans h.c0,(World.cell?_of_block (w:=w) (a:=⟨p,1,none⟩) ep).trans h.c1,(World.frozen?_of_block (w:=w) (a:=⟨p,1,none⟩) ep).trans h.z1,
   h.own.of_eq eV,h.vp,h.len,h.uq,h.n1,h.n64⟩
theorem Tb.below {w w' : World} {p n:Nat} {v:Value} {l:List Tr} (h:Tb w p n v l) (k:Below w.heap.size w w'):Tb w' p n v l:=
  h.of_eq k.size (k.block p h.lt) (fun g hg=>k.block g (h.own.lt g hg).2)
structure Pt (w:World) (F:Nat→Prop) (p n:Nat) (v:Value) (l:List Tr):Prop where
  lt:∀ k,F k→k < w.heap.size
  c:Tb w p n v l
  fp:F p
  fv:∀ g,v.ownBlock = some g→F g
def Ca (w:World) (F:Nat→Prop) (p n:Nat) (l:List Tr):Prop:=∃ v,Pt w F p n v l
theorem Ca.lt {w:World} {F:Nat→Prop} {p n:Nat} {l:List Tr} (h:Ca w F p n l):∀ k,F k→k < w.heap.size:=by
  obtain ⟨v,h⟩:=h
  exact h.lt
theorem Ca.of_eq {w w' : World} {F:Nat→Prop} {p n:Nat} {l:List Tr} (h:Ca w F p n l) (hs:w.heap.size ≤ w'.heap.size) (e:∀ k,F k→w'.heap[k]? = w.heap[k]?):Ca w' F p n l:=by
  obtain ⟨v,h1,hC,hp,hV⟩:=h
  exact ⟨v,fun k hk=>Nat.lt_of_lt_of_le (h1 k hk) hs,hC.of_eq hs (e p hp) (fun g hg=>e g (hV g hg)),hp,hV⟩
theorem Ca.below {w w' : World} {F:Nat→Prop} {p n:Nat} {l:List Tr} (h:Ca w F p n l) (k:Below w.heap.size w w'):Ca w' F p n l:=
  h.of_eq k.size (fun i hi=>k.block i (h.lt i hi))
theorem Pt.turn_in {w w' : World} {F : Nat → Prop} {p n : Nat} {v : Value} {l : List Tr} (h : Pt w F p n v l) (l' : List Tr) (g : Nat) (hg : v.ownBlock = some g)
    (G:w.grownBy w' (some g)) (ho:Own 0 w' v l') (hl:l'.length ≤ n) (hu:Uq l'):∃ F',Ca w' F' p n l'∧Kp F F' w w':=by
  have hne:p ≠ g:=fun e=>h.c.vp (by rw [hg,e])
  have ep:w'.heap[p]? = w.heap[p]?:=G.block p h.c.lt (some_ne hne)
  refine ⟨F,⟨v,fun k hk=>Nat.lt_of_lt_of_le (h.lt k hk) G.size,⟨Nat.lt_of_lt_of_le h.c.lt G.size,(World.cell?_of_block (w:=w) (a:=⟨p,0,none⟩) ep).trans h.c.c0,(World.cell?_of_block (w:=w) (a:=⟨p,1,none⟩) ep).trans h.c.c1,(World.frozen?_of_block (w:=w) (a:=⟨p,1,none⟩) ep).trans h.c.z1,ho,h.c.vp,hl,hu,h.c.n1,h.c.n64⟩,h.fp,h.fv⟩,Kp.of_grown G (fun g' e=>by cases e; exact h.fv g hg) (fun k hk=>Or.inl hk)⟩
theorem Pt.turn_new {w w' : World} {F : Nat → Prop} {p n : Nat} {v : Value} {l : List Tr} (h : Pt w F p n v l) (v' : Value) (l' : List Tr)
    (os:w'.os = w.os) (tp:w'.tape = w.tape) (ou:w'.output = w.output) (hs:w.heap.size ≤ w'.heap.size)
    (hk:∀ k,k < w.heap.size→k ≠ p→some k ≠ v.ownBlock→w'.heap[k]? = w.heap[k]?)
    (c0:w'.cell? ⟨p,0,none⟩ = some (.int .i64 n)) (c1:w'.cell? ⟨p,1,none⟩ = some v') (z1:w'.frozen? ⟨p,1,none⟩ = false)
    (ho:Own 0 w' v' l') (hv:∀ g,v'.ownBlock = some g→v.ownBlock = some g ∨ w.heap.size ≤ g) (hl:l'.length ≤ n) (hu:Uq l'):∃ F',Pt w' F' p n v' l'∧Kp F F' w w':=by
  refine ⟨fun k=>F k ∨ (w.heap.size ≤ k∧k < w'.heap.size),⟨fun k hk => ?_,⟨Nat.lt_of_lt_of_le h.c.lt hs,c0,c1,z1,ho,fun e => ?_,hl,hu,h.c.n1,h.c.n64⟩,Or.inl h.fp,fun g hg => ?_⟩,⟨os,tp,ou,hs,fun k hk' hF=>hk k hk' (fun e=>hF (e ▸ h.fp)) (fun e=>hF (h.fv k e.symm)),fun k hk => ?_⟩⟩
  · rcases hk with q | q
    · exact Nat.lt_of_lt_of_le (h.lt k q) hs
    · exact q.2
  · rcases hv p e with q | q
    · exact h.c.vp q
    · have:=h.c.lt; omega
  · rcases hv g hg with q | q
    · exact Or.inl (h.fv g q)
    · exact Or.inr ⟨q,(ho.lt g hg).2⟩
  · rcases hk with q | q
    · exact Or.inl q
    · exact Or.inr q.1
def Lv (w:World) (F:Nat→Prop) (p n:Nat) (l' : List Tr) (w' : World):Prop:=∃ F',Ca w' F' p n l'∧Kp F F' w w'
theorem Lv.of_below {w w' : World} {F:Nat→Prop} {p n:Nat} {l:List Tr} (h:Ca w F p n l) (k:Below w.heap.size w w'):Lv w F p n l w':=⟨F,h.below k,Kp.of_below F k⟩
theorem new_tlb {w w' : World} {n : Nat} {ty : TypeId} (h1 : 1 ≤ n) (hn : n ≤ 64) (e : w' = w.alloc (.cells #[.int .i64 n, .slice none 0 0] ty)) :
    ∃ F,Ca w' F w.heap.size n []∧Kp (fun _=>False) F w w':=by
  have hp:Blk w' w.heap.size ty [.int .i64 n,.slice none 0 0]:=by
    rw [e]
    exact blk_new w _ ty
  have G:w.grownBy w' none:=by
    rw [e]
    exact World.grownBy_alloc _ _ none
  refine ⟨fun k=>k = w.heap.size,⟨.slice none 0 0,fun k hk=>by subst hk; exact hp.lt,⟨hp.lt,hp.cell 0,hp.cell 1,hp.frozen 1,Own.nil 0 w',fun h=>(by cases h),by simp,List.Pairwise.nil,h1,hn⟩,rfl,fun g hg=>by cases hg⟩,Kp.of_grown G (by simp) (fun k hk=>Or.inr (by omega))⟩
theorem New_ok (n : Nat) (h1 : 1 ≤ n) (hn : n ≤ 64) (w : World) :
    Calls Tryz.prog 42 #[.int .i64 n] w fun e w'=>∃ p F,e = .returned (.tuple #[.pointer (some ⟨p,0,none⟩),.int .i64 0])∧Ca w' F p n []∧Kp (fun _=>False) F w w':=by
  have HN:Hid (∀ w',w' = w.alloc (.cells #[.int .i64 n,.slice none 0 0] 106)→∃ F,Ca w' F w.heap.size n []∧Kp (fun _=>False) F w w'):=fun w' e=>new_tlb h1 hn e
  go_enter Tryz.func42,Tryz.ntmps42
  go_wp2
  go_ret2
  obtain ⟨F,hF⟩:=HN.out _ rfl
  exact ⟨w.heap.size,F,by simp,hF⟩
theorem made_any {w : World} {p n : Nat} {v : Value} {l : List Tr} (hM : Tb w p n v l) :
    Calls Tryz.prog 72 #[.pointer (some ⟨p,0,none⟩)] w fun e w'=>e = .returned (.bool true)∧w' = w:=by
  have hc:=hM.c0
  have h1:=hM.n1
  have h4:=hM.n64
  clear hM
  go_enter Tryz.func72,Tryz.ntmps72
  go_wp2
  go_ret
  exact ⟨ret_bool (by simp; omega),rfl⟩
def okA (a:Int):Bool:=decide (0 ≤ a∧a < 128)
def okP (p:Int):Bool:=decide (0 ≤ p∧p < 1048576)
def okF (f:Int):Bool:=decide (0 ≤ f∧f < 4096)
theorem isSpace_any (a:Int) (w:World):Calls Tryz.prog 74 #[.int .i64 a] w fun e w'=>e = .returned (.bool (okA a))∧w' = w:=by
  by_cases h0:0 ≤ a
  · have HE:Hid (okA a = decide (a < 128)):=by unfold Hid; simp [okA,h0]
    rw [HE.out]
    clear HE
    go_enter Tryz.func74,Tryz.ntmps74
    go_wp2
    go_ret
    exact ⟨rfl,rfl⟩
  · have HE:Hid (okA a = false):=by unfold Hid; simp [okA,h0]
    rw [HE.out]
    clear HE
    go_enter Tryz.func74,Tryz.ntmps74
    go_wp2
    go_ret
    exact ⟨rfl,rfl⟩
theorem isPage_any (a:Int) (w:World):Calls Tryz.prog 75 #[.int .i64 a] w fun e w'=>e = .returned (.bool (okP a))∧w' = w:=by
  by_cases h0:0 ≤ a
  · have HE:Hid (okP a = decide (a < 1048576)):=by unfold Hid; simp [okP,h0]
    rw [HE.out]
    clear HE
    go_enter Tryz.func75,Tryz.ntmps75
    go_wp2
    go_ret
    exact ⟨rfl,rfl⟩
  · have HE:Hid (okP a = false):=by unfold Hid; simp [okP,h0]
    rw [HE.out]
    clear HE
    go_enter Tryz.func75,Tryz.ntmps75
    go_wp2
    go_ret
    exact ⟨rfl,rfl⟩
theorem isFrame_any (a:Int) (w:World):Calls Tryz.prog 146 #[.int .i64 a] w fun e w'=>e = .returned (.bool (okF a))∧w' = w:=by
  by_cases h0:0 ≤ a
  · have HE:Hid (okF a = decide (a < 4096)):=by unfold Hid; simp [okF,h0]
    rw [HE.out]
    clear HE
    go_enter Tryz.func146,Tryz.ntmps146
    go_wp2
    go_ret
    exact ⟨rfl,rfl⟩
  · have HE:Hid (okF a = false):=by unfold Hid; simp [okF,h0]
    rw [HE.out]
    clear HE
    go_enter Tryz.func146,Tryz.ntmps146
    go_wp2
    go_ret
    exact ⟨rfl,rfl⟩
def mk (a p:Int):Tr:=⟨a,p,0,false,false,false⟩
theorem bare_any (a p f : Int) (r w' d : Bool) (w : World) :
    Calls Tryz.prog 76 #[.agg #[.int .i64 a,.int .i64 p,.int .i64 f,.bool r,.bool w',.bool d]] w fun e w'=>e = .returned (.agg #[.int .i64 a,.int .i64 p,.int .i64 0,.bool false,.bool false,.bool false])∧Below w.heap.size w w':=by
  go_enter Tryz.func76,Tryz.ntmps76
  go_wp2
  exact bodyPost_ret (v:=.agg #[.int .i64 a,.int .i64 p,.int .i64 0,.bool false,.bool false,.bool false]) (by simp [results,Tryz.results76,go_sem]) rfl ⟨rfl,((below_new _ _).alloc (by simp) _)⟩
theorem seek_ok {w : World} {p n : Nat} {v : Value} {l : List Tr} (hM : Tb w p n v l) (a g : Int) (ha : okA a = true) (hg : okP g = true) {k : Nat} {x : Tr} (hx : Ix a g l k x) :
    Calls Tryz.prog 35 #[.pointer (some ⟨p,0,none⟩),.int .i64 a,.int .i64 g] w fun e w'=>e = .returned (.tuple #[.int .i64 k,.int .i64 0])∧Below w.heap.size w w':=by
  have CM:Hid (Calls _ _ _ _ _):=made_any hM
  have CA:Hid (Calls _ _ _ _ _):=isSpace_any a w
  have CP:Hid (Calls _ _ _ _ _):=isPage_any g w
  rw [ha] at CA
  rw [hg] at CP
  have hc:=hM.c1
  obtain ⟨ao,cap,hv⟩:=hM.own.len
  rw [hv] at hc
  have HM:Hid (Tb w p n v l):=hM
  have HV:Hid (v = .slice ao l.length cap):=hv
  have hl:=hM.len
  have hn:=hM.n64
  have hlt:=hM.lt
  have HX:Hid (Ix a g l k x):=hx
  have hkl:k < l.length:=(List.getElem?_eq_some_iff.1 hx.at').1
  clear hM hv ha hg hx
  go_enter Tryz.func35,Tryz.ntmps35
  go_wp2_with fail
  refine CM.out.mono ?_
  rintro e w' ⟨rfl,rfl⟩
  go_wp2_with fail
  refine CA.out.mono ?_
  rintro e w' ⟨rfl,rfl⟩
  go_wp2_with fail
  refine CP.out.mono ?_
  rintro e w' ⟨rfl,rfl⟩
  go_wp2_with fail
  have S1:Hid (Six (w'.alloc (.cells #[.int .i64 a,.int .i64 g,.int .i64 0,.bool false,.bool false,.bool false] 67)) w'.heap.size 0 (mk a g)):=six_new w' (mk a g) 67
  have B1:Hid (Below w'.heap.size w' (w'.alloc (.cells #[.int .i64 a,.int .i64 g,.int .i64 0,.bool false,.bool false,.bool false] 67))):=below_new _ _
  have hb1:w'.heap.size < (w'.alloc (.cells #[.int .i64 a,.int .i64 g,.int .i64 0,.bool false,.bool false,.bool false] 67)).heap.size:=by simp
  generalize w'.alloc (.cells #[.int .i64 a,.int .i64 g,.int .i64 0,.bool false,.bool false,.bool false] 67) = W1 at *
  have HM1:Hid (Tb W1 p n v l):=HM.out.below B1.out
  clear hc CM CA CP
  generalize hbb:w'.heap.size = b at *
  go_loopw [30] (fun i wr=>∃ j:Nat,j ≤ k∧i = .int .i64 j∧Below W1.heap.size W1 wr) (fun i _=>l.length - (intOf i).toNat)
  case atStart=>exact ⟨0,by omega,rfl,Below.refl _ _⟩
  case round=>
    obtain ⟨j,hj,rfl,hb⟩:=hrel
    have HB:Hid (Below W1.heap.size W1 wr):=hb
    have hsz:=hb.size
    clear hb
    have hjl:j < l.length:=by omega
    have hg:l[j]? = some l[j]:=List.getElem?_eq_getElem hjl
    have HG:Hid (l[j]? = some l[j]):=hg
    obtain ⟨gr,cap',e1,h6,hfz,hgl,hc1,hc2⟩:=(HM1.out.own.below HB.out).cell hg
    rw [HV.out] at e1
    cases e1
    clear hg
    generalize l[j] = y at *
    obtain ⟨d0,d1,d2,d3,d4,d5⟩:=h6
    unfold maxLen at hc2
    go_wp2_with fail
    have X2:Hid (Six (wr.alloc (.cells #[.int .i64 y.a,.int .i64 y.p,.int .i64 y.f,.bool y.r,.bool y.w,.bool y.d] 67)) wr.heap.size 0 y):=six_new wr y 67
    have B2:Hid (Below W1.heap.size W1 (wr.alloc (.cells #[.int .i64 y.a,.int .i64 y.p,.int .i64 y.f,.bool y.r,.bool y.w,.bool y.d] 67))):=HB.out.alloc hsz _
    have hb2:wr.heap.size < (wr.alloc (.cells #[.int .i64 y.a,.int .i64 y.p,.int .i64 y.f,.bool y.r,.bool y.w,.bool y.d] 67)).heap.size:=by simp
    generalize wr.alloc (.cells #[.int .i64 y.a,.int .i64 y.p,.int .i64 y.f,.bool y.r,.bool y.w,.bool y.d] 67) = W2 at *
    generalize wr.heap.size = b2 at *
    have K0:Hid ((W2.drew.cell? ⟨b,0,none⟩ = some (.int .i64 a)∧W2.drew.cell? ⟨b,1,none⟩ = some (.int .i64 g)∧W2.drew.cell? ⟨b,2,none⟩ = some (.int .i64 0)∧W2.drew.cell? ⟨b,3,none⟩ = some (.bool false)∧W2.drew.cell? ⟨b,4,none⟩ = some (.bool false)∧W2.drew.cell? ⟨b,5,none⟩ = some (.bool false))∧Sx W2.drew b2 y):=⟨((S1.out.below hb1 B2.out).below (Nat.lt_of_lt_of_le hb1 B2.out.size) (below_drew _ _)).sx,(X2.out.below hb2 (below_drew _ _)).sx⟩
    clear d0 d1 d2 d3 d4 d5 hfz
    have hq:=eq_run y.a y.p 0 a g 0 false false false false false false
    rw [show eqT ⟨y.a,y.p,0,false,false,false⟩ ⟨a,g,0,false,false,false⟩ = hk a g y by simp [eqT,hk]] at hq
    obtain ⟨bb,hbb⟩:∃ bb,hk a g y = bb:=⟨_,rfl⟩
    have HBB:Hid (hk a g y = bb):=hbb
    rw [hbb] at hq
    clear hbb
    go_region_held3 (fun W=>(W.cell? ⟨b,0,none⟩ = some (.int .i64 a)∧W.cell? ⟨b,1,none⟩ = some (.int .i64 g)∧W.cell? ⟨b,2,none⟩ = some (.int .i64 0)∧W.cell? ⟨b,3,none⟩ = some (.bool false)∧W.cell? ⟨b,4,none⟩ = some (.bool false)∧W.cell? ⟨b,5,none⟩ = some (.bool false))∧W.cell? ⟨b2,0,none⟩ = some (.int .i64 y.a)∧W.cell? ⟨b2,1,none⟩ = some (.int .i64 y.p)∧W.cell? ⟨b2,2,none⟩ = some (.int .i64 y.f)∧W.cell? ⟨b2,3,none⟩ = some (.bool y.r)∧W.cell? ⟨b2,4,none⟩ = some (.bool y.w)∧W.cell? ⟨b2,5,none⟩ = some (.bool y.d))
      (first | exact K1.out | exact K0.out)
      (first | (go_at_call 76; refine (bare_any _ _ _ _ _ _ _).mono ?_; rintro e w3 ⟨rfl,hb3⟩; have K1:Hid (_∧_):=⟨((S1.out.below hb1 B2.out).below (Nat.lt_of_lt_of_le hb1 B2.out.size) ((below_drew W2 W2.heap.size).trans hb3)).sx,(X2.out.below hb2 ((below_drew W2 W2.heap.size).trans hb3)).sx⟩; have B3:Hid (Below W1.heap.size W1 w3):=B2.out.trans (((below_drew W2 W2.heap.size).trans hb3).mono B2.out.size)))
    clear hq K1 K0
    cases bb with
    | true=>
      obtain rfl:j = k:=by
        by_cases q:j < k
        · have:=HX.out.ahead j y q HG.out
          rw [HBB.out] at this
          cases this
        · omega
      go_wp2
      go_ret2
      subst hbb
      exact ⟨rfl,B1.out.trans (B3.out.mono (by omega))⟩
    | false=>
      have hne:j < k:=by
        by_cases q:j = k
        · subst q
          have e1:=HX.out.at'
          rw [HG.out] at e1
          injection e1 with e1
          have:=HX.out.is
          rw [← e1,HBB.out] at this
          cases this
        · omega
      go_wp2_with fail
      go_roundw
      case rel=>exact ⟨j + 1,by omega,by go_num,B3.out⟩
      case measure=>simp [intOf]; omega
theorem seek_none {w : World} {p n : Nat} {v : Value} {l : List Tr} (hM : Tb w p n v l) (a g : Int) (ha : okA a = true) (hg : okP g = true) (hx : ∀ x ∈ l, hk a g x = false) :
    Calls Tryz.prog 35 #[.pointer (some ⟨p,0,none⟩),.int .i64 a,.int .i64 g] w fun e w'=>e = .returned (.tuple #[.int .i64 (-1),.int .i64 0])∧Below w.heap.size w w':=by
  have CM:Hid (Calls _ _ _ _ _):=made_any hM
  have CA:Hid (Calls _ _ _ _ _):=isSpace_any a w
  have CP:Hid (Calls _ _ _ _ _):=isPage_any g w
  rw [ha] at CA
  rw [hg] at CP
  have hc:=hM.c1
  obtain ⟨ao,cap,hv⟩:=hM.own.len
  rw [hv] at hc
  have HM:Hid (Tb w p n v l):=hM
  have HV:Hid (v = .slice ao l.length cap):=hv
  have hl:=hM.len
  have hn:=hM.n64
  have hlt:=hM.lt
  have HX:Hid (∀ x ∈ l,hk a g x = false):=hx
  clear hM hv ha hg hx
  go_enter Tryz.func35,Tryz.ntmps35
  go_wp2_with fail
  refine CM.out.mono ?_
  rintro e w' ⟨rfl,rfl⟩
  go_wp2_with fail
  refine CA.out.mono ?_
  rintro e w' ⟨rfl,rfl⟩
  go_wp2_with fail
  refine CP.out.mono ?_
  rintro e w' ⟨rfl,rfl⟩
  go_wp2_with fail
  have S1:Hid (Six (w'.alloc (.cells #[.int .i64 a,.int .i64 g,.int .i64 0,.bool false,.bool false,.bool false] 67)) w'.heap.size 0 (mk a g)):=six_new w' (mk a g) 67
  have B1:Hid (Below w'.heap.size w' (w'.alloc (.cells #[.int .i64 a,.int .i64 g,.int .i64 0,.bool false,.bool false,.bool false] 67))):=below_new _ _
  have hb1:w'.heap.size < (w'.alloc (.cells #[.int .i64 a,.int .i64 g,.int .i64 0,.bool false,.bool false,.bool false] 67)).heap.size:=by simp
  generalize w'.alloc (.cells #[.int .i64 a,.int .i64 g,.int .i64 0,.bool false,.bool false,.bool false] 67) = W1 at *
  have HM1:Hid (Tb W1 p n v l):=HM.out.below B1.out
  clear hc CM CA CP
  generalize hbb:w'.heap.size = b at *
  go_loopw [30] (fun i wr=>∃ j:Nat,j ≤ l.length∧i = .int .i64 j∧Below W1.heap.size W1 wr) (fun i _=>l.length - (intOf i).toNat)
  case atStart=>exact ⟨0,by omega,rfl,Below.refl _ _⟩
  case round=>
    obtain ⟨j,hj,rfl,hb⟩:=hrel
    have HB:Hid (Below W1.heap.size W1 wr):=hb
    have hsz:=hb.size
    clear hb
    by_cases hjl:j < l.length
    · have hg:l[j]? = some l[j]:=List.getElem?_eq_getElem hjl
      have HG:Hid (l[j]? = some l[j]):=hg
      obtain ⟨gr,cap',e1,h6,hfz,hgl,hc1,hc2⟩:=(HM1.out.own.below HB.out).cell hg
      rw [HV.out] at e1
      cases e1
      clear hg
      generalize l[j] = y at *
      obtain ⟨d0,d1,d2,d3,d4,d5⟩:=h6
      unfold maxLen at hc2
      go_wp2_with fail
      have X2:Hid (Six (wr.alloc (.cells #[.int .i64 y.a,.int .i64 y.p,.int .i64 y.f,.bool y.r,.bool y.w,.bool y.d] 67)) wr.heap.size 0 y):=six_new wr y 67
      have B2:Hid (Below W1.heap.size W1 (wr.alloc (.cells #[.int .i64 y.a,.int .i64 y.p,.int .i64 y.f,.bool y.r,.bool y.w,.bool y.d] 67))):=HB.out.alloc hsz _
      have hb2:wr.heap.size < (wr.alloc (.cells #[.int .i64 y.a,.int .i64 y.p,.int .i64 y.f,.bool y.r,.bool y.w,.bool y.d] 67)).heap.size:=by simp
      generalize wr.alloc (.cells #[.int .i64 y.a,.int .i64 y.p,.int .i64 y.f,.bool y.r,.bool y.w,.bool y.d] 67) = W2 at *
      generalize wr.heap.size = b2 at *
      have K0:Hid ((W2.drew.cell? ⟨b,0,none⟩ = some (.int .i64 a)∧W2.drew.cell? ⟨b,1,none⟩ = some (.int .i64 g)∧W2.drew.cell? ⟨b,2,none⟩ = some (.int .i64 0)∧W2.drew.cell? ⟨b,3,none⟩ = some (.bool false)∧W2.drew.cell? ⟨b,4,none⟩ = some (.bool false)∧W2.drew.cell? ⟨b,5,none⟩ = some (.bool false))∧Sx W2.drew b2 y):=⟨((S1.out.below hb1 B2.out).below (Nat.lt_of_lt_of_le hb1 B2.out.size) (below_drew _ _)).sx,(X2.out.below hb2 (below_drew _ _)).sx⟩
      clear d0 d1 d2 d3 d4 d5 hfz
      have hq:=eq_run y.a y.p 0 a g 0 false false false false false false
      rw [show eqT ⟨y.a,y.p,0,false,false,false⟩ ⟨a,g,0,false,false,false⟩ = hk a g y by simp [eqT,hk]] at hq
      rw [HX.out y (List.mem_of_getElem? HG.out)] at hq
      go_region_held3 (fun W=>(W.cell? ⟨b,0,none⟩ = some (.int .i64 a)∧W.cell? ⟨b,1,none⟩ = some (.int .i64 g)∧W.cell? ⟨b,2,none⟩ = some (.int .i64 0)∧W.cell? ⟨b,3,none⟩ = some (.bool false)∧W.cell? ⟨b,4,none⟩ = some (.bool false)∧W.cell? ⟨b,5,none⟩ = some (.bool false))∧W.cell? ⟨b2,0,none⟩ = some (.int .i64 y.a)∧W.cell? ⟨b2,1,none⟩ = some (.int .i64 y.p)∧W.cell? ⟨b2,2,none⟩ = some (.int .i64 y.f)∧W.cell? ⟨b2,3,none⟩ = some (.bool y.r)∧W.cell? ⟨b2,4,none⟩ = some (.bool y.w)∧W.cell? ⟨b2,5,none⟩ = some (.bool y.d))
        (first | exact K1.out | exact K0.out)
        (first | (go_at_call 76; refine (bare_any _ _ _ _ _ _ _).mono ?_; rintro e w3 ⟨rfl,hb3⟩; have K1:Hid (_∧_):=⟨((S1.out.below hb1 B2.out).below (Nat.lt_of_lt_of_le hb1 B2.out.size) ((below_drew W2 W2.heap.size).trans hb3)).sx,(X2.out.below hb2 ((below_drew W2 W2.heap.size).trans hb3)).sx⟩; have B3:Hid (Below W1.heap.size W1 w3):=B2.out.trans (((below_drew W2 W2.heap.size).trans hb3).mono B2.out.size)))
      clear hq K1 K0
      go_wp2_with fail
      go_roundw
      case rel=>exact ⟨j + 1,by omega,by go_num,B3.out⟩
      case measure=>simp [intOf]; omega
    · obtain rfl:j = l.length:=by omega
      go_wp2
      go_ret2
      subst hbb
      exact ⟨rfl,B1.out.trans (HB.out.mono (by omega))⟩
theorem seek_bad {w : World} {p n : Nat} {v : Value} {l : List Tr} (hM : Tb w p n v l) (a g : Int) (hb : okA a = false ∨ okP g = false) :
    Calls Tryz.prog 35 #[.pointer (some ⟨p,0,none⟩),.int .i64 a,.int .i64 g] w fun e w'=>e = .returned (.tuple #[.int .i64 (-1),.int .i64 2])∧w' = w:=by
  have CM:Hid (Calls _ _ _ _ _):=made_any hM
  have CA:Hid (Calls _ _ _ _ _):=isSpace_any a w
  have CP:Hid (Calls _ _ _ _ _):=isPage_any g w
  clear hM
  cases ha:okA a with
  | false=>
    rw [ha] at CA
    clear ha hb
    go_enter Tryz.func35,Tryz.ntmps35
    go_wp2_with fail
    refine CM.out.mono ?_
    rintro e w' ⟨rfl,rfl⟩
    go_wp2_with fail
    refine CA.out.mono ?_
    rintro e w' ⟨rfl,rfl⟩
    go_wp2
    go_ret2
    exact ⟨rfl,rfl⟩
  | true=>
    have hg:okP g = false:=by
      rcases hb with q | q
      · rw [ha] at q; cases q
      · exact q
    rw [ha] at CA
    rw [hg] at CP
    clear ha hb hg
    go_enter Tryz.func35,Tryz.ntmps35
    go_wp2_with fail
    refine CM.out.mono ?_
    rintro e w' ⟨rfl,rfl⟩
    go_wp2_with fail
    refine CA.out.mono ?_
    rintro e w' ⟨rfl,rfl⟩
    go_wp2_with fail
    refine CP.out.mono ?_
    rintro e w' ⟨rfl,rfl⟩
    go_wp2
    go_ret2
    exact ⟨rfl,rfl⟩
end Go.Proofs.YtgljdbabagdhlaaGreat.T
namespace Go.Proofs.YtgljdbabagdhlaaGreat.T
open Go.ChangeShapes Go.WideShapes Go.ChangeAt Go.RowKit
set_option linter.unusedVariables false
set_option maxRecDepth 8192
set_option linter.unusedSimpArgs false
theorem Tryz.infoT:(Tryz.prog.info? 67).map (fun i=>(i.zero,i.size,i.bytes)) = some (some (.agg #[.int .i64 0,.int .i64 0,.int .i64 0,.bool false,.bool false,.bool false]),6,32):=by kernel_rfl
theorem Tryz.size67:(Tryz.prog.info? 67).map (·.size) = some 6:=by kernel_rfl
theorem run_copy6 (w : World) (ty : TypeId) (b o dLen dCap : Nat) (a : Addr) (sLen sCap m : Nat) (cs : List Value)
    (hm:Nat.min sLen dLen = m) (hn:cs.length = m * 6)
    (hsrc:∀ j v,cs[j]? = some v→w.cell? (a.add j) = some v) (hc:∀ j,j < cs.length→(w.cell? ⟨b,o + j,none⟩).isSome = true) (hf:∀ j,j < cs.length→w.frozen? ⟨b,o + j,none⟩ = false) (h1:∀ v ∈ cs,v.oneCell' = true) :
    (Builtin.copy_ #[103,103] ty #[.slice (some ⟨b,o,none⟩) dLen dCap,.slice (some a) sLen sCap]).run Tryz.prog w = .ok (goInt m) (w.setCells b o cs):=by
  have hl:=run_loadCells_list (P:=Tryz.prog) w a cs hsrc
  have hst:=run_storeCells_cells (P:=Tryz.prog) b o cs 0 w (by simpa using hc) (by simpa using hf) h1
  have hs:=Tryz.size67
  cases hq:Tryz.prog.info? 67 with
  | none=>simp [hq] at hs
  | some i=>
    have hi:i.size = 6:=by simpa [hq] using hs
    rw [hn] at hl
    simp [Builtin.copy_,run_underlying Tryz.underlying103,Builtin.lenOf,Builtin.firstCells,sizeOf,typeInfo,hq,hi,hm,hl,hst]
theorem run_copy6_none (w : World) (ty : TypeId) (d a : Option Addr) (dLen dCap sLen sCap : Nat) (hn : Nat.min sLen dLen = 0) :
    (Builtin.copy_ #[103,103] ty #[.slice d dLen dCap,.slice a sLen sCap]).run Tryz.prog w = .ok (goInt 0) w:=by
  have hs:=Tryz.size67
  cases hq:Tryz.prog.info? 67 with
  | none=>simp [hq] at hs
  | some i=>
    have hi:i.size = 6:=by simpa [hq] using hs
    cases d with
    | none=>cases a <;> simp [Builtin.copy_,run_underlying Tryz.underlying103,Builtin.lenOf,Builtin.firstCells,sizeOf,typeInfo,hq,hi,hn,loadCells,loadCellsFrom,storeCells]
    | some d=>cases a <;> simp [Builtin.copy_,run_underlying Tryz.underlying103,Builtin.lenOf,Builtin.firstCells,sizeOf,typeInfo,hq,hi,hn,loadCells,loadCellsFrom,storeCells]
theorem zc_len (n:Nat):(Builtin.zeroCells #[Value.int .i64 0,.int .i64 0,.int .i64 0,.bool false,.bool false,.bool false] n).toList.length = n * 6:=by
  simp [Builtin.zeroCells]
theorem zc_one (n:Nat):∀ v ∈ (Builtin.zeroCells #[Value.int .i64 0,.int .i64 0,.int .i64 0,.bool false,.bool false,.bool false] n).toList,v.oneCell' = true:=by
  intro v hv
  simp only [Builtin.zeroCells,Array.toList_map,List.mem_map] at hv
  obtain ⟨i,_,rfl⟩:=hv
  have h6:i % 6 < 6:=Nat.mod_lt _ (by omega)
  show (#[Value.int .i64 0,.int .i64 0,.int .i64 0,.bool false,.bool false,.bool false][i % 6]!).oneCell' = true
  generalize i % 6 = j at *
  have:j = 0 ∨ j = 1 ∨ j = 2 ∨ j = 3 ∨ j = 4 ∨ j = 5:=by omega
  rcases this with rfl | rfl | rfl | rfl | rfl | rfl <;> rfl
theorem run_clear6 (w : World) (ty : TypeId) (b o n c : Nat) (hn : 0 < n)
    (hc:∀ j,j < n * 6→(w.cell? ⟨b,o + j,none⟩).isSome = true) (hf:∀ j,j < n * 6→w.frozen? ⟨b,o + j,none⟩ = false) :
    ∃ Z:List Value,Z.length = n * 6∧(Builtin.clear_ #[103] ty #[.slice (some ⟨b,o,none⟩) n c]).run Tryz.prog w = .ok (.tuple #[]) (w.setCells b o Z):=by
  refine ⟨(Builtin.zeroCells #[Value.int .i64 0,.int .i64 0,.int .i64 0,.bool false,.bool false,.bool false] n).toList,zc_len n, ?_⟩
  have hst:=run_storeCells_cells (P:=Tryz.prog) b o (Builtin.zeroCells #[Value.int .i64 0,.int .i64 0,.int .i64 0,.bool false,.bool false,.bool false] n).toList 0 w (by rw [zc_len]; simpa using hc) (by rw [zc_len]; simpa using hf) (zc_one n)
  simp only [Nat.add_zero] at hst
  obtain ⟨m,rfl⟩:∃ m,n = m + 1:=⟨n - 1,by omega⟩
  have hv:∀ w,(zeroValue 67).run Tryz.prog w = .ok (.agg #[.int .i64 0,.int .i64 0,.int .i64 0,.bool false,.bool false,.bool false]) w:=Tryz.zeroValue67
  simp [Builtin.clear_,run_underlying Tryz.underlying103,hv,Value.cells,hst]
theorem wp_copy_run {w : World} {o : Oper} {a : Act} {K : Act → World → Prop} {Q : Exit → Act → World → Prop} (s x : Operand)
    (ho:o.op = .call { callee:=.builtin .copy,args:=#[s,x],argTypes:=#[103,103] }) (vs vx n:Value) (w' : World) (hs:a.eval s = vs) (hx:a.eval x = vx)
    (hr:(Builtin.copy_ #[103,103] o.type #[vs,vx]).run Tryz.prog w = .ok n w') (h:K (a.put o.dst n) w'):o.wp Tryz.prog a w K Q:=by
  unfold Oper.wp execOp
  simp only [ho,resolve,invoke,builtin,Sem.run_bind,Sem.run_pure,Result.andThen_ok,List.map_toArray,List.map_cons,List.map_nil,hs,hx,hr]
  exact h
theorem step_copy_run {w : World} {ops : Array Oper} {o : Oper} {a : Act} {K : Act → World → Prop} {Q : Exit → Act → World → Prop} {E : Prop} (hgd : o.guard = none) (s x : Operand)
    (ho:o.op = .call { callee:=.builtin .copy,args:=#[s,x],argTypes:=#[103,103] }) (vs vx n:Value) (w' : World) (hs:a.eval s = vs) (hx:a.eval x = vx)
    (hr:(Builtin.copy_ #[103,103] o.type #[vs,vx]).run Tryz.prog w = .ok n w') (h:K (a.put o.dst n) w') :
    if Region.wanted o (yielded ops a.tmps) = true then Oper.wp Tryz.prog o a w K Q else E:=by
  have hw:Region.wanted o (yielded ops a.tmps) = true:=by simp [Region.wanted,hgd]
  rw [if_pos hw]
  exact wp_copy_run s x ho vs vx n w' hs hx hr h
theorem drew_grown (w:World) (row:Option Nat):w.grownBy w.drew row:=⟨rfl,rfl,rfl,Nat.le_refl _,fun _ _ _=>rfl⟩
theorem Blk.drew {w:World} {g:Nat} {ty:TypeId} {L:List Value} (h:Blk w g ty L):Blk w.drew g ty L:=h
theorem six_cells {L:List Value} (h:6 ≤ L.length):∃ o0 o1 o2 o3 o4 o5 R,L = o0 :: o1 :: o2 :: o3 :: o4 :: o5 :: R:=by
  match L,h with
  | o0 :: o1 :: o2 :: o3 :: o4 :: o5 :: R,_=>exact ⟨o0,o1,o2,o3,o4,o5,R,rfl⟩
theorem Blk.first {w : World} {g : Nat} {L : List Value} (h : Blk w g 67 L) (h6 : 6 ≤ L.length) (x : Tr) :
    Blk ((((((w.setCell ⟨g,0,none⟩ (.int .i64 x.a)).setCell ⟨g,1,none⟩ (.int .i64 x.p)).setCell ⟨g,2,none⟩ (.int .i64 x.f)).setCell ⟨g,3,none⟩ (.bool x.r)).setCell ⟨g,4,none⟩ (.bool x.w)).setCell ⟨g,5,none⟩ (.bool x.d)) g 67 (tc x ++ L.drop 6):=by
  obtain ⟨o0,o1,o2,o3,o4,o5,R,rfl⟩:=six_cells h6
  exact (((((h.set 0 _).set 1 _).set 2 _).set 3 _).set 4 _).set 5 _
theorem grown6 (w:World) (g j0 j1 j2 j3 j4 j5:Nat) (v0 v1 v2 v3 v4 v5:Value):w.grownBy ((((((w.setCell ⟨g,j0,none⟩ v0).setCell ⟨g,j1,none⟩ v1).setCell ⟨g,j2,none⟩ v2).setCell ⟨g,j3,none⟩ v3).setCell ⟨g,j4,none⟩ v4).setCell ⟨g,j5,none⟩ v5) (some g):=
  (((((grown_setCell' _ _ _ _).trans (grown_setCell' _ _ _ _)).trans (grown_setCell' _ _ _ _)).trans (grown_setCell' _ _ _ _)).trans (grown_setCell' _ _ _ _)).trans (grown_setCell' _ _ _ _)
set_option maxHeartbeats 1000000 in
theorem lead_big {w : World} {p g m cap : Nat} {L : List Value} (hB : Blk w g 67 L) (hp : p < w.heap.size) (hc : w.cell? ⟨p, 1, none⟩ = some (.slice (some ⟨g, 0, none⟩) m cap)) (hpg : p ≠ g) (k : Nat) (hk : k < m) (hm : m ≤ 64) (hmc : m ≤ cap) (hc1 : cap ≠ 1) (hcm : cap ≤ maxLen) (hL : L.length = cap * 6) (hone : ∀ v ∈ L.take (m * 6), v.oneCell' = true) (x : Tr) :
    Calls Tryz.prog 115 #[.pointer (some ⟨p,0,none⟩),.int .i64 k,.agg #[.int .i64 x.a,.int .i64 x.p,.int .i64 x.f,.bool x.r,.bool x.w,.bool x.d]] w fun e w'=>e = .returned (.tuple #[])∧w.grownBy w' (some g)∧Blk w' g 67 (tc x ++ (L.take (k * 6) ++ L.drop ((k + 1) * 6))):=by
  unfold maxLen at hcm
  have X1:Hid (Six (w.alloc (.cells #[.int .i64 x.a,.int .i64 x.p,.int .i64 x.f,.bool x.r,.bool x.w,.bool x.d] 67)) w.heap.size 0 x):=six_new w x 67
  have hb1:w.heap.size < (w.alloc (.cells #[.int .i64 x.a,.int .i64 x.p,.int .i64 x.f,.bool x.r,.bool x.w,.bool x.d] 67)).heap.size:=by simp
  have G1:Hid (w.grownBy (w.alloc (.cells #[.int .i64 x.a,.int .i64 x.p,.int .i64 x.f,.bool x.r,.bool x.w,.bool x.d] 67)) (some g)):=World.grownBy_alloc _ _ _
  have BK:Hid (Blk (w.alloc (.cells #[.int .i64 x.a,.int .i64 x.p,.int .i64 x.f,.bool x.r,.bool x.w,.bool x.d] 67)) g 67 L):=hB.below (below_new _ _)
  have hglt:=hB.lt
  have C1:Hid ((w.alloc (.cells #[.int .i64 x.a,.int .i64 x.p,.int .i64 x.f,.bool x.r,.bool x.w,.bool x.d] 67)).cell? ⟨p,1,none⟩ = some (.slice (some ⟨g,0,none⟩) m cap)):=((below_new w _).cell (p:=⟨p,1,none⟩) hp).trans hc
  clear hc hB
  go_enter Tryz.func115,Tryz.ntmps115
  go_wp2_with fail
  generalize w.alloc (.cells #[.int .i64 x.a,.int .i64 x.p,.int .i64 x.f,.bool x.r,.bool x.w,.bool x.d] 67) = w1 at *
  generalize hbx:w.heap.size = bx at *
  have hlen:(L.take (k * 6)).length = k * 6:=by simp; omega
  have HCP:Hid (∀ ty,(Builtin.copy_ #[103,103] ty #[.slice (some ⟨g,6,none⟩) k (cap - 1),.slice (some ⟨g,0,none⟩) m cap]).run Tryz.prog w1.drew = .ok (goInt k) (w1.drew.setCells g 6 (L.take (k * 6)))):=fun ty=>by
    refine run_copy6 w1.drew ty g 6 k (cap - 1) ⟨g,0,none⟩ m cap k (L.take (k * 6)) (Nat.min_eq_right (by omega)) hlen ?_ ?_ ?_ ?_
    · intro i v hv
      rw [Go.WideShapes.add_plain,Nat.zero_add,BK.out.drew.cell i, ← hv,List.getElem?_take_of_lt]
      have:=(List.getElem?_eq_some_iff.1 hv).1
      omega
    · intro i hi
      rw [BK.out.drew.cell (6 + i),List.getElem?_eq_getElem (by omega)]
      rfl
    · intro i hi
      exact BK.out.drew.frozen _
    · intro v hv
      refine hone v ?_
      have:L.take (k * 6) = (L.take (m * 6)).take (k * 6):=by rw [List.take_take,Nat.min_eq_left (by omega)]
      rw [this] at hv
      exact List.mem_of_mem_take hv
  have B2:Hid (Blk (w1.drew.setCells g 6 (L.take (k * 6))) g 67 (L.take 6 ++ L.take (k * 6) ++ L.drop (6 + k * 6))):=by
    have:=Blk.sets (L.take (k * 6)) 6 w1.drew L BK.out.drew (by rw [hlen]; omega)
    rw [hlen] at this
    exact this
  have G2:Hid (w1.grownBy (w1.drew.setCells g 6 (L.take (k * 6))) (some g)):=(drew_grown _ _).trans (grown_setCells _ _ _ _)
  have C2:Hid ((w1.drew.setCells g 6 (L.take (k * 6))).cell? ⟨p,1,none⟩ = some (.slice (some ⟨g,0,none⟩) m cap)):=(G2.out.cell_far ⟨p,1,none⟩ (by show p < w1.heap.size; omega) (some_ne hpg)).trans C1.out
  generalize w1.drew.setCells g 6 (L.take (k * 6)) = wz at *
  have C1d:Hid (w1.drew.cell? ⟨p,1,none⟩ = some (.slice (some ⟨g,0,none⟩) m cap)):=C1.out
  have i1:IntKind.i64.wrap ((k:Int) + 1) = (k:Int) + 1:=IntWalk.i64_in _ (by omega)
  have i2:(0:Int) ≤ k:=by omega
  have i3:(k:Int) + 1 ≤ cap:=by omega
  have i4:(1:Int) ≤ (k:Int) + 1:=by omega
  have i5:((k:Int) + 1 - 1).toNat = k:=by omega
  have i6:((cap:Int) - 1).toNat = cap - 1:=by omega
  go_region_held_law (fun W=>W.cell? ⟨p,1,none⟩ = some (.slice (some ⟨g,0,none⟩) m cap))
    (first | exact C2.out | exact C1d.out)
    (first | (refine step_copy_run rfl (.tmp 12) (.tmp 16) rfl _ _ _ _ rfl rfl (HCP.out _) ?_))
  clear HCP C1d C1 i1 i2 i3 i4 i5 i6 hone
  have X2:Hid (Six wz bx 0 x):=X1.out.of_eq (G2.out.block bx (by omega) (some_ne (by omega)))
  have G3:Hid (w.grownBy wz (some g)):=G1.out.trans G2.out
  have h6:6 ≤ (L.take 6 ++ L.take (k * 6) ++ L.drop (6 + k * 6)).length:=by simp; omega
  have HE:Hid ((L.take 6 ++ L.take (k * 6) ++ L.drop (6 + k * 6)).drop 6 = L.take (k * 6) ++ L.drop ((k + 1) * 6)):=by
    unfold Hid
    have e6:(L.take 6).length = 6:=by simp; omega
    rw [List.append_assoc,show 6 + k * 6 = (k + 1) * 6 by omega]
    conv=>lhs; arg 1; rw [← e6]
    rw [List.drop_left]
  generalize L.take 6 ++ L.take (k * 6) ++ L.drop (6 + k * 6) = M at *
  obtain ⟨o0,o1,o2,o3,o4,o5,R,hM⟩:=six_cells h6
  have K0:Hid (wz.cell? ⟨p,1,none⟩ = some (.slice (some ⟨g,0,none⟩) m cap)∧(wz.cell? ⟨g,0,none⟩ = some o0∧wz.cell? ⟨g,1,none⟩ = some o1∧wz.cell? ⟨g,2,none⟩ = some o2∧wz.cell? ⟨g,3,none⟩ = some o3∧wz.cell? ⟨g,4,none⟩ = some o4∧wz.cell? ⟨g,5,none⟩ = some o5)∧(wz.frozen? ⟨g,0,none⟩ = false∧wz.frozen? ⟨g,1,none⟩ = false∧wz.frozen? ⟨g,2,none⟩ = false∧wz.frozen? ⟨g,3,none⟩ = false∧wz.frozen? ⟨g,4,none⟩ = false∧wz.frozen? ⟨g,5,none⟩ = false)∧Sx wz bx x):=by
    have hb:=B2.out
    refine ⟨C2.out, ?_,⟨hb.frozen 0,hb.frozen 1,hb.frozen 2,hb.frozen 3,hb.frozen 4,hb.frozen 5⟩,X2.out.sx⟩
    rw [hM] at hb
    exact ⟨hb.cell 0,hb.cell 1,hb.cell 2,hb.cell 3,hb.cell 4,hb.cell 5⟩
  have HF:Hid (Blk _ g 67 (tc x ++ M.drop 6)):=B2.out.first h6 x
  rw [HE.out] at HF
  clear hM HE C2 B2
  have j1:0 < m:=by omega
  have j2:(0:Int) < (m:Int):=by omega
  have j3:¬ m = 0:=by omega
  go_wp2_with fail
  obtain ⟨q1,⟨a0,a1,a2,a3,a4,a5⟩,⟨f0,f1,f2,f3,f4,f5⟩,x0,x1,x2,x3,x4,x5⟩:=K0.out
  go_region
  all_goals (
    clear q1 a0 a1 a2 a3 a4 a5 f0 f1 f2 f3 f4 f5 x0 x1 x2 x3 x4 x5
    go_end0
    exact ⟨rfl,(G3.out.trans (grown6 _ _ _ _ _ _ _ _ _ _ _ _ _ _)).trans (drew_grown _ _),HF.out.drew⟩)
set_option maxHeartbeats 1000000 in
theorem lead_one {w : World} {p g : Nat} {L : List Value} (hB : Blk w g 67 L) (hp : p < w.heap.size) (hc : w.cell? ⟨p, 1, none⟩ = some (.slice (some ⟨g, 0, none⟩) 1 1)) (hpg : p ≠ g) (hL : L.length = 6) (x : Tr) :
    Calls Tryz.prog 115 #[.pointer (some ⟨p,0,none⟩),.int .i64 0,.agg #[.int .i64 x.a,.int .i64 x.p,.int .i64 x.f,.bool x.r,.bool x.w,.bool x.d]] w fun e w'=>e = .returned (.tuple #[])∧w.grownBy w' (some g)∧Blk w' g 67 (tc x ++ (L.take (0 * 6) ++ L.drop ((0 + 1) * 6))):=by
  have X1:Hid (Six (w.alloc (.cells #[.int .i64 x.a,.int .i64 x.p,.int .i64 x.f,.bool x.r,.bool x.w,.bool x.d] 67)) w.heap.size 0 x):=six_new w x 67
  have hb1:w.heap.size < (w.alloc (.cells #[.int .i64 x.a,.int .i64 x.p,.int .i64 x.f,.bool x.r,.bool x.w,.bool x.d] 67)).heap.size:=by simp
  have G1:Hid (w.grownBy (w.alloc (.cells #[.int .i64 x.a,.int .i64 x.p,.int .i64 x.f,.bool x.r,.bool x.w,.bool x.d] 67)) (some g)):=World.grownBy_alloc _ _ _
  have BK:Hid (Blk (w.alloc (.cells #[.int .i64 x.a,.int .i64 x.p,.int .i64 x.f,.bool x.r,.bool x.w,.bool x.d] 67)) g 67 L):=hB.below (below_new _ _)
  have hglt:=hB.lt
  have C1:Hid ((w.alloc (.cells #[.int .i64 x.a,.int .i64 x.p,.int .i64 x.f,.bool x.r,.bool x.w,.bool x.d] 67)).cell? ⟨p,1,none⟩ = some (.slice (some ⟨g,0,none⟩) 1 1)):=((below_new w _).cell (p:=⟨p,1,none⟩) hp).trans hc
  clear hc hB
  go_enter Tryz.func115,Tryz.ntmps115
  go_wp2_with fail
  generalize w.alloc (.cells #[.int .i64 x.a,.int .i64 x.p,.int .i64 x.f,.bool x.r,.bool x.w,.bool x.d] 67) = w1 at *
  generalize hbx:w.heap.size = bx at *
  have HCP:Hid (∀ ty,(Builtin.copy_ #[103,103] ty #[.slice (some ⟨g,0,none⟩) 0 0,.slice (some ⟨g,0,none⟩) 1 1]).run Tryz.prog w1.drew = .ok (goInt 0) w1.drew):=fun ty=>run_copy6_none _ _ _ _ _ _ _ _ rfl
  have C1d:Hid (w1.drew.cell? ⟨p,1,none⟩ = some (.slice (some ⟨g,0,none⟩) 1 1)):=C1.out
  go_region_held_law (fun W=>W.cell? ⟨p,1,none⟩ = some (.slice (some ⟨g,0,none⟩) 1 1))
    (first | exact C1d.out | fail)
    (first | (refine step_copy_run rfl (.tmp 12) (.tmp 16) rfl _ _ _ _ rfl rfl (HCP.out _) ?_))
  clear HCP C1d
  have X2:Hid (Six w1.drew bx 0 x):=X1.out.of_eq rfl
  have G3:Hid (w.grownBy w1.drew (some g)):=G1.out.trans (drew_grown _ _)
  have B2:Hid (Blk w1.drew g 67 L):=BK.out
  have C2:Hid (w1.drew.cell? ⟨p,1,none⟩ = some (.slice (some ⟨g,0,none⟩) 1 1)):=C1.out
  clear C1
  generalize w1.drew = wz at *
  have h6:6 ≤ L.length:=by omega
  obtain ⟨o0,o1,o2,o3,o4,o5,R,hM⟩:=six_cells h6
  have K0:Hid (wz.cell? ⟨p,1,none⟩ = some (.slice (some ⟨g,0,none⟩) 1 1)∧(wz.cell? ⟨g,0,none⟩ = some o0∧wz.cell? ⟨g,1,none⟩ = some o1∧wz.cell? ⟨g,2,none⟩ = some o2∧wz.cell? ⟨g,3,none⟩ = some o3∧wz.cell? ⟨g,4,none⟩ = some o4∧wz.cell? ⟨g,5,none⟩ = some o5)∧(wz.frozen? ⟨g,0,none⟩ = false∧wz.frozen? ⟨g,1,none⟩ = false∧wz.frozen? ⟨g,2,none⟩ = false∧wz.frozen? ⟨g,3,none⟩ = false∧wz.frozen? ⟨g,4,none⟩ = false∧wz.frozen? ⟨g,5,none⟩ = false)∧Sx wz bx x):=by
    have hb:=B2.out
    refine ⟨C2.out, ?_,⟨hb.frozen 0,hb.frozen 1,hb.frozen 2,hb.frozen 3,hb.frozen 4,hb.frozen 5⟩,X2.out.sx⟩
    rw [hM] at hb
    exact ⟨hb.cell 0,hb.cell 1,hb.cell 2,hb.cell 3,hb.cell 4,hb.cell 5⟩
  have HF:Hid (Blk _ g 67 (tc x ++ L.drop 6)):=B2.out.first h6 x
  clear hM C2 B2
  go_wp2_with fail
  obtain ⟨q1,⟨a0,a1,a2,a3,a4,a5⟩,⟨f0,f1,f2,f3,f4,f5⟩,x0,x1,x2,x3,x4,x5⟩:=K0.out
  go_region
  all_goals (
    clear q1 a0 a1 a2 a3 a4 a5 f0 f1 f2 f3 f4 f5 x0 x1 x2 x3 x4 x5
    go_end0
    exact ⟨rfl,(G3.out.trans (grown6 _ _ _ _ _ _ _ _ _ _ _ _ _ _)).trans (drew_grown _ _),by simpa using HF.out.drew⟩)
theorem lead_ok {w : World} {p g m cap : Nat} {L : List Value} (hB : Blk w g 67 L) (hp : p < w.heap.size) (hc : w.cell? ⟨p, 1, none⟩ = some (.slice (some ⟨g, 0, none⟩) m cap)) (hpg : p ≠ g) (k : Nat) (hk : k < m) (hm : m ≤ 64) (hmc : m ≤ cap) (hcm : cap ≤ maxLen) (hL : L.length = cap * 6) (hone : ∀ v ∈ L.take (m * 6), v.oneCell' = true) (x : Tr) :
    Calls Tryz.prog 115 #[.pointer (some ⟨p,0,none⟩),.int .i64 k,.agg #[.int .i64 x.a,.int .i64 x.p,.int .i64 x.f,.bool x.r,.bool x.w,.bool x.d]] w fun e w'=>e = .returned (.tuple #[])∧w.grownBy w' (some g)∧Blk w' g 67 (tc x ++ (L.take (k * 6) ++ L.drop ((k + 1) * 6))):=by
  by_cases e:cap = 1
  · subst e
    obtain rfl:m = 1:=by omega
    obtain rfl:k = 0:=by omega
    exact lead_one hB hp hc hpg (by omega) x
  · exact lead_big hB hp hc hpg k hk hm hmc e hcm hL hone x
end Go.Proofs.YtgljdbabagdhlaaGreat.T
namespace Go.Proofs.YtgljdbabagdhlaaGreat.T
open Go.ChangeShapes Go.WideShapes Go.ChangeAt Go.RowKit
set_option linter.unusedVariables false
set_option maxRecDepth 8192
def z0:Tr:=⟨0,0,0,false,false,false⟩
def pk (a p:Int) (l:List Tr):Tr × Bool × Int:=if okA a && okP p then (match look a p l with | some x=>(x,true,0) | none=>(z0,false,0)) else (z0,false,2)
def fd (a p:Int) (l:List Tr):List Tr:=if okA a && okP p then (match look a p l with | some x=>x :: rm a p l | none=>l) else l
def isT (a p:Int) (l:List Tr):Bool × Int:=if okA a && okP p then ((look a p l).isSome,0) else (false,2)
theorem Lv.pre {w w1 w2:World} {F:Nat→Prop} {p n:Nat} {l' : List Tr} (b:Below w.heap.size w w1) (h:Lv w1 F p n l' w2):Lv w F p n l' w2:=by
  obtain ⟨F',c,k⟩:=h
  exact ⟨F',c,(Kp.of_below F b).trans k⟩
theorem Lv.fin {w w2 w3 w4:World} {F:Nat→Prop} {p n b0:Nat} {l' : List Tr} (hF:∀ k,F k→k < w.heap.size) (b:Below w.heap.size w w2) (h:Lv w2 F p n l' w3) (G:w3.grownBy w4 (some b0)) (h0:w.heap.size ≤ b0) (hlt:b0 < w2.heap.size):Lv w F p n l' w4:=by
  obtain ⟨F',c,k⟩:=h
  have hs:=b.size
  have hs2:=k.size
  refine ⟨F',c.of_eq G.size (fun i hi=>G.block i (c.lt i hi) (some_ne ?_)),⟨G.os.trans (k.os.trans b.os),G.tape.trans (k.tape.trans b.tape),G.output.trans (k.output.trans b.output),by have:=G.size; omega,fun i hi hFi => ?_,fun i hi => ?_⟩⟩
  · rcases k.new i hi with q | q
    · have:=hF i q; omega
    · omega
  · exact (G.block i (by omega) (some_ne (by omega))).trans ((k.block i (by omega) hFi).trans (b.block i hi))
  · rcases k.new i hi with q | q
    · exact Or.inl q
    · exact Or.inr (by omega)
theorem Pt.below {w w' : World} {F:Nat→Prop} {p n:Nat} {v:Value} {l:List Tr} (h:Pt w F p n v l) (k:Below w.heap.size w w'):Pt w' F p n v l:=
  ⟨fun i hi=>Nat.lt_of_lt_of_le (h.lt i hi) k.size,h.c.below k,h.fp,h.fv⟩
theorem lead_list {L : List Value} {l : List Tr} (h : L.take (l.length * 6) = tv l) (hL : l.length * 6 ≤ L.length) {k : Nat} (hk : k < l.length) (x : Tr) :
    (tc x ++ (L.take (k * 6) ++ L.drop ((k + 1) * 6))).take (l.length * 6) = tv (x :: (l.take k ++ l.drop (k + 1))):=by
  have e1:L.take (k * 6) = tv (l.take k):=by
    rw [← tv_take, ← h,List.take_take,Nat.min_eq_left (by omega)]
  have e2:(L.drop ((k + 1) * 6)).take ((l.length - (k + 1)) * 6) = tv (l.drop (k + 1)):=by
    rw [← tv_drop, ← h,List.drop_take]
    congr 1
    omega
  have l1:(tv (l.take k)).length = k * 6:=by rw [tv_len]; simp; omega
  rw [e1,show l.length * 6 = (tc x).length + ((tv (l.take k)).length + (l.length - (k + 1)) * 6) by rw [l1]; simp [tc]; omega,List.take_length_add_append,List.take_length_add_append,e2,tv_cons,tv_app]
theorem Pt.led {w w' : World} {F : Nat → Prop} {p n g cap : Nat} {l : List Tr} {L : List Value} {k : Nat} (h : Pt w F p n (.slice (some ⟨g, 0, none⟩) l.length cap) l) (hc2 : cap ≤ maxLen) (hc1 : l.length ≤ cap) (hL : L.length = cap * 6) (hT : L.take (l.length * 6) = tv l) (hk : k < l.length) (x : Tr)
    (G:w.grownBy w' (some g)) (hB:Blk w' g 67 (tc x ++ (L.take (k * 6) ++ L.drop ((k + 1) * 6)))) (hu:Uq (x :: (l.take k ++ l.drop (k + 1)))):Lv w F p n (x :: (l.take k ++ l.drop (k + 1))) w':=by
  have el:(x :: (l.take k ++ l.drop (k + 1))).length = l.length:=by simp; omega
  have hlen:=h.c.len
  refine h.turn_in _ g rfl G ?_ (by omega) hu
  rw [← el]
  refine Own.of_blk (Nat.zero_le _) hB (by omega) hc2 (by simp [tc]; omega) ?_
  rw [el]
  exact lead_list hT (by omega) hk x
theorem z6_new (w:World):Six (w.alloc (.cells #[.int .i64 0,.int .i64 0,.int .i64 0,.bool false,.bool false,.bool false] 67)) w.heap.size 0 z0:=six_new w z0 67
theorem fz_new (w:World) (cs:Array Value) (t:TypeId) (j:Nat):(w.alloc (.cells cs t)).frozen? ⟨w.heap.size,j,none⟩ = false:=Blk.frozen (L:=cs.toList) (blk_new w cs.toList t) j
set_option maxHeartbeats 1000000 in
theorem Peek_hit {w : World} {F : Nat → Prop} {p n : Nat} {l : List Tr} (h : Ca w F p n l) (a g : Int) (ha : okA a = true) (hg : okP g = true) {k : Nat} {x : Tr} (hx : Ix a g l k x) :
    Calls Tryz.prog 77 #[.pointer (some ⟨p,0,none⟩),.int .i64 a,.int .i64 g] w fun e w'=>e = .returned (.tuple #[.agg #[.int .i64 x.a,.int .i64 x.p,.int .i64 x.f,.bool x.r,.bool x.w,.bool x.d],.bool true,.int .i64 0])∧Below w.heap.size w w':=by
  obtain ⟨v,hP⟩:=h
  have B0:Hid (Below w.heap.size w (w.alloc (.cells #[.int .i64 0,.int .i64 0,.int .i64 0,.bool false,.bool false,.bool false] 67))):=below_new _ _
  have Z0:Hid (Six (w.alloc (.cells #[.int .i64 0,.int .i64 0,.int .i64 0,.bool false,.bool false,.bool false] 67)) w.heap.size 0 z0):=z6_new w
  have ZF:Hid (∀ j,(w.alloc (.cells #[.int .i64 0,.int .i64 0,.int .i64 0,.bool false,.bool false,.bool false] 67)).frozen? ⟨w.heap.size,j,none⟩ = false):=fz_new w _ _
  have hb0:w.heap.size < (w.alloc (.cells #[.int .i64 0,.int .i64 0,.int .i64 0,.bool false,.bool false,.bool false] 67)).heap.size:=by simp
  have HP:Hid (Tb (w.alloc (.cells #[.int .i64 0,.int .i64 0,.int .i64 0,.bool false,.bool false,.bool false] 67)) p n v l):=hP.c.below (below_new _ _)
  have hl:=hP.c.len
  have hn:=hP.c.n64
  have hplt:=hP.c.lt
  have hne:Hid (∀ g,v.ownBlock = some g→g < w.heap.size):=fun g hg=>(hP.c.own.lt g hg).2
  have HX:Hid (l[k]? = some x):=hx.at'
  have hkl:k < l.length:=(List.getElem?_eq_some_iff.1 hx.at').1
  have CS:Hid (Calls _ _ _ _ _):=seek_ok HP.out a g ha hg hx
  clear hP ha hg hx
  go_enter Tryz.func77,Tryz.ntmps77
  go_wp2_with fail
  generalize (w.alloc (.cells #[.int .i64 0,.int .i64 0,.int .i64 0,.bool false,.bool false,.bool false] 67)) = W0 at *
  generalize hbz:w.heap.size = b0 at *
  refine CS.out.mono ?_
  rintro e w1 ⟨rfl,hb⟩
  have T1:Hid (Tb w1 p n v l):=HP.out.below hb
  have B1:Hid (Below b0 w w1):=B0.out.trans (hb.mono (by omega))
  have hsz:=hb.size
  obtain ⟨y0,y1,y2,y3,y4,y5⟩:=Z0.out.below hb0 hb
  have yf:∀ j,w1.frozen? ⟨b0,j,none⟩ = false:=fun j=>(hb.frozen (p:=⟨b0,j,none⟩) hb0).trans (ZF.out j)
  have y6:=yf 0
  have y7:=yf 1
  have y8:=yf 2
  have y9:=yf 3
  have y10:=yf 4
  have y11:=yf 5
  obtain ⟨gr,cap,e1,h6,_,hgl,hc1,hc2⟩:=T1.out.own.cell HX.out
  have hgb:gr < b0:=hne.out gr (by rw [e1]; rfl)
  have hc:=T1.out.c1
  rw [e1] at hc
  obtain ⟨d0,d1,d2,d3,d4,d5⟩:=h6
  clear hb CS yf e1
  unfold maxLen at hc2
  go_wp2
  exact bodyPost_ret (v:=.tuple #[.agg #[.int .i64 x.a,.int .i64 x.p,.int .i64 x.f,.bool x.r,.bool x.w,.bool x.d],.bool true,.int .i64 0]) (by simp [results,Tryz.results77,go_sem, *]) rfl ⟨rfl,by subst hbz; exact B1.out.grown (grown6 _ _ _ _ _ _ _ _ _ _ _ _ _ _) B1.out.size (fun k hk=>by injection hk with hk; omega)⟩
set_option maxHeartbeats 1000000 in
theorem Peek_none {w : World} {F : Nat → Prop} {p n : Nat} {l : List Tr} (h : Ca w F p n l) (a g : Int) (ha : okA a = true) (hg : okP g = true) (hx : ∀ x ∈ l, hk a g x = false) :
    Calls Tryz.prog 77 #[.pointer (some ⟨p,0,none⟩),.int .i64 a,.int .i64 g] w fun e w'=>e = .returned (.tuple #[.agg #[.int .i64 0,.int .i64 0,.int .i64 0,.bool false,.bool false,.bool false],.bool false,.int .i64 0])∧Below w.heap.size w w':=by
  have B0:Hid (Below w.heap.size w (w.alloc (.cells #[.int .i64 0,.int .i64 0,.int .i64 0,.bool false,.bool false,.bool false] 67))):=below_new _ _
  have Z0:Hid (Six (w.alloc (.cells #[.int .i64 0,.int .i64 0,.int .i64 0,.bool false,.bool false,.bool false] 67)) w.heap.size 0 z0):=z6_new w
  have ZF:Hid (∀ j,(w.alloc (.cells #[.int .i64 0,.int .i64 0,.int .i64 0,.bool false,.bool false,.bool false] 67)).frozen? ⟨w.heap.size,j,none⟩ = false):=fz_new w _ _
  have hb0:w.heap.size < (w.alloc (.cells #[.int .i64 0,.int .i64 0,.int .i64 0,.bool false,.bool false,.bool false] 67)).heap.size:=by simp
  have CS:Hid (Calls _ _ _ _ _):=(by obtain ⟨v,hP⟩:=h; exact seek_none (hP.c.below (below_new _ _)) a g ha hg hx:Calls Tryz.prog 35 #[.pointer (some ⟨p,0,none⟩),.int .i64 a,.int .i64 g] (w.alloc (.cells #[.int .i64 0,.int .i64 0,.int .i64 0,.bool false,.bool false,.bool false] 67)) _)
  clear ha hg hx h
  go_enter Tryz.func77,Tryz.ntmps77
  go_wp2_with fail
  generalize (w.alloc (.cells #[.int .i64 0,.int .i64 0,.int .i64 0,.bool false,.bool false,.bool false] 67)) = W0 at *
  generalize hbz:w.heap.size = b0 at *
  refine CS.out.mono ?_
  rintro e w1 ⟨rfl,hb⟩
  have B1:Hid (Below b0 w w1):=B0.out.trans (hb.mono (by omega))
  have hsz:=hb.size
  obtain ⟨y0,y1,y2,y3,y4,y5⟩:=Z0.out.below hb0 hb
  have yf:∀ j,w1.frozen? ⟨b0,j,none⟩ = false:=fun j=>(hb.frozen (p:=⟨b0,j,none⟩) hb0).trans (ZF.out j)
  have y6:=yf 0
  have y7:=yf 1
  have y8:=yf 2
  have y9:=yf 3
  have y10:=yf 4
  have y11:=yf 5
  clear hb CS yf
  go_wp2
  exact bodyPost_ret (v:=.tuple #[.agg #[.int .i64 0,.int .i64 0,.int .i64 0,.bool false,.bool false,.bool false],.bool false,.int .i64 0]) (by simp [results,Tryz.results77,go_sem, *]) rfl ⟨rfl,by subst hbz; exact B1.out.grown (grown6 _ _ _ _ _ _ _ _ _ _ _ _ _ _) B1.out.size (fun k hk=>by injection hk with hk; omega)⟩
set_option maxHeartbeats 1000000 in
theorem Peek_bad {w : World} {F : Nat → Prop} {p n : Nat} {l : List Tr} (h : Ca w F p n l) (a g : Int) (hbd : okA a = false ∨ okP g = false) :
    Calls Tryz.prog 77 #[.pointer (some ⟨p,0,none⟩),.int .i64 a,.int .i64 g] w fun e w'=>e = .returned (.tuple #[.agg #[.int .i64 0,.int .i64 0,.int .i64 0,.bool false,.bool false,.bool false],.bool false,.int .i64 2])∧Below w.heap.size w w':=by
  have B0:Hid (Below w.heap.size w (w.alloc (.cells #[.int .i64 0,.int .i64 0,.int .i64 0,.bool false,.bool false,.bool false] 67))):=below_new _ _
  have Z0:Hid (Six (w.alloc (.cells #[.int .i64 0,.int .i64 0,.int .i64 0,.bool false,.bool false,.bool false] 67)) w.heap.size 0 z0):=z6_new w
  have ZF:Hid (∀ j,(w.alloc (.cells #[.int .i64 0,.int .i64 0,.int .i64 0,.bool false,.bool false,.bool false] 67)).frozen? ⟨w.heap.size,j,none⟩ = false):=fz_new w _ _
  have hb0:w.heap.size < (w.alloc (.cells #[.int .i64 0,.int .i64 0,.int .i64 0,.bool false,.bool false,.bool false] 67)).heap.size:=by simp
  have CS:Hid (Calls _ _ _ _ _):=(by obtain ⟨v,hP⟩:=h; exact seek_bad (hP.c.below (below_new _ _)) a g hbd:Calls Tryz.prog 35 #[.pointer (some ⟨p,0,none⟩),.int .i64 a,.int .i64 g] (w.alloc (.cells #[.int .i64 0,.int .i64 0,.int .i64 0,.bool false,.bool false,.bool false] 67)) _)
  clear hbd h
  go_enter Tryz.func77,Tryz.ntmps77
  go_wp2_with fail
  generalize (w.alloc (.cells #[.int .i64 0,.int .i64 0,.int .i64 0,.bool false,.bool false,.bool false] 67)) = W0 at *
  generalize hbz:w.heap.size = b0 at *
  refine CS.out.mono ?_
  rintro e w1 ⟨rfl,rfl⟩
  have hb:Below w1.heap.size w1 w1:=Below.refl _ _
  have B1:Hid (Below b0 w w1):=B0.out.trans (hb.mono (by omega))
  have hsz:=hb.size
  obtain ⟨y0,y1,y2,y3,y4,y5⟩:=Z0.out.below hb0 hb
  have yf:∀ j,w1.frozen? ⟨b0,j,none⟩ = false:=fun j=>(hb.frozen (p:=⟨b0,j,none⟩) hb0).trans (ZF.out j)
  have y6:=yf 0
  have y7:=yf 1
  have y8:=yf 2
  have y9:=yf 3
  have y10:=yf 4
  have y11:=yf 5
  clear hb CS yf
  go_wp2
  exact bodyPost_ret (v:=.tuple #[.agg #[.int .i64 0,.int .i64 0,.int .i64 0,.bool false,.bool false,.bool false],.bool false,.int .i64 2]) (by simp [results,Tryz.results77,go_sem, *]) rfl ⟨rfl,by subst hbz; exact B1.out.grown (grown6 _ _ _ _ _ _ _ _ _ _ _ _ _ _) B1.out.size (fun k hk=>by injection hk with hk; omega)⟩
set_option maxHeartbeats 1000000 in
theorem Find_none {w : World} {F : Nat → Prop} {p n : Nat} {l : List Tr} (h : Ca w F p n l) (a g : Int) (ha : okA a = true) (hg : okP g = true) (hx : ∀ x ∈ l, hk a g x = false) :
    Calls Tryz.prog 81 #[.pointer (some ⟨p,0,none⟩),.int .i64 a,.int .i64 g] w fun e w'=>e = .returned (.tuple #[.agg #[.int .i64 0,.int .i64 0,.int .i64 0,.bool false,.bool false,.bool false],.bool false,.int .i64 0])∧Below w.heap.size w w':=by
  have B0:Hid (Below w.heap.size w (w.alloc (.cells #[.int .i64 0,.int .i64 0,.int .i64 0,.bool false,.bool false,.bool false] 67))):=below_new _ _
  have Z0:Hid (Six (w.alloc (.cells #[.int .i64 0,.int .i64 0,.int .i64 0,.bool false,.bool false,.bool false] 67)) w.heap.size 0 z0):=z6_new w
  have ZF:Hid (∀ j,(w.alloc (.cells #[.int .i64 0,.int .i64 0,.int .i64 0,.bool false,.bool false,.bool false] 67)).frozen? ⟨w.heap.size,j,none⟩ = false):=fz_new w _ _
  have hb0:w.heap.size < (w.alloc (.cells #[.int .i64 0,.int .i64 0,.int .i64 0,.bool false,.bool false,.bool false] 67)).heap.size:=by simp
  have CS:Hid (Calls _ _ _ _ _):=(by obtain ⟨v,hP⟩:=h; exact seek_none (hP.c.below (below_new _ _)) a g ha hg hx:Calls Tryz.prog 35 #[.pointer (some ⟨p,0,none⟩),.int .i64 a,.int .i64 g] (w.alloc (.cells #[.int .i64 0,.int .i64 0,.int .i64 0,.bool false,.bool false,.bool false] 67)) _)
  clear ha hg hx h
  go_enter Tryz.func81,Tryz.ntmps81
  go_wp2_with fail
  generalize (w.alloc (.cells #[.int .i64 0,.int .i64 0,.int .i64 0,.bool false,.bool false,.bool false] 67)) = W0 at *
  generalize hbz:w.heap.size = b0 at *
  refine CS.out.mono ?_
  rintro e w1 ⟨rfl,hb⟩
  have B1:Hid (Below b0 w w1):=B0.out.trans (hb.mono (by omega))
  have hsz:=hb.size
  obtain ⟨y0,y1,y2,y3,y4,y5⟩:=Z0.out.below hb0 hb
  have yf:∀ j,w1.frozen? ⟨b0,j,none⟩ = false:=fun j=>(hb.frozen (p:=⟨b0,j,none⟩) hb0).trans (ZF.out j)
  have y6:=yf 0
  have y7:=yf 1
  have y8:=yf 2
  have y9:=yf 3
  have y10:=yf 4
  have y11:=yf 5
  clear hb CS yf
  go_wp2
  exact bodyPost_ret (v:=.tuple #[.agg #[.int .i64 0,.int .i64 0,.int .i64 0,.bool false,.bool false,.bool false],.bool false,.int .i64 0]) (by simp [results,Tryz.results81,go_sem, *]) rfl ⟨rfl,by subst hbz; exact B1.out.grown (grown6 _ _ _ _ _ _ _ _ _ _ _ _ _ _) B1.out.size (fun k hk=>by injection hk with hk; omega)⟩
set_option maxHeartbeats 1000000 in
theorem Find_bad {w : World} {F : Nat → Prop} {p n : Nat} {l : List Tr} (h : Ca w F p n l) (a g : Int) (hbd : okA a = false ∨ okP g = false) :
    Calls Tryz.prog 81 #[.pointer (some ⟨p,0,none⟩),.int .i64 a,.int .i64 g] w fun e w'=>e = .returned (.tuple #[.agg #[.int .i64 0,.int .i64 0,.int .i64 0,.bool false,.bool false,.bool false],.bool false,.int .i64 2])∧Below w.heap.size w w':=by
  have B0:Hid (Below w.heap.size w (w.alloc (.cells #[.int .i64 0,.int .i64 0,.int .i64 0,.bool false,.bool false,.bool false] 67))):=below_new _ _
  have Z0:Hid (Six (w.alloc (.cells #[.int .i64 0,.int .i64 0,.int .i64 0,.bool false,.bool false,.bool false] 67)) w.heap.size 0 z0):=z6_new w
  have ZF:Hid (∀ j,(w.alloc (.cells #[.int .i64 0,.int .i64 0,.int .i64 0,.bool false,.bool false,.bool false] 67)).frozen? ⟨w.heap.size,j,none⟩ = false):=fz_new w _ _
  have hb0:w.heap.size < (w.alloc (.cells #[.int .i64 0,.int .i64 0,.int .i64 0,.bool false,.bool false,.bool false] 67)).heap.size:=by simp
  have CS:Hid (Calls _ _ _ _ _):=(by obtain ⟨v,hP⟩:=h; exact seek_bad (hP.c.below (below_new _ _)) a g hbd:Calls Tryz.prog 35 #[.pointer (some ⟨p,0,none⟩),.int .i64 a,.int .i64 g] (w.alloc (.cells #[.int .i64 0,.int .i64 0,.int .i64 0,.bool false,.bool false,.bool false] 67)) _)
  clear hbd h
  go_enter Tryz.func81,Tryz.ntmps81
  go_wp2_with fail
  generalize (w.alloc (.cells #[.int .i64 0,.int .i64 0,.int .i64 0,.bool false,.bool false,.bool false] 67)) = W0 at *
  generalize hbz:w.heap.size = b0 at *
  refine CS.out.mono ?_
  rintro e w1 ⟨rfl,rfl⟩
  have hb:Below w1.heap.size w1 w1:=Below.refl _ _
  have B1:Hid (Below b0 w w1):=B0.out.trans (hb.mono (by omega))
  have hsz:=hb.size
  obtain ⟨y0,y1,y2,y3,y4,y5⟩:=Z0.out.below hb0 hb
  have yf:∀ j,w1.frozen? ⟨b0,j,none⟩ = false:=fun j=>(hb.frozen (p:=⟨b0,j,none⟩) hb0).trans (ZF.out j)
  have y6:=yf 0
  have y7:=yf 1
  have y8:=yf 2
  have y9:=yf 3
  have y10:=yf 4
  have y11:=yf 5
  clear hb CS yf
  go_wp2
  exact bodyPost_ret (v:=.tuple #[.agg #[.int .i64 0,.int .i64 0,.int .i64 0,.bool false,.bool false,.bool false],.bool false,.int .i64 2]) (by simp [results,Tryz.results81,go_sem, *]) rfl ⟨rfl,by subst hbz; exact B1.out.grown (grown6 _ _ _ _ _ _ _ _ _ _ _ _ _ _) B1.out.size (fun k hk=>by injection hk with hk; omega)⟩
set_option maxHeartbeats 1000000 in
theorem Find_hit {w : World} {F : Nat → Prop} {p n : Nat} {l : List Tr} (h : Ca w F p n l) (a g : Int) (ha : okA a = true) (hg : okP g = true) {k : Nat} {x : Tr} (hx : Ix a g l k x) :
    Calls Tryz.prog 81 #[.pointer (some ⟨p,0,none⟩),.int .i64 a,.int .i64 g] w fun e w'=>e = .returned (.tuple #[.agg #[.int .i64 x.a,.int .i64 x.p,.int .i64 x.f,.bool x.r,.bool x.w,.bool x.d],.bool true,.int .i64 0])∧Lv w F p n (x :: rm a g l) w':=by
  obtain ⟨v,hP⟩:=h
  have B0:Hid (Below w.heap.size w (w.alloc (.cells #[.int .i64 0,.int .i64 0,.int .i64 0,.bool false,.bool false,.bool false] 67))):=below_new _ _
  have Z0:Hid (Six (w.alloc (.cells #[.int .i64 0,.int .i64 0,.int .i64 0,.bool false,.bool false,.bool false] 67)) w.heap.size 0 z0):=z6_new w
  have ZF:Hid (∀ j,(w.alloc (.cells #[.int .i64 0,.int .i64 0,.int .i64 0,.bool false,.bool false,.bool false] 67)).frozen? ⟨w.heap.size,j,none⟩ = false):=fz_new w _ _
  have hb0:w.heap.size < (w.alloc (.cells #[.int .i64 0,.int .i64 0,.int .i64 0,.bool false,.bool false,.bool false] 67)).heap.size:=by simp
  have HP:Hid (Pt (w.alloc (.cells #[.int .i64 0,.int .i64 0,.int .i64 0,.bool false,.bool false,.bool false] 67)) F p n v l):=hP.below (below_new _ _)
  have hl:=hP.c.len
  have hn:=hP.c.n64
  have hplt:=hP.c.lt
  have hne:Hid (∀ g,v.ownBlock = some g→g < w.heap.size):=fun g hg=>(hP.c.own.lt g hg).2
  have HF:Hid (∀ k,F k→k < w.heap.size):=hP.lt
  have HX:Hid (Ix a g l k x):=hx
  have hkl:k < l.length:=(List.getElem?_eq_some_iff.1 hx.at').1
  have CS:Hid (Calls _ _ _ _ _):=seek_ok HP.out.c a g ha hg hx
  clear hP ha hg hx
  go_enter Tryz.func81,Tryz.ntmps81
  go_wp2_with fail
  generalize (w.alloc (.cells #[.int .i64 0,.int .i64 0,.int .i64 0,.bool false,.bool false,.bool false] 67)) = W0 at *
  generalize hbz:w.heap.size = b0 at *
  refine CS.out.mono ?_
  rintro e w1 ⟨rfl,hb⟩
  have T1:Hid (Pt w1 F p n v l):=HP.out.below hb
  have B1:Hid (Below b0 w w1):=B0.out.trans (hb.mono (by omega))
  have hsz:=hb.size
  have Z1:Hid (Six w1 b0 0 z0):=Z0.out.below hb0 hb
  have ZF1:Hid (∀ j,w1.frozen? ⟨b0,j,none⟩ = false):=fun j=>(hb.frozen (p:=⟨b0,j,none⟩) hb0).trans (ZF.out j)
  obtain ⟨gr,cap,e1,h6,_,hgl,hc1,hc2⟩:=T1.out.c.own.cell HX.out.at'
  have hgb:gr < b0:=hne.out gr (by rw [e1]; rfl)
  subst e1
  obtain ⟨d0,d1,d2,d3,d4,d5⟩:=h6
  have hc:=T1.out.c.c1
  clear hb CS Z0 ZF
  unfold maxLen at hc2
  go_wp2_with fail
  clear hc d0 d1 d2 d3 d4 d5
  have T2:Hid (Pt (w1.alloc (.cells #[.int .i64 x.a,.int .i64 x.p,.int .i64 x.f,.bool x.r,.bool x.w,.bool x.d] 67)) F p n (.slice (some ⟨gr,0,none⟩) l.length cap) l):=T1.out.below (below_new _ _)
  have B2:Hid (Below b0 w (w1.alloc (.cells #[.int .i64 x.a,.int .i64 x.p,.int .i64 x.f,.bool x.r,.bool x.w,.bool x.d] 67))):=B1.out.alloc (by omega) _
  have Z2:Hid (Six (w1.alloc (.cells #[.int .i64 x.a,.int .i64 x.p,.int .i64 x.f,.bool x.r,.bool x.w,.bool x.d] 67)) b0 0 z0):=Z1.out.below (by omega) (below_new _ _)
  have ZF2:Hid (∀ j,(w1.alloc (.cells #[.int .i64 x.a,.int .i64 x.p,.int .i64 x.f,.bool x.r,.bool x.w,.bool x.d] 67)).frozen? ⟨b0,j,none⟩ = false):=fun j=>((below_new w1 _).frozen (p:=⟨b0,j,none⟩) (show b0 < w1.heap.size by omega)).trans (ZF1.out j)
  have X2:Hid (Six (w1.alloc (.cells #[.int .i64 x.a,.int .i64 x.p,.int .i64 x.f,.bool x.r,.bool x.w,.bool x.d] 67)) w1.heap.size 0 x):=six_new w1 x 67
  have hb2:w1.heap.size < (w1.alloc (.cells #[.int .i64 x.a,.int .i64 x.p,.int .i64 x.f,.bool x.r,.bool x.w,.bool x.d] 67)).heap.size:=by simp
  generalize w1.alloc (.cells #[.int .i64 x.a,.int .i64 x.p,.int .i64 x.f,.bool x.r,.bool x.w,.bool x.d] 67) = w2 at *
  generalize hbx:w1.heap.size = bx at *
  clear Z1 ZF1
  obtain ⟨gr',cap',L,e3,_,hB,_,hm,hL,hT⟩:=T2.out.c.own.shape.resolve_left (by rintro ⟨e,_⟩; cases e)
  cases e3
  have hpg:p ≠ gr:=fun e=>T2.out.c.vp (by rw [e]; rfl)
  have HL:Hid (∀ w',w2.grownBy w' (some gr)→Blk w' gr 67 (tc x ++ (L.take (k * 6) ++ L.drop ((k + 1) * 6)))→Lv w2 F p n (x :: rm a g l) w'):=fun w' G hB'=>by
    have e:=rm_at T2.out.c.uq HX.out.at' HX.out.is
    rw [e]
    refine T2.out.led hm hc1 hL hT hkl x G hB' ?_
    rw [← e]
    obtain ⟨e1,e2⟩:=hk_eq HX.out.is
    rw [← e1, ← e2]
    exact T2.out.c.uq.front x
  have CL:Hid (Calls _ _ _ _ _):=lead_ok hB T2.out.c.lt T2.out.c.c1 hpg k hkl (by omega) hc1 hm hL (by rw [hT]; exact tv_one l) x
  clear hB hm hL hT T2
  refine CL.out.mono ?_
  rintro e w3 ⟨rfl,G,hB'⟩
  have L3:Hid (Lv w2 F p n (x :: rm a g l) w3):=HL.out w3 G hB'
  have hs3:=G.size
  have X3:Hid (Six w3 bx 0 x):=X2.out.of_eq (G.block bx (by omega) (some_ne (by omega)))
  have Z3:Hid (Six w3 b0 0 z0):=Z2.out.of_eq (G.block b0 (by omega) (some_ne (by omega)))
  have ZF3:Hid (∀ j,w3.frozen? ⟨b0,j,none⟩ = false):=fun j=>(G.frozen_far ⟨b0,j,none⟩ (show b0 < w2.heap.size by omega) (some_ne (show b0 ≠ gr by omega))).trans (ZF2.out j)
  clear HL CL G hB' X2 Z2 ZF2
  obtain ⟨y0,y1,y2,y3,y4,y5⟩:=Z3.out
  obtain ⟨d0,d1,d2,d3,d4,d5⟩:=X3.out
  have y6:=ZF3.out 0
  have y7:=ZF3.out 1
  have y8:=ZF3.out 2
  have y9:=ZF3.out 3
  have y10:=ZF3.out 4
  have y11:=ZF3.out 5
  go_wp2
  exact bodyPost_ret (v:=.tuple #[.agg #[.int .i64 x.a,.int .i64 x.p,.int .i64 x.f,.bool x.r,.bool x.w,.bool x.d],.bool true,.int .i64 0]) (by simp [results,Tryz.results81,go_sem, *]) rfl ⟨rfl,by subst hbz; exact L3.out.fin HF.out B2.out (grown6 _ _ _ _ _ _ _ _ _ _ _ _ _ _) (Nat.le_refl _) (by omega)⟩
end Go.Proofs.YtgljdbabagdhlaaGreat.T
