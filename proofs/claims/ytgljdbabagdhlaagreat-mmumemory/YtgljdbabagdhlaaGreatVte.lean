/- What Count and Drop of package table give back and leave; no condition but those named. -/
import Derived.Test.YtgljdbabagdhlaaGreatVtd
import Derived.Test.YtgljdbabagdhlaaGreatVaa
namespace Go.Proofs.YtgljdbabagdhlaaGreat.Pg
open P E Go.ChangeShapes Go.WideShapes Go.ChangeAt Go.RowKit
set_option linter.unusedVariables false
set_option maxRecDepth 8192
theorem enN_get (W:Nat→Nat→Int) (r:Nat):∀ (l:List (Nat × Nat)) (i:Nat) (x:Nat × Nat),l[i]? = some x→∀ j,j < 4→(enN W r l)[i * 4 + j]? = (nc W r x)[j]?
  | [],i,x,h,_,_=>by simp at h
  | y :: l,0,x,h,j,hj=>by
    obtain rfl:y = x:=by simpa using h
    rw [enN,List.flatMap_cons,Nat.zero_mul,Nat.zero_add,List.getElem?_append_left (by simpa [nc] using hj)]
  | y :: l,i + 1,x,h,j,hj=>by
    rw [enN,List.flatMap_cons,List.getElem?_append_right (by show 4 ≤ (i + 1) * 4 + j; omega)]
    show (enN W r l)[(i + 1) * 4 + j - 4]? = _
    rw [show (i + 1) * 4 + j - 4 = i * 4 + j by omega]
    exact enN_get W r l i x (by simpa using h) j hj
theorem row_nodes {w : World} {base : Nat} {v : Value} {W : Nat → Nat → Int} {r : Nat} {L : List (Nat × Nat)} (h : w.ownsRow base 192 4 v L.length (enN W r L)) (hL : 0 < L.length) : ∃ g cap, v = .slice (some ⟨g, 0, none⟩) L.length cap ∧ base ≤ g ∧ g < w.heap.size ∧
    ∀ i x,L[i]? = some x→∀ W' : World,W'.heap[g]? = w.heap[g]?→W'.cell? ⟨g,i * 4,none⟩ = some (.int .i64 ((tb W r x.1 x.2).getD 0:Nat))∧W'.cell? ⟨g,i * 4 + 1,none⟩ = some (.int .i64 ((3 - x.1:Nat):Int))∧W'.cell? ⟨g,i * 4 + 2,none⟩ = some (.int .i64 (x.2:Nat))∧W'.cell? ⟨g,i * 4 + 3,none⟩ = some (.int .u64 (abv W r x:Nat)):=by
  obtain ⟨_,⟨rfl,hn⟩ | ⟨g,cap,cur,rfl,hb,hw,hc,hm,hs,ht⟩⟩:=h
  · omega
  · refine ⟨g,cap,rfl,hb,(Array.getElem?_eq_some_iff.1 hw).1,fun i x hx W' he => ?_⟩
    have hi:i < L.length:=(List.getElem?_eq_some_iff.1 hx).1
    have key:∀ j,j < 4→W'.cell? ⟨g,i * 4 + j,none⟩ = (nc W r x)[j]?:=fun j hj=>by
      rw [cell_of_row W' g (i * 4 + j) cur 192 (0,0) (he.trans hw), ← Array.getElem?_toList, ← enN_get W r L i x hx j hj, ← ht,List.getElem?_take_of_lt (by omega)]
    exact ⟨key 0 (by decide),key 1 (by decide),key 2 (by decide),key 3 (by decide)⟩
theorem ndr_pos (W:Nat→Nat→Int) (r:Nat):0 < (ndr W r).length:=by rw [ndr,List.length_append,List.length_singleton]; omega
theorem ndr_mem {W:Nat→Nat→Int} {r:Nat} {x:Nat × Nat}:x ∈ ndr W r ↔ x.1 ≤ 3∧tb W r x.1 x.2 ≠ none:=by
  rw [ndr,List.mem_append,List.mem_singleton]
  constructor
  · rintro (h | rfl)
    · have:=mem_nds h
      exact ⟨by omega,this.2.2.2⟩
    · exact ⟨by decide,by rw [tb_zero]; exact nofun⟩
  · rintro ⟨h1,h2⟩
    by_cases h0:x.1 = 0
    · right
      obtain ⟨d,k⟩:=x
      simp only at h0 h2
      subst h0
      rw [tb_zero] at h2
      by_cases hk:k = 0
      · rw [hk]
      · rw [if_neg hk] at h2; exact absurd rfl h2
    · left
      refine nds_mem (d':=x.1) (k':=x.2) (by omega) (by omega) ?_ h2
      cases q:tb W r x.1 x.2 with
      | none=>exact absurd q h2
      | some f=>exact Nat.div_eq_of_lt (by rw [Nat.sub_zero]; exact tb_lt q)
theorem ndr_nodup (W:Nat→Nat→Int) (r:Nat):(ndr W r).Nodup:=by
  refine List.nodup_append.2 ⟨nds_nodup _ _ _,List.pairwise_singleton _ _,fun a ha b hb e => ?_⟩
  rw [List.mem_singleton.1 hb] at e
  have:=(mem_nds ha).1
  rw [e] at this
  exact absurd this (Nat.lt_irrefl _)
theorem ndr_len (W:Nat→Nat→Int) (r:Nat):(ndr W r).length = all (pr W r):=by
  have key:∀ l d k,(nds W r l d k).length = gone (pr W r) (fun _ _=>false) l d k:=by
    intro l
    induction l with
    | zero=>intro d k; rfl
    | succ l ih=>
      intro d k
      rw [nds_all,gone]
      have h:∀ n,(ndn W r l d k n).length = sm (fun i=>if pr W r (d + 1) (k * 32 + i) = true then gone (pr W r) (fun _ _=>false) l (d + 1) (k * 32 + i) + (if (fun _ _=>false:Nat→Nat→Bool) (d + 1) (k * 32 + i) = true then 0 else 1) else 0) n:=by
        intro n
        induction n with
        | zero=>rfl
        | succ n ihn=>
          rw [ndn_succ,List.length_append,ihn,sm]
          congr 1
          show (if (tb W r (d + 1) (k * 32 + n)).isSome = true then _ else _:List (Nat × Nat)).length = _
          unfold pr
          split
          · rw [List.length_append,List.length_singleton,ih]; rfl
          · rfl
      exact h 32
  rw [ndr,List.length_append,List.length_singleton,key, ← gone_nothing (pr_clo W r),Nat.add_comm]
open Classical in
noncomputable def Ug (W:Nat→Nat→Int) (r:Nat) (us:Us) (l:List (Nat × Nat)):Us:=fun f=>if ∃ x ∈ l,tb W r x.1 x.2 = some f then none else us f
theorem Ug_other {W:Nat→Nat→Int} {r:Nat} {us:Us} {l:List (Nat × Nat)} {f:Nat} (h:∀ x ∈ l,tb W r x.1 x.2 ≠ some f):Ug W r us l f = us f:=if_neg (by rintro ⟨x,h1,h2⟩; exact h x h1 h2)
theorem Ok.next {P:Par} {R:Nat→Prop} {S:E.Sc × Us} (K:Ok P R S) {r:Nat} (hr:R r) {j:Nat} {x:Nat × Nat} (hx:(ndr (wd S.1.m) r)[j]? = some x):∃ f,tb (wd S.1.m) r x.1 x.2 = some f∧S.2 f = some 3∧Ug (wd S.1.m) r S.2 ((ndr (wd S.1.m) r).take j) f = some 3∧(ndr (wd S.1.m) r).take (j + 1) = (ndr (wd S.1.m) r).take j ++ [x]:=by
  obtain ⟨hj,e⟩:=List.getElem?_eq_some_iff.1 hx
  have hm:x ∈ ndr (wd S.1.m) r:=by rw [← e]; exact List.getElem_mem hj
  obtain ⟨h3,hn⟩:=ndr_mem.1 hm
  obtain ⟨f,hf⟩:=Option.ne_none_iff_exists'.1 hn
  have ho:=K.fo.ow r hr x.1 x.2 f h3 hf
  refine ⟨f,hf,ho, ?_,by rw [List.take_add_one,hx]; rfl⟩
  rw [Ug_other]
  · exact ho
  · intro y hy e2
    obtain ⟨i,hi,ey⟩:=List.mem_take_iff_getElem.1 hy
    have hy3:=(ndr_mem.1 (List.mem_of_mem_take hy)).1
    have:=K.fo.inj r r hr hr y.1 x.1 y.2 x.2 f hy3 h3 e2 hf
    have exy:y = x:=Prod.ext this.2.1 this.2.2
    exact (List.pairwise_iff_getElem.1 (ndr_nodup (wd S.1.m) r) i j (by omega) hj (by omega)) (by rw [ey,e,exy])
theorem give_f {w w1:World} {X:Nat→Prop} {t c p:Nat} {h:Hw} {P:Par} {S:E.Sc × Us} {m:Nat→Option Nat} (T:Tv w X t c p h P S m w1) {f:Nat} (hf:S.2 f = some 3):Calls Tryz.prog 90 #[.pointer (some ⟨p,0,none⟩),.int .i64 (f:Nat)] w1 fun e w'=>e = .returned (.int .i64 0)∧Tv w X t c p h P (S.1,B.pt S.2 f none) m w':=by
  obtain ⟨Z,po,ht⟩:=T.pool
  refine (Give_p po f 3 hf (by decide)).mono ?_
  rintro e w2 ⟨F',rfl,hP,hK⟩
  exact ⟨rfl,ht _ _ _ hP hK⟩
theorem give_cU {P:Par} (hP:P.Ok) {us:Us} (hv:Va P us) {f:Nat} (hf:us f = some 3):cU (B.pt us f none) 3 4096 + 1 = cU us 3 4096:=by
  obtain ⟨_,_,i,x,hi,hx,e⟩:=hv.us1 f 3 hf
  have:=cU_give hf 3 (n:=4096) (by rw [e]; exact fm_lt hP hi hx)
  simpa using this
theorem Table_d {d l:Nat} (hd:d + l = 3) {a:Int} (h0:0 ≤ a) (h1:a < 1048576) (w:World):Calls Tryz.prog 103 #[.int .i64 a,.int .i64 (l:Nat)] w fun e w'=>e = .returned (.tuple #[.int .i64 (a / qd d),.int .i64 0])∧w' = w:=by
  rcases (show l = 0 ∨ l = 1 ∨ l = 2 ∨ l = 3 by omega) with rfl | rfl | rfl | rfl
  · obtain rfl:d = 3:=by omega
    exact A.Table_0 a h0 h1 w
  · obtain rfl:d = 2:=by omega
    exact A.Table_1 a h0 h1 w
  · obtain rfl:d = 1:=by omega
    exact A.Table_2 a h0 h1 w
  · obtain rfl:d = 0:=by omega
    exact A.Table_3 a h0 h1 w
theorem needed1_ok {w : World} {gb : Nat} {f k : Nat} {ab : Nat} {d l : Nat} (hd : d + l = 3) (hb : C.Blk w gb 192 [.int .i64 (f : Nat), .int .i64 (l : Nat), .int .i64 (k : Nat), .int .u64 (ab : Nat)]) {a n : Int} (hm : A.mayS (a, n) = true) :
    Calls Tryz.prog 136 #[.agg #[.int .i64 a,.int .i64 n],.pointer (some ⟨gb,0,none⟩)] w fun e w'=>e = .returned (.bool (A.ned (qd d) (a,n) k))∧Below w.heap.size w w':=by
  simp only [A.mayS,Bool.and_eq_true,decide_eq_true_eq] at hm
  obtain ⟨⟨m0,m1⟩,m2⟩:=hm
  have B1:Below w.heap.size w (w.alloc (.cells #[.int .i64 a,.int .i64 n] 86)):=(Below.refl _ _).alloc (Nat.le_refl _) _
  have hb1:=hb.of_eq (B1.block _ hb.lt)
  have c1:=hb1.cell 1
  have c2:=hb1.cell 2
  simp only [List.getElem?_cons_succ,List.getElem?_cons_zero] at c1 c2
  have HB:Hid (Below w.heap.size w (w.alloc (.cells #[.int .i64 a,.int .i64 n] 86))):=B1
  clear hb hb1 B1
  by_cases hn:n = 0
  · subst hn
    rw [show A.ned (qd d) (a,0) k = false by simp [A.ned]]
    go_enter Tryz.func136,Tryz.ntmps136
    go_wp2
    go_ret
    exact ⟨rfl,HB.out⟩
  · have hn0:0 < n:=by omega
    have C1:Hid (∀ W,Calls _ _ _ W _):=fun W=>Table_d hd m0 (show a < 1048576 by omega) W
    have C2:Hid (∀ W,Calls _ _ _ W _):=fun W=>Table_d hd (show 0 ≤ a + n - 1 by omega) (show a + n - 1 < 1048576 by omega) W
    have HE:Hid (A.ned (qd d) (a,n) k = (decide (a / qd d ≤ (k:Int)) && decide ((k:Int) ≤ (a + n - 1) / qd d))):=by unfold Hid; simp [A.ned,hn0]
    generalize a / qd d = x1 at *
    generalize (a + n - 1) / qd d = x2 at *
    rw [HE.out]
    clear HE
    go_enter Tryz.func136,Tryz.ntmps136
    go_wp2_with fail
    refine (C1.out _).mono ?_
    rintro e w' ⟨rfl,rfl⟩
    go_wp2_with fail
    refine (C2.out _).mono ?_
    rintro e w' ⟨rfl,rfl⟩
    by_cases h1:x1 ≤ (k:Int)
    · go_wp2
      go_ret
      exact ⟨by simp [h1],HB.out⟩
    · have H1:Hid (decide (x1 ≤ (k:Int)) = false):=by unfold Hid; simp; omega
      go_wp2
      go_ret
      exact ⟨by rw [H1.out]; rfl,HB.out⟩
def Spn (w:World) (ao:Option Addr) (xs:List (Int × Int)):Prop:=xs = [] ∨ ∃ b off,ao = some ⟨b,off,none⟩∧A.Row w b off xs
theorem Spn.of_eq {w w' : World} {ao:Option Addr} {xs:List (Int × Int)} (h:Spn w ao xs) (hs:w.heap.size ≤ w'.heap.size) (e:∀ b off,ao = some ⟨b,off,none⟩→b < w.heap.size→w'.heap[b]? = w.heap[b]?):Spn w' ao xs:=by
  rcases h with h | ⟨b,off,rfl,hb,hc⟩
  · exact Or.inl h
  · exact Or.inr ⟨b,off,rfl,Nat.lt_of_lt_of_le hb hs,fun i hi=>⟨(World.cell?_of_block (w:=w) (a:=⟨b,off + i * 2,none⟩) (e b off rfl hb)).trans (hc i hi).1,(World.cell?_of_block (w:=w) (a:=⟨b,off + i * 2 + 1,none⟩) (e b off rfl hb)).trans (hc i hi).2⟩⟩
theorem Spn.below {w w' : World} {ao:Option Addr} {xs:List (Int × Int)} (h:Spn w ao xs) (k:Below w.heap.size w w'):Spn w' ao xs:=h.of_eq k.size (fun b _ _ hb=>k.block b hb)
theorem Spn.at' {w:World} {ao:Option Addr} {xs:List (Int × Int)} (h:Spn w ao xs) {i:Nat} (hi:i < xs.length):∃ b off,ao = some ⟨b,off,none⟩∧w.cell? ⟨b,off + i * 2,none⟩ = some (.int .i64 xs[i].1)∧w.cell? ⟨b,off + i * 2 + 1,none⟩ = some (.int .i64 xs[i].2):=by
  rcases h with h | ⟨b,off,rfl,hb,hc⟩
  · subst h; simp at hi
  · exact ⟨b,off,rfl,(hc i hi).1,(hc i hi).2⟩
theorem cov_none {q:Int} {xs:List (Int × Int)} {k:Nat} (h:∀ i (hi:i < xs.length),A.ned q xs[i] k = false):A.cov q xs k = false:=by
  unfold A.cov
  rw [List.any_eq_false]
  intro s hs
  obtain ⟨i,hi,rfl⟩:=List.mem_iff_getElem.1 hs
  rw [h i hi]
  decide
theorem cov_some {q:Int} {xs:List (Int × Int)} {k i:Nat} (hi:i < xs.length) (h:A.ned q xs[i] k = true):A.cov q xs k = true:=(A.cov_iff q xs k).2 ⟨xs[i],List.getElem_mem hi,h⟩
theorem IndexF_ok {w : World} {ao : Option Addr} {cap : Nat} {xs : List (Int × Int)} (hl : xs.length ≤ 1024) (hv : ∀ s ∈ xs, A.mayS s = true) (hs : Spn w ao xs) {gb : Nat} {f k : Nat} {ab : Nat} {d l : Nat} (hd : d + l = 3) (hb : C.Blk w gb 192 [.int .i64 (f : Nat), .int .i64 (l : Nat), .int .i64 (k : Nat), .int .u64 (ab : Nat)]) :
    Calls Tryz.prog 171 #[.slice ao xs.length cap,.func (.func 136) #[] #[.pointer (some ⟨gb,0,none⟩)]] w fun e w'=>∃ i:Int,e = .returned (.int .i64 i)∧decide (0 ≤ i) = nd xs d k ∧ -1 ≤ i∧i ≤ 1024∧Below w.heap.size w w':=by
  have HS:Hid (Spn w ao xs):=hs
  have HX:Hid (C.Blk w gb 192 [.int .i64 (f:Nat),.int .i64 (l:Nat),.int .i64 (k:Nat),.int .u64 (ab:Nat)]):=hb
  have HV:Hid (∀ i (hi:i < xs.length),A.mayS xs[i] = true):=fun i hi=>hv _ (List.getElem_mem hi)
  clear hs hb
  go_enter Tryz.func171,Tryz.ntmps171
  go_wp2_with fail
  go_loopw [8] (fun z wr=>∃ j:Nat,j ≤ xs.length∧z = .int .i64 j∧(∀ i (hi:i < xs.length),i < j→A.ned (qd d) xs[i] k = false)∧Below w.heap.size w wr) (fun z _=>xs.length - (D.iv z).toNat)
  case atStart=>exact ⟨0,by omega,rfl,fun i _ hi=>absurd hi (by omega),Below.refl _ _⟩
  case round=>
    obtain ⟨j,hj,rfl,hno,hbl⟩:=hrel
    have HNO:Hid (∀ i (hi:i < xs.length),i < j→A.ned (qd d) xs[i] k = false):=hno
    have HB:Hid (Below w.heap.size w wr):=hbl
    clear hno hbl
    by_cases hlt:j < xs.length
    case' pos=>
      obtain ⟨b,off,rfl,q0,q1⟩:=(HS.out.below HB.out).at' hlt
      have CN:Hid (Calls _ _ _ _ _):=needed1_ok hd (HX.out.of_eq (HB.out.block _ HX.out.lt)) (a:=xs[j].1) (n:=xs[j].2) (HV.out j hlt)
      obtain ⟨bb,hbb⟩:∃ bb,A.ned (qd d) (xs[j].1,xs[j].2) k = bb:=⟨_,rfl⟩
      have HBB:Hid (A.ned (qd d) xs[j] k = bb):=hbb
      rw [hbb] at CN
      clear hbb
      generalize xs[j].1 = a1 at *
      generalize xs[j].2 = n1 at *
      cases bb
      case' false=>
        go_wp2_with (go_at_call 136; refine CN.out.mono ?_; rintro e w2 ⟨rfl,hb2⟩; have HB2:Hid (Below w.heap.size w w2):=HB.out.trans (hb2.mono HB.out.size); clear hb2)
        go_roundw
        case rel=>
          refine ⟨j + 1,by omega,by go_num,fun i hi hij => ?_,HB2.out⟩
          by_cases e:i = j
          · subst e; exact HBB.out
          · exact HNO.out i hi (by omega)
        case measure=>simp [D.iv]; omega
      case' true=>
        go_wp2_with (go_at_call 136; refine CN.out.mono ?_; rintro e w2 ⟨rfl,hb2⟩; have HB2:Hid (Below w.heap.size w w2):=HB.out.trans (hb2.mono HB.out.size); clear hb2)
        go_ret
        refine ⟨_,rfl, ?_,by omega,by omega,HB2.out⟩
        rw [nd,cov_some hlt HBB.out]
        simp
    case' neg=>
      obtain rfl:j = xs.length:=by omega
      go_wp2
      go_ret
      refine ⟨_,rfl, ?_,by omega,by omega,HB.out⟩
      rw [nd,cov_none (fun i hi=>HNO.out i hi hi)]
      rfl
theorem needed_ok {w : World} {ao : Option Addr} {cap : Nat} {xs : List (Int × Int)} (hl : xs.length ≤ 1024) (hv : ∀ s ∈ xs, A.mayS s = true) (hs : Spn w ao xs) {f k : Nat} {ab : Nat} {d l : Nat} (hd : d + l = 3) :
    Calls Tryz.prog 101 #[.agg #[.int .i64 (f:Nat),.int .i64 (l:Nat),.int .i64 (k:Nat),.int .u64 (ab:Nat)],.slice ao xs.length cap] w fun e w'=>e = .returned (.bool (nd xs d k))∧Below w.heap.size w w':=by
  have B1:Below w.heap.size w (w.alloc (.cells #[.int .i64 (f:Nat),.int .i64 (l:Nat),.int .i64 (k:Nat),.int .u64 (ab:Nat)] 192)):=(Below.refl _ _).alloc (Nat.le_refl _) _
  have CI:Hid (Calls _ _ _ _ _):=IndexF_ok (cap:=cap) hl hv (hs.below B1) hd (C.blk_new w [.int .i64 (f:Nat),.int .i64 (l:Nat),.int .i64 (k:Nat),.int .u64 (ab:Nat)] 192)
  have HB:Hid (Below w.heap.size w (w.alloc (.cells #[.int .i64 (f:Nat),.int .i64 (l:Nat),.int .i64 (k:Nat),.int .u64 (ab:Nat)] 192))):=B1
  have hmf:∀ (fn:Fn) (first cap:Array Value) (w:World),(Instr.makeFunc fn first cap).run Tryz.prog w = .ok (.func fn first cap) w:=fun _ _ _ _=>rfl
  have CC:Hid (Calls Tryz.prog 135 #[.slice ao xs.length cap,.func (.func 136) #[] #[.pointer (some ⟨w.heap.size,0,none⟩)]] (w.alloc (.cells #[.int .i64 (f:Nat),.int .i64 (l:Nat),.int .i64 (k:Nat),.int .u64 (ab:Nat)] 192)) fun e w'=>e = .returned (.bool (nd xs d k))∧Below w.heap.size w w'):=by
    clear hs B1
    unfold Hid
    generalize w.alloc (.cells #[.int .i64 (f:Nat),.int .i64 (l:Nat),.int .i64 (k:Nat),.int .u64 (ab:Nat)] 192) = wb at *
    go_enter Tryz.func135,Tryz.ntmps135
    go_wp2_with (go_at_call 171; refine CI.out.mono ?_; rintro e w2 ⟨i,rfl,hi,h0,h1,hb2⟩; have HI:Hid (decide (0 ≤ i) = nd xs d k):=hi; have HB2:Hid (Below w.heap.size w w2):=HB.out.trans (hb2.mono HB.out.size); clear hi hb2)
    go_ret
    exact ⟨by rw [← HI.out]; rfl,HB2.out⟩
  clear hs CI B1
  go_enter Tryz.func101,Tryz.ntmps101
  go_wp2_with (go_at_call 135; refine CC.out.mono ?_; rintro e w2 ⟨rfl,hb⟩; have HB2:Hid (Below w.heap.size w w2):=hb; clear hb)
  go_ret
  exact ⟨rfl,HB2.out⟩
def cls (xs:List (Int × Int)) (l:List (Nat × Nat)):List (Nat × Nat):=l.filter fun x=>decide (x.1 ≠ 0) && !nd xs x.1 x.2
def inC (l:List (Nat × Nat)) (d k:Nat):Prop:=(d,k) ∈ l
theorem inC_snoc (l:List (Nat × Nat)) (d k:Nat):inC (l ++ [(d,k)]) = fun d' k'=>inC l d' k' ∨ (d' = d∧k' = k):=by
  funext d' k'
  simp [inC]
theorem cls_snoc (xs:List (Int × Int)) (l:List (Nat × Nat)) (x:Nat × Nat):cls xs (l ++ [x]) = if x.1 ≠ 0∧nd xs x.1 x.2 = false then cls xs l ++ [x] else cls xs l:=by
  unfold cls
  rw [List.filter_append]
  by_cases h:x.1 ≠ 0∧nd xs x.1 x.2 = false
  · rw [if_pos h]; simp [h]
  · rw [if_neg h]
    have:(decide (x.1 ≠ 0) && !nd xs x.1 x.2) = false:=by
      cases hd:nd xs x.1 x.2
      · have:x.1 = 0:=by
          by_cases q:x.1 = 0
          · exact q
          · exact absurd ⟨q,hd⟩ h
        simp [this]
      · simp
    rw [List.filter_cons_of_neg (by rw [this]; decide),List.filter_nil,List.append_nil]
theorem cls_all {W:Nat→Nat→Int} {r:Nat} (xs:List (Int × Int)) (d k:Nat) (hd:d < 3) (h:tb W r (d + 1) k ≠ none):inC (cls xs (ndr W r)) (d + 1) k ↔ nd xs (d + 1) k = false:=by
  unfold inC cls
  rw [List.mem_filter]
  constructor
  · rintro ⟨_,q⟩
    simpa using q
  · intro q
    exact ⟨ndr_mem.2 ⟨by show d + 1 ≤ 3; omega,h⟩,by simp [q]⟩
theorem cls_len (xs:List (Int × Int)) (l:List (Nat × Nat)):(cls xs l).length ≤ l.length:=List.length_filter_le _ _
theorem cls_gone (xs:List (Int × Int)) (W:Nat→Nat→Int) (r:Nat):(cls xs (ndr W r)).length = gone (pr W r) (nd xs) 3 0 0:=by
  have ap:∀ a b,cls xs (a ++ b) = cls xs a ++ cls xs b:=fun a b=>List.filter_append _ _
  have key:∀ l d k,(cls xs (nds W r l d k)).length = gone (pr W r) (nd xs) l d k:=by
    intro l
    induction l with
    | zero=>intro d k; rfl
    | succ l ih=>
      intro d k
      rw [nds_all,gone]
      have h:∀ n,(cls xs (ndn W r l d k n)).length = sm (fun i=>if pr W r (d + 1) (k * 32 + i) = true then gone (pr W r) (nd xs) l (d + 1) (k * 32 + i) + (if nd xs (d + 1) (k * 32 + i) = true then 0 else 1) else 0) n:=by
        intro n
        induction n with
        | zero=>rfl
        | succ n ihn=>
          rw [ndn_succ,ap,List.length_append,ihn,sm]
          congr 1
          show (cls xs (if (tb W r (d + 1) (k * 32 + n)).isSome = true then _ else _:List (Nat × Nat))).length = _
          unfold pr
          split
          · rw [ap,List.length_append,ih]
            congr 1
            cases q:nd xs (d + 1) (k * 32 + n) <;> simp [cls,q]
          · rfl
      exact h 32
  rw [ndr,ap,List.length_append,key]
  simp [cls]
structure Pn (w1:World) (X1:Nat→Prop) (t c p:Nat) (h:Hw) (P:Par) (S:E.Sc × Us) (m:Nat→Option Nat) (r:Nat) (l:List (Nat × Nat)) (M:Nat→Int) (w:World):Prop where
  we:wd M = Wc (wd S.1.m) r (inC l)
  tv:Tv w1 X1 t c p h P ({ S.1 with m:=M },Uc (wd S.1.m) r (inC l) S.2) m w
  cu:cU (Uc (wd S.1.m) r (inC l) S.2) 3 4096 + l.length = cU S.2 3 4096
theorem Pn.below {w1:World} {X1:Nat→Prop} {t c p:Nat} {h:Hw} {P:Par} {S:E.Sc × Us} {m:Nat→Option Nat} {r:Nat} {l:List (Nat × Nat)} {M:Nat→Int} {w w' : World} (K:Pn w1 X1 t c p h P S m r l M w) (b:Below w.heap.size w w'):Pn w1 X1 t c p h P S m r l M w':=⟨K.we,K.tv.below b,K.cu⟩
theorem blk_of {w w' : World} {X:Nat→Prop} {t c p:Nat} {h:Hw} {P:Par} {S:E.Sc × Us} {m:Nat→Option Nat} (T:Tv w X t c p h P S m w') {g:Nat} {ty:TypeId} {L:List Value} (hb:C.Blk w g ty L) (hn:¬ X g):C.Blk w' g ty L:=by
  obtain ⟨X',_,k⟩:=T
  exact hb.of_eq (k.block g hb.lt hn)
theorem Pn.strike {P : Par} (hP : P.Ok) {R : Nat → Prop} {S : E.Sc × Us} (K : Ok P R S) {h : Hw} (hN : P.N * P.C ≤ h.n) {r : Nat} (hr : R r) {w1 : World} {X1 : Nat → Prop} {t c p : Nat} {m : Nat → Option Nat} {l : List (Nat × Nat)} {M : Nat → Int} {d k f : Nat} (hd : d < 3) (hf : tb (wd S.1.m) r (d + 1) k = some f) (hl : ¬ inC l (d + 1) k) :
    ∃ pf,pf < h.n∧abv (wd S.1.m) r (d + 1,k) = pf * 256 + k % 32 * 8∧(∀ w:World,Pn w1 X1 t c p h P S m r l M w→Uc (wd S.1.m) r (inC l) S.2 f = some 3) ∧
      ∀ w w' : World,Pn w1 X1 t c p h P S m r l M w→Tv w1 X1 t c p h P (lk { S.1 with m:=M } pf (k % 32) 0,B.pt (Uc (wd S.1.m) r (inC l) S.2) f none) m w'→Pn w1 X1 t c p h P S m r (l ++ [(d + 1,k)]) (lk { S.1 with m:=M } pf (k % 32) 0).m w':=by
  obtain ⟨pf,hpf,_⟩:=tb_up hf
  have hk:k % 32 < 32:=Nat.mod_lt _ (by decide)
  have hu:Uc (wd S.1.m) r (inC l) S.2 f = some 3:=by
    rw [Uc_at K.fo hr hr (show d + 1 ≤ 3 by omega) hf (fun _ _=>hl)]
    exact K.fo.ow r hr (d + 1) k f (by omega) hf
  refine ⟨pf,(K.lt hP hN hr (show d ≤ 3 by omega) hpf).1, ?_,fun _ _=>hu,fun w w' Q T=>⟨?_, ?_, ?_⟩⟩
  · unfold abv
    rw [if_neg (Nat.succ_ne_zero d)]
    show (tb (wd S.1.m) r d (k / 32)).getD 0 * 256 + k % 32 * 8 = _
    rw [hpf]
    rfl
  · rw [wd_lk _ _ hk (by decide) (by decide)]
    show put (wd M) pf (k % 32) 0 = _
    rw [Q.we,Wc_put hd hpf hf,inC_snoc]
  · have e:=Uc_put (us:=S.2) (C:=inC l) hd hf
    rw [inC_snoc, ← e]
    exact T
  · have e:=Uc_put (us:=S.2) (C:=inC l) hd hf
    rw [inC_snoc, ← e,List.length_append,List.length_singleton]
    have q1:=give_cU (us:=Uc (wd S.1.m) r (inC l) S.2) hP Q.tv.par.2 hu
    have q2:=Q.cu
    show cU (B.pt (Uc (wd S.1.m) r (inC l) S.2) f none) 3 4096 + (l.length + 1) = _
    omega
def Rn (W:Nat→Nat→Int) (r:Nat) (L:List (Nat × Nat)) (g:Nat) (w:World):Prop:=g < w.heap.size∧∀ i x,L[i]? = some x→∀ W' : World,W'.heap[g]? = w.heap[g]?→W'.cell? ⟨g,i * 4,none⟩ = some (.int .i64 ((tb W r x.1 x.2).getD 0:Nat))∧W'.cell? ⟨g,i * 4 + 1,none⟩ = some (.int .i64 ((3 - x.1:Nat):Int))∧W'.cell? ⟨g,i * 4 + 2,none⟩ = some (.int .i64 (x.2:Nat))∧W'.cell? ⟨g,i * 4 + 3,none⟩ = some (.int .u64 (abv W r x:Nat))
set_option maxHeartbeats 2000000 in
theorem prune_ok {P : Par} (hP : P.Ok) {R : Nat → Prop} {S : E.Sc × Us} (K : Ok P R S) {h : Hw} (hN : P.N * P.C ≤ h.n) {r : Nat} (hr : R r) {w1 : World} {X1 : Nat → Prop} {t c p : Nat} {m : Nat → Option Nat} (T1 : Tt w1 X1 t c p h P S m) {g cap : Nat} (hg : Rn (wd S.1.m) r (ndr (wd S.1.m) r) g w1) (hgX : ¬ X1 g)
    {ao:Option Addr} {cap2:Nat} {xs:List (Int × Int)} (hl:xs.length ≤ 1024) (hv:∀ s ∈ xs,A.mayS s = true) (hs:Spn w1 ao xs) (hsX:xs = [] ∨ ∀ b off,ao = some ⟨b,off,none⟩→¬ X1 b) :
    Calls Tryz.prog 58 #[.pointer (some ⟨t,0,none⟩),.slice (some ⟨g,0,none⟩) (ndr (wd S.1.m) r).length cap,.slice ao xs.length cap2] w1 fun e w'=>e = .returned (.int .i64 ((cls xs (ndr (wd S.1.m) r)).length:Nat))∧(cls xs (ndr (wd S.1.m) r)).length ≤ 33825∧cU (Uc (wd S.1.m) r (fun d k=>nd xs d k = false) S.2) 3 4096 + (cls xs (ndr (wd S.1.m) r)).length = cU S.2 3 4096∧∃ M:Nat→Int,wd M = Wc (wd S.1.m) r (fun d k=>nd xs d k = false)∧Tv w1 X1 t c p h P ({ S.1 with m:=M },Uc (wd S.1.m) r (fun d k=>nd xs d k = false) S.2) m w':=by
  have hln:=ndr_le (wd S.1.m) r
  have HG:Hid (Rn (wd S.1.m) r (ndr (wd S.1.m) r) g w1):=hg
  have HGX:Hid (¬ X1 g):=hgX
  have HSP:Hid (∀ S' w',Tv w1 X1 t c p h P S' m w'→Spn w' ao xs):=fun S' w' ⟨X',_,k'⟩=>by
    rcases hsX with q | q
    · exact Or.inl q
    · exact hs.of_eq k'.size (fun b off e hb=>k'.block b hb (q b off e))
  have HNX:Hid (∀ j x,(ndr (wd S.1.m) r)[j]? = some x→∃ f,tb (wd S.1.m) r x.1 x.2 = some f∧f < 4096∧x.1 ≤ 3∧¬ inC (cls xs ((ndr (wd S.1.m) r).take j)) x.1 x.2∧(ndr (wd S.1.m) r).take (j + 1) = (ndr (wd S.1.m) r).take j ++ [x]):=fun j x hx=>by
    obtain ⟨f,h1,_,_,h4⟩:=K.next hr hx
    obtain ⟨hj,e⟩:=List.getElem?_eq_some_iff.1 hx
    have h3:=(ndr_mem.1 (show x ∈ ndr (wd S.1.m) r by rw [← e]; exact List.getElem_mem hj)).1
    refine ⟨f,h1,(K.lt hP hN hr h3 h1).2,h3,fun q => ?_,h4⟩
    unfold inC cls at q
    obtain ⟨i,hi,ey⟩:=List.mem_take_iff_getElem.1 (List.mem_filter.1 q).1
    exact (List.pairwise_iff_getElem.1 (ndr_nodup (wd S.1.m) r) i j (by omega) hj (by omega)) (by rw [ey,e])
  have HST : Hid (∀ (l : List (Nat × Nat)) (M : Nat → Int) (d k f : Nat), d < 3 → tb (wd S.1.m) r (d + 1) k = some f → ¬ inC l (d + 1) k → ∃ pf, pf < h.n ∧ abv (wd S.1.m) r (d + 1, k) = pf * 256 + k % 32 * 8 ∧ (∀ w : World, Pn w1 X1 t c p h P S m r l M w → Uc (wd S.1.m) r (inC l) S.2 f = some 3) ∧
      ∀ w w' : World,Pn w1 X1 t c p h P S m r l M w→Tv w1 X1 t c p h P (lk { S.1 with m:=M } pf (k % 32) 0,B.pt (Uc (wd S.1.m) r (inC l) S.2) f none) m w'→Pn w1 X1 t c p h P S m r (l ++ [(d + 1,k)]) (lk { S.1 with m:=M } pf (k % 32) 0).m w'):=fun l M d k f hd hf hl=>Pn.strike hP K hN hr hd hf hl
  have HCA:Hid (∀ d k,d < 3→tb (wd S.1.m) r (d + 1) k ≠ none→(inC (cls xs (ndr (wd S.1.m) r)) (d + 1) k ↔ nd xs (d + 1) k = false)):=fun d k hd h=>cls_all xs d k hd h
  have HT0:Hid (Pn w1 X1 t c p h P S m r (cls xs ((ndr (wd S.1.m) r).take 0)) S.1.m w1):=by
    unfold Hid
    rw [List.take_zero]
    have e:inC (cls xs []) = fun _ _=>False:=by funext d k; simp [inC,cls]
    refine ⟨by rw [e,Wc_none], ?_, ?_⟩
    · rw [e,Uc_none]; exact T1.tv
    · rw [e,Uc_none]; exact Nat.add_zero _
  have hv':=hv
  clear hg hgX hs hsX T1 K
  generalize hLL:ndr (wd S.1.m) r = L at *
  clear hLL
  go_enter Tryz.func58,Tryz.ntmps58
  go_wp2_with fail
  go_loopw [7,12] (fun z i wr=>∃ (j:Nat) (M:Nat→Int),j ≤ L.length∧i = .int .i64 j∧z = .int .i64 ((cls xs (L.take j)).length:Nat)∧Pn w1 X1 t c p h P S m r (cls xs (L.take j)) M wr) (fun _ i _=>L.length - (D.iv i).toNat)
  case atStart=>exact ⟨0,S.1.m,by omega,rfl,rfl,HT0.out⟩
  case round=>
    obtain ⟨j,M,hj,rfl,rfl,hP⟩:=hrel
    have HPr:Hid (Pn w1 X1 t c p h P S m r (cls xs (L.take j)) M wr):=hP
    have hcl:=cls_len xs (L.take j)
    have htl:(L.take j).length ≤ L.length:=by rw [List.length_take]; omega
    clear hP HT0
    by_cases hlt:j < L.length
    case' pos=>
      obtain ⟨x,hx⟩:∃ x,L[j]? = some x:=⟨_,List.getElem?_eq_getElem hlt⟩
      obtain ⟨f,hf,hf4,h3,hni,htk⟩:=HNX.out j x hx
      have hbg:wr.heap[g]? = w1.heap[g]?:=by
        obtain ⟨X',_,k'⟩:=HPr.out.tv
        exact k'.block g HG.out.1 HGX.out
      obtain ⟨q0,q1,q2,q3⟩:=HG.out.2 j x hx wr hbg
      obtain ⟨d,k⟩:=x
      simp only at hf h3 hni q0 q1 q2
      rw [hf,Option.getD_some] at q0
      obtain ⟨l,hdl⟩:∃ l,d + l = 3:=⟨3 - d,by omega⟩
      rw [show 3 - d = l by omega] at q1
      have HAB:Hid (∃ ab,abv (wd S.1.m) r (d,k) = ab):=⟨_,rfl⟩
      obtain ⟨ab,hab⟩:=HAB.out
      rw [hab] at q3
      have HTK:Hid (cls xs (L.take (j + 1)) = if d ≠ 0∧nd xs d k = false then cls xs (L.take j) ++ [(d,k)] else cls xs (L.take j)):=by unfold Hid; rw [htk]; exact cls_snoc xs (L.take j) (d,k)
      have BX:Hid (Below wr.heap.size wr (wr.alloc (.cells #[.int .i64 (f:Nat),.int .i64 (l:Nat),.int .i64 (k:Nat),.int .u64 (ab:Nat)] 192))):=(Below.refl _ _).alloc (Nat.le_refl _) _
      have HBx:Hid (C.Blk (wr.alloc (.cells #[.int .i64 (f:Nat),.int .i64 (l:Nat),.int .i64 (k:Nat),.int .u64 (ab:Nat)] 192)) wr.heap.size 192 [.int .i64 (f:Nat),.int .i64 (l:Nat),.int .i64 (k:Nat),.int .u64 (ab:Nat)]):=C.blk_new _ _ _
      have HPx:Hid (Pn w1 X1 t c p h P S m r (cls xs (L.take j)) M (wr.alloc (.cells #[.int .i64 (f:Nat),.int .i64 (l:Nat),.int .i64 (k:Nat),.int .u64 (ab:Nat)] 192))):=HPr.out.below BX.out
      by_cases hd0:d = 0
      case' pos=>
        obtain rfl:l = 3:=by omega
        have HE:Hid (cls xs (L.take (j + 1)) = cls xs (L.take j)):=by unfold Hid; rw [HTK.out,if_neg (fun q=>q.1 hd0)]
        clear hx htk hbg hf hab
        go_wp2_with fail
        go_roundw
        case rel=>exact ⟨j + 1,M,by omega,by go_num,by rw [HE.out],by rw [HE.out]; exact HPx.out⟩
        case measure=>simp [D.iv]; omega
      case' neg=>
        have hl2:(l:Int) ≤ 2:=by omega
        have hl3:((l:Int) == 3) = false:=by simp; omega
        have CN:Hid (Calls Tryz.prog 101 #[.agg #[.int .i64 (f:Nat),.int .i64 (l:Nat),.int .i64 (k:Nat),.int .u64 (ab:Nat)],.slice ao xs.length cap2] (wr.alloc (.cells #[.int .i64 (f:Nat),.int .i64 (l:Nat),.int .i64 (k:Nat),.int .u64 (ab:Nat)] 192)) fun e w'=>e = .returned (.bool (nd xs d k))∧Below (wr.alloc (.cells #[.int .i64 (f:Nat),.int .i64 (l:Nat),.int .i64 (k:Nat),.int .u64 (ab:Nat)] 192)).heap.size (wr.alloc (.cells #[.int .i64 (f:Nat),.int .i64 (l:Nat),.int .i64 (k:Nat),.int .u64 (ab:Nat)] 192)) w'):=needed_ok hl hv' (HSP.out _ _ HPx.out.tv) hdl
        cases hnd:nd xs d k
        case' true=>
          rw [hnd] at CN
          have HE:Hid (cls xs (L.take (j + 1)) = cls xs (L.take j)):=by unfold Hid; rw [HTK.out,if_neg (fun q=>by rw [hnd] at q; cases q.2)]
          clear hx htk hbg hf hab hnd
          go_wp2_with (go_at_call 101; refine CN.out.mono ?_; rintro e w2 ⟨rfl,hb2⟩; have HP2:Hid (Pn w1 X1 t c p h P S m r (cls xs (L.take j)) M w2):=HPx.out.below hb2; clear hb2)
          go_roundw
          case rel=>exact ⟨j + 1,M,by omega,by go_num,by rw [HE.out],by rw [HE.out]; exact HP2.out⟩
          case measure=>simp [D.iv]; omega
        case' false=>
          rw [hnd] at CN
          have HE:Hid (cls xs (L.take (j + 1)) = cls xs (L.take j) ++ [(d,k)]):=by unfold Hid; rw [HTK.out,if_pos ⟨hd0,hnd⟩]
          obtain ⟨d',rfl⟩:∃ d',d = d' + 1:=⟨d - 1,by omega⟩
          obtain ⟨pf,hpf,hpa,hu3,hst⟩:=HST.out (cls xs (L.take j)) M d' k f (by omega) hf hni
          rw [hab] at hpa
          subst hpa
          have HST2:Hid (∀ w w' : World,Pn w1 X1 t c p h P S m r (cls xs (L.take j)) M w→Tv w1 X1 t c p h P (lk { S.1 with m:=M } pf (k % 32) 0,B.pt (Uc (wd S.1.m) r (inC (cls xs (L.take j))) S.2) f none) m w'→Pn w1 X1 t c p h P S m r (cls xs (L.take j) ++ [(d' + 1,k)]) (lk { S.1 with m:=M } pf (k % 32) 0).m w'):=hst
          have HU:Hid (Uc (wd S.1.m) r (inC (cls xs (L.take j))) S.2 f = some 3):=hu3 _ HPr.out
          have hk:k % 32 < 32:=Nat.mod_lt _ (by decide)
          have HW:Hid (∀ S' w',Tv w1 X1 t c p h P S' m w'→Calls Tryz.prog 25 #[.pointer (some ⟨t,0,none⟩),.int .u64 ((pf * 256 + k % 32 * 8:Nat):Int),.agg #[.bool false,.bool false,.bool false,.bool false,.bool false,.bool false,.int .i64 0]] w' fun e w'=>e = .returned (.tuple #[])∧Tv w1 X1 t c p h P (lk S'.1 pf (k % 32) 0,S'.2) m w'):=fun S' w' T'=>write_ok T' hpf hk false false false false false false 0 (by decide)
          clear hx htk hbg hf hab hnd hu3 hst hni
          generalize pf * 256 + k % 32 * 8 = ab at *
          go_wp2_with (go_at_call 101; refine CN.out.mono ?_; rintro e w2 ⟨rfl,hb2⟩; have HP2:Hid (Pn w1 X1 t c p h P S m r (cls xs (L.take j)) M w2):=HPx.out.below hb2; have HB2:Hid (C.Blk w2 wr.heap.size 192 [.int .i64 (f:Nat),.int .i64 (l:Nat),.int .i64 (k:Nat),.int .u64 (ab:Nat)]):=HBx.out.of_eq (hb2.block _ HBx.out.lt); have HNB:Hid (Below wr.heap.size wr w2):=BX.out.trans (hb2.mono BX.out.size); clear hb2)
          have CG:Hid (Calls Tryz.prog 90 #[.pointer (some ⟨p,0,none⟩),.int .i64 (f:Nat)] w2.drew fun e w'=>e = .returned (.int .i64 0)∧Tv w1 X1 t c p h P ({ S.1 with m:=M },B.pt (Uc (wd S.1.m) r (inC (cls xs (L.take j))) S.2) f none) m w'∧C.Blk w' wr.heap.size 192 [.int .i64 (f:Nat),.int .i64 (l:Nat),.int .i64 (k:Nat),.int .u64 (ab:Nat)]):=by
            obtain ⟨X2,t2,k2⟩:=HPr.out.tv
            refine (give_f (t2.below HNB.out.drew).tv (f:=f) HU.out).mono ?_
            rintro e w4 ⟨rfl,h4⟩
            refine ⟨rfl,(h4.pre (kp_of_below _ HNB.out.drew)).pre k2, ?_⟩
            exact blk_of h4 (show C.Blk w2.drew wr.heap.size 192 _ from HB2.out) (fun q=>Nat.lt_irrefl _ (t2.lt _ q))
          have HS0:Hid (w2.cell? ⟨t,1,none⟩ = some (.pointer (some ⟨p,0,none⟩))∧w2.cell? ⟨wr.heap.size,0,none⟩ = some (.int .i64 (f:Nat))):=⟨HP2.out.tv.c1,HB2.out.cell 0⟩
          go_region_held3 (fun W=>W.cell? ⟨t,1,none⟩ = some (.pointer (some ⟨p,0,none⟩))∧W.cell? ⟨wr.heap.size,0,none⟩ = some (.int .i64 (f:Nat)))
            (first | exact HS0.out | exact HS4.out)
            (first | (go_at_call 90; refine CG.out.mono ?_; rintro e w4 ⟨rfl,h4,b4⟩; have HT4:Hid (Tv w1 X1 t c p h P ({ S.1 with m:=M },B.pt (Uc (wd S.1.m) r (inC (cls xs (L.take j))) S.2) f none) m w4):=h4; have HS4:Hid (w4.cell? ⟨t,1,none⟩ = some (.pointer (some ⟨p,0,none⟩))∧w4.cell? ⟨wr.heap.size,0,none⟩ = some (.int .i64 (f:Nat))):=⟨h4.c1,b4.cell 0⟩; have HB4:Hid (C.Blk w4 wr.heap.size 192 [.int .i64 (f:Nat),.int .i64 (l:Nat),.int .i64 (k:Nat),.int .u64 (ab:Nat)]):=b4; clear h4 b4))
          have c3:=HB4.out.cell 3
          simp only [List.getElem?_cons_succ,List.getElem?_cons_zero] at c3
          go_wp2_with (go_at_call 25; refine (HW.out _ _ HT4.out).mono ?_; rintro e w5 ⟨rfl,h5⟩; have HP5:Hid (Pn w1 X1 t c p h P S m r (cls xs (L.take j) ++ [(d' + 1,k)]) (lk { S.1 with m:=M } pf (k % 32) 0).m w5):=HST2.out _ _ HP2.out h5; clear h5)
          go_roundw
          case rel=>exact ⟨j + 1,_,by omega,by go_num,by rw [HE.out,List.length_append,List.length_singleton]; go_num,by rw [HE.out]; exact HP5.out⟩
          case measure=>simp [D.iv]; omega
    case' neg=>
      obtain rfl:j = L.length:=by omega
      have e0:L.take L.length = L:=List.take_length
      rw [e0] at HPr hcl
      have HF:Hid ((cls xs L).length ≤ 33825∧cU (Uc (wd S.1.m) r (fun d k=>nd xs d k = false) S.2) 3 4096 + (cls xs L).length = cU S.2 3 4096∧∃ M:Nat→Int,wd M = Wc (wd S.1.m) r (fun d k=>nd xs d k = false)∧Tv w1 X1 t c p h P ({ S.1 with m:=M },Uc (wd S.1.m) r (fun d k=>nd xs d k = false) S.2) m wr):=by
        have e1:=Wc_congr (W:=wd S.1.m) (r:=r) (C:=inC (cls xs L)) (C':=fun d k=>nd xs d k = false) HCA.out
        have e2:=Uc_congr (W:=wd S.1.m) (r:=r) (C:=inC (cls xs L)) (C':=fun d k=>nd xs d k = false) S.2 HCA.out
        refine ⟨by omega, ?_,M, ?_, ?_⟩
        · rw [← e2]; exact HPr.out.cu
        · rw [← e1]; exact HPr.out.we
        · rw [← e2]; exact HPr.out.tv
      rw [e0]
      clear e0
      go_wp2
      go_ret
      exact ⟨rfl,HF.out⟩
end Go.Proofs.YtgljdbabagdhlaaGreat.Pg
