/- What join of package buddy writes; no condition but the ranges that each theorem names. -/
import Derived.Test.YtgljdbabagdhlaaGreatVBc
import Derived.WalkMore
import Derived.Deep.LoopGhost
namespace Go.Proofs.YtgljdbabagdhlaaGreat.B
open Go.ChangeShapes Go.WideShapes Go.ChangeAt Go.RowKit
set_option linter.unusedVariables false
set_option maxRecDepth 8192
theorem xor_one (q:Nat):q ^^^ 1 = sib q:=by
  have h1:(q ^^^ 1) / 2 = q / 2:=by rw [Nat.xor_div_two]; simp
  have h2:(q ^^^ 1) % 2 = (q % 2) ^^^ 1:=by have:=@Nat.xor_mod_two_pow q 1 1; simpa using this
  unfold sib
  rcases Nat.mod_two_eq_zero_or_one q with e | e
  · rw [e,show (0 ^^^ 1:Nat) = 1 by decide] at h2
    rw [if_pos e]
    omega
  · rw [e,show (1 ^^^ 1:Nat) = 0 by decide] at h2
    rw [if_neg (by omega)]
    omega
theorem xor_bud (a j:Nat):(a / 2 ^ j * 2 ^ j) ^^^ 2 ^ j = bud a j:=by
  unfold bud
  rw [← xor_one]
  have h:=@Nat.shiftLeft_xor_distrib j (a / 2 ^ j) 1
  rw [Nat.shiftLeft_eq,Nat.shiftLeft_eq,Nat.shiftLeft_eq,Nat.one_mul] at h
  exact h.symm
theorem bud_le {a j:Nat} (ha:a < 4096) (hj:j ≤ 6):bud a j < 8192∧a / 2 ^ j * 2 ^ j ≤ a:=by
  unfold bud sib
  rcases six hj with rfl | rfl | rfl | rfl | rfl | rfl | rfl <;> simp only [Nat.reducePow] <;> split <;> omega
theorem min_bud {a j:Nat} (hj:j ≤ 6):min (a / 2 ^ j * 2 ^ j) (bud a j) = a / 2 ^ (j + 1) * 2 ^ (j + 1):=by
  unfold bud sib
  rcases six hj with rfl | rfl | rfl | rfl | rfl | rfl | rfl <;> simp only [Nat.reducePow,Nat.reduceAdd] <;> split <;> omega
theorem xor_nat (a b:Nat) (ha:a < 65536) (hb:b < 65536):bits .xor .i64 (a:Int) (b:Int) = ((a ^^^ b:Nat):Int):=by
  have hx:a ^^^ b < 2 ^ 16:=Nat.xor_lt_two_pow (by omega) (by omega)
  have h1:(BitVec.ofInt 64 (a:Int)).toNat = a:=by
    rw [BitVec.ofInt_natCast,BitVec.toNat_ofNat]; exact Nat.mod_eq_of_lt (by omega)
  have h2:(BitVec.ofInt 64 (b:Int)).toNat = b:=by
    rw [BitVec.ofInt_natCast,BitVec.toNat_ofNat]; exact Nat.mod_eq_of_lt (by omega)
  show IntKind.i64.wrap ((BitVec.ofInt 64 (a:Int) ^^^ BitVec.ofInt 64 (b:Int)).toNat:Int) = _
  rw [BitVec.toNat_xor,h1,h2,IntKind.wrap_i64]
  omega
theorem xor_i64 (a j:Nat) (ha:a < 4096) (hj:j ≤ 6):bits .xor .i64 ((a / 2 ^ j * 2 ^ j:Nat):Int) ((2 ^ j:Nat):Int) = ((bud a j:Nat):Int):=by
  have h1:=bud_le ha hj
  have h2:=pow_le j hj
  rw [← xor_bud,xor_nat _ _ (by omega) (by omega)]
theorem filter_at:∀ (l:List Nat) (k:Nat) (t:Nat),l.Nodup→l[k]? = some t→l.filter (fun x=>x != t) = l.take k ++ l.drop (k + 1)
  | [],k,t,_,h=>by simp at h
  | a :: l,0,t,hn,h=>by
    simp at h
    subst h
    have h1:=(List.nodup_cons.1 hn).1
    have:l.filter (fun x=>x != a) = l:=by
      rw [List.filter_eq_self]
      intro b hb
      simp only [bne_iff_ne]
      intro e
      exact h1 (e ▸ hb)
    simp [this]
  | a :: l,k + 1,t,hn,h=>by
    have hn':=List.nodup_cons.1 hn
    simp at h
    have ih:=filter_at l k t hn'.2 h
    have hne:a ≠ t:=by
      intro e
      subst e
      exact hn'.1 (List.mem_of_getElem? h)
    rw [List.filter_cons_of_pos (by simpa using hne),ih]
    simp
theorem ints_sorted {l:List Nat} (h:l.Pairwise (· < ·)):(ints l).Pairwise (· ≤ ·):=by
  unfold ints
  rw [List.pairwise_map]
  exact h.imp (fun h=>by omega)
theorem ints_count (l:List Nat) (c:Nat):(ints l).countP (· < (c:Int)) = l.countP (· < c):=by
  unfold ints
  rw [List.countP_map]
  congr 1
  funext x
  simp
theorem ints_ins (l:List Nat) (c:Nat):(ints l).take (l.countP (· < c)) ++ (c:Int) :: (ints l).drop (l.countP (· < c)) = ints (ins c l):=by
  simp [ints,ins,List.map_take,List.map_drop]
theorem grown_row {w w' : World} (h:w.grownBy w' none) (row:Option Nat):w.grownBy w' row:=⟨h.os,h.tape,h.output,h.size,fun i hi _=>h.block i hi (by simp)⟩
def Jst (w wr:World) (G:Nat→Prop) (p:Nat) (L:Nat→List Nat) (tk:Nat→Option Nat) (o a j:Nat):Prop:=
  (∀ i,o ≤ i→i < j→bud a i ∈ L i)∧∃ G',Bu wr G' p (gvL L o a j) tk∧Kp G G' w wr
def Jnd (w:World) (G:Nat→Prop) (p:Nat) (L:Nat→List Nat) (tk:Nat→Option Nat) (o a:Nat) (w' : World):Prop:=
  ∃ J,Top L o a J∧∃ G',Bu w' G' p (gvE L o a J) tk∧Kp G G' w w'
set_option maxHeartbeats 1000000 in
theorem join_ok {w : World} {G : Nat → Prop} {p : Nat} {L : Nat → List Nat} {tk : Nat → Option Nat} (h : Bu w G p L tk) (hl : ∀ i, i < 7 → (L i).length ≤ 4096) (hs : ∀ i, i < 7 → (L i).Pairwise (· < ·)) (a o : Nat) (ha : a < 4096) (ho : o ≤ 6) (hao : a % 2 ^ o = 0) :
    Calls Tryz.prog 155 #[.pointer (some ⟨p,0,none⟩),.int .i64 a,.int .i64 o] w fun e w'=>e = .returned (.tuple #[])∧Jnd w G p L tk o a w':=by
  have HB:Hid (Bu w G p L tk):=h
  have HL:Hid (∀ i,i < 7→(L i).length ≤ 4096):=hl
  have HSO:Hid (∀ i,i < 7→(L i).Pairwise (· < ·)):=hs
  have HAO:Hid (a / 2 ^ o * 2 ^ o = a):=mod_mul_div hao
  clear h hl hs hao
  go_enter Tryz.func155,Tryz.ntmps155
  go_wp2
  go_step3
  go_wp2
  go_step3
  go_wp2
  go_loopw [1,2] (fun z y wr=>∃ j:Nat,o ≤ j∧j ≤ 6∧z = .int .i64 (a / 2 ^ j * 2 ^ j:Nat)∧y = .int .i64 j∧Jst w wr G p L tk o a j) (fun _ y _=>(6 - iv y).toNat)
  case atStart=>
    refine ⟨o,Nat.le_refl _,ho,by rw [HAO.out],rfl,fun i h1 h2=>by omega,G,HB.out.congr (fun i hi => ?_),Kp.refl _ _⟩
    unfold gvL
    rw [if_neg (by omega)]
  case round=>
    obtain ⟨j,h1,h2,rfl,rfl,hJ⟩:=hrel
    have HJ:Hid (Jst w wr G p L tk o a j):=hJ
    clear hJ HB HAO
    obtain ⟨HM,G1,⟨b,V,P1⟩,K1⟩:=HJ.out
    have HP:Hid (Bp wr G1 p b V (gvL L o a j) tk):=P1
    have hr:=P1.rws.row j (by omega)
    have hf:=P1.rws.fz j (by omega)
    have hw1:=P1.rws.own j (by omega)
    have e0:gvL L o a j j = L j:=by unfold gvL; rw [if_neg (by omega)]
    rw [e0] at hw1
    obtain ⟨g0,c0,hv⟩:=hw1.len
    rw [hv] at hr hw1
    have HV:Hid (V j = _):=hv
    have HO:Hid (Own wr _ _):=hw1
    have hm:=HL.out j (by omega)
    have HK:Hid (Kp G G1 w wr):=K1
    have HMM:Hid (∀ i,o ≤ i→i < j→bud a i ∈ L i):=HM
    clear P1 hv hw1 K1 HM
    rw [ints_len] at hr HV HO
    obtain ⟨m,hme⟩:∃ m,(L j).length = m:=⟨_,rfl⟩
    have HME:Hid ((L j).length = m):=hme
    rw [hme] at hr HV HO hm
    clear hme
    have hpw:p < wr.heap.size:=HP.out.lt _ HP.out.gp
    have hsh:=shl_wrap j (by omega)
    have hpl:=pow_le j (by omega)
    have hxo:=xor_i64 a j ha (by omega)
    have hbl:=bud_le ha (show j ≤ 6 by omega)
    have hmi:=@min_bud a j (by omega)
    obtain ⟨S,hS⟩:∃ S,2 ^ j = S:=⟨_,rfl⟩
    obtain ⟨c,hC⟩:∃ c,a / 2 ^ j * 2 ^ j = c:=⟨_,rfl⟩
    obtain ⟨B,hBu⟩:∃ B,bud a j = B:=⟨_,rfl⟩
    have HS:Hid (2 ^ j = S):=hS
    have HC:Hid (a / 2 ^ j * 2 ^ j = c):=hC
    have HBU:Hid (bud a j = B):=hBu
    obtain ⟨c',hC'⟩:∃ c',a / 2 ^ (j + 1) * 2 ^ (j + 1) = c':=⟨_,rfl⟩
    have HC' : Hid (a / 2 ^ (j + 1) * 2 ^ (j + 1) = c'):=hC'
    have HMI:Hid (min c B = c'):=by rw [← hC, ← hBu, ← hC']; exact hmi
    rw [hC] at hbl hxo ⊢
    rw [hBu] at hbl hxo
    rw [hS] at hsh hpl hxo
    clear hS hC hBu hmi e0 hC'
    have hj0:(0:Int) ≤ (j:Int):=by omega
    have hj7:(j:Int) < 7:=by omega
    have hj7n:j < 7:=by omega
    by_cases hj6:j < 6
    · have hj6I:(j:Int) < 6:=by omega
      go_wp2
      go_loopw [1,2,19] (fun y1 y2 z wq=>∃ k:Nat,k ≤ m∧y1 = .int .i64 c∧y2 = .int .i64 j∧z = .int .i64 k∧wq = wr∧∀ t,t < k→(L j)[t]? ≠ some B) (fun _ _ z _=>m - (iv z).toNat)
      case atStart=>exact ⟨0,by omega,rfl,rfl,rfl,rfl,fun t ht=>by omega⟩
      case round=>
        obtain ⟨k,hk,rfl,rfl,rfl,hw,hno⟩:=hrel
        obtain rfl:=hw
        have HNO:Hid (∀ t,t < k→(L j)[t]? ≠ some B):=hno
        clear hno
        by_cases hkm:k < m
        · obtain ⟨x,hg⟩:∃ x,(L j)[k]? = some x:=⟨_,List.getElem?_eq_getElem (by rw [HME.out]; exact hkm)⟩
          obtain ⟨g,cap,e1,hc1⟩:=HO.out.cell (k:=k) (t:=(x:Int)) (by rw [ints_get,hg]; rfl)
          rw [ints_len,HME.out] at e1
          cases e1
          have HG:Hid ((L j)[k]? = some x):=hg
          clear hg
          by_cases hx:x = B
          · subst hx
            have CD:Hid (∀ W,Below wr.heap.size wr W→Calls Tryz.prog 157 #[.slice (some ⟨g,0,none⟩) m c0,.int .i64 k,.int .i64 ((k:Int) + 1)] W fun e w'=>e = .returned (.slice (some ⟨g,0,none⟩) (m - 1) c0)∧W.grownBy w' (some g)∧Own w' (.slice (some ⟨g,0,none⟩) (m - 1) c0) (ints ((L j).filter (fun y=>y != x)))):=fun W hW=>by
              have hown:=HO.out
              have hml:(ints (L j)).length = m:=by rw [ints_len,HME.out]
              obtain ⟨g',cap',Lv,e2,_,c1,c2,_,_⟩:=hown.shape.resolve_left (by rintro ⟨q,_⟩; cases q)
              rw [hml] at e2 c1
              cases e2
              have hoW:=hown.of_eq (w':=W) (fun c hc=>hW.block c (hown.lt c hc))
              rw [← hml] at hoW
              have:=Delete_ok hoW (by rw [hml]; exact c1) c2 k (by rw [hml]; exact hkm)
              rw [hml] at this
              have hf:(ints (L j)).take k ++ (ints (L j)).drop (k + 1) = ints ((L j).filter (fun y=>y != x)):=by
                rw [filter_at (L j) k x ((HSO.out j hj7n).imp (fun h=>by omega)) HG.out]
                simp [ints,List.map_take,List.map_drop]
              rw [hf] at this
              exact this
            have hpg:p ≠ g:=fun e=>by
              have:=HP.out.rws.vg j hj7n
              rw [HV.out] at this
              exact this (by rw [e]; rfl)
            have hk1:IntKind.i64.wrap ((k:Int) + 1) = (k:Int) + 1:=IntWalk.i64_in _ (by omega)
            have hmin:min (c:Int) (x:Int) = (c' : Int):=by
              have:=HMI.out
              omega
            go_wp2
            go_region_with (first | (go_at_call 157; refine (CD.out _ (by first | exact (Below.refl _ _).drew | exact Below.refl _ _)).mono ?_; rintro e w1 ⟨rfl,g1,o1⟩; have r1:w1.cell? ⟨p,j,none⟩ = some (.slice (some ⟨g,0,none⟩) m c0):=(g1.cell_far ⟨p,j,none⟩ hpw (some_ne hpg)).trans hr; have r2:w1.frozen? ⟨p,j,none⟩ = false:=(g1.frozen_far ⟨p,j,none⟩ hpw (some_ne hpg)).trans hf))
            have HJ1:Hid (Jst w (w1.setCell ⟨p,j,none⟩ (.slice (some ⟨g,0,none⟩) (m - 1) c0)) G p L tk o a (j + 1)):=by
              obtain ⟨G',hB',hK'⟩:=HP.out.turn j hj7n (.slice (some ⟨g,0,none⟩) (m - 1) c0) _ (w1:=w1) (by rw [HV.out]; exact (grown_drew _ _).trans g1) o1 (fun c hc=>by rw [HV.out]; exact Or.inl hc)
              refine ⟨fun i q1 q2 => ?_,G',hB'.congr (fun i hi => ?_),HK.out.trans hK'⟩
              · by_cases e:i < j
                · exact HMM.out i q1 e
                · obtain rfl:i = j:=by omega
                  rw [HBU.out]
                  exact List.mem_of_getElem? HG.out
              · unfold put
                by_cases e:i = j
                · subst e
                  rw [if_pos rfl]
                  unfold gvL
                  rw [if_pos (by omega),HBU.out]
                · rw [if_neg e]
                  unfold gvL
                  by_cases e2:o ≤ i∧i < j
                  · rw [if_pos e2,if_pos (by omega)]
                  · rw [if_neg e2,if_neg (by omega)]
            clear r1 r2 g1 o1 hr hf CD hc1 HV HP HO
            generalize w1.setCell ⟨p,j,none⟩ (.slice (some ⟨g,0,none⟩) (m - 1) c0) = w2 at *
            go_wp2
            exact ⟨⟨j + 1,by omega,by omega,by rw [HC'.out],by go_num,HJ1.out⟩,by simp [iv]; omega⟩
          · have hxI:¬ ((x:Int) = (B:Int)):=by omega
            go_wp2
            go_roundw
            case rel=>
              refine ⟨k + 1,by omega,rfl,rfl,by go_num,by simp,fun t ht => ?_⟩
              by_cases e:t < k
              · exact HNO.out t e
              · obtain rfl:t = k:=by omega
                rw [HG.out]
                intro q
                injection q with q
                exact hx q
            case measure=>simp [iv]; omega
        · obtain rfl:m = k:=by omega
          have HSTOP:Hid (j < 6→bud a j ∉ L j):=fun _ hq=>by
            rw [HBU.out] at hq
            obtain ⟨t,ht⟩:=List.getElem?_of_mem hq
            exact HNO.out t (by rw [← HME.out]; exact (List.getElem?_eq_some_iff.1 ht).1) ht
          clear HNO
          have CS:Hid (Calls _ _ _ _ _):=Search_ok HO.out (ints_sorted (HSO.out j hj7n)) (by rw [ints_len]; have:=HL.out j hj7n; omega) (c:Int)
          have hcp:(L j).countP (· < c) ≤ m:=by rw [← HME.out]; exact List.countP_le_length
          obtain ⟨i,hi⟩:∃ i,(L j).countP (· < c) = i:=⟨_,rfl⟩
          have HI:Hid ((L j).countP (· < c) = i):=hi
          rw [ints_count,hi] at CS
          rw [hi] at hcp
          clear hi
          go_wp2_with fail
          refine CS.out.mono ?_
          rintro e w3 ⟨rfl,g3⟩
          have hr3:w3.cell? ⟨p,j,none⟩ = some (.slice g0 m c0):=(g3.cell_far ⟨p,j,none⟩ hpw (by simp)).trans hr
          have hf3:w3.frozen? ⟨p,j,none⟩ = false:=(g3.frozen_far ⟨p,j,none⟩ hpw (by simp)).trans hf
          have hpw3:p < w3.heap.size:=Nat.lt_of_lt_of_le hpw g3.size
          have hvgp:=HP.out.rws.vg j hj7n
          rw [HV.out] at hvgp
          have HVG:Hid ((Value.slice g0 m c0).ownBlock ≠ some p):=hvgp
          have CI:Hid (∀ W,Below w3.heap.size w3 W→Blk W w3.heap.size 3 [.int .i64 c]→Calls Tryz.prog 183 #[.slice g0 m c0,.int .i64 i,.slice (some ⟨w3.heap.size,0,none⟩) 1 1] W fun e w'=>∃ g1 k1,e = .returned (.slice (some ⟨g1,0,none⟩) (m + 1) k1)∧Own w' (.slice (some ⟨g1,0,none⟩) (m + 1) k1) (ints (ins c (L j)))∧W.grownBy w' (Value.slice g0 m c0).ownBlock∧((Value.slice g0 m c0).ownBlock = some g1 ∨ W.heap.size ≤ g1)):=fun W hW hb=>by
            have hown3:=HO.out.of_eq (w':=w3) (fun q hq=>g3.block q (HO.out.lt q hq) (by simp))
            have hoW:=hown3.of_eq (w':=W) (fun q hq=>hW.block q (hown3.lt q hq))
            have:=Insert_ok hoW (by rw [ints_len]; have:=HL.out j hj7n; omega) i (by rw [ints_len,HME.out]; exact hcp) (c:Int) w3.heap.size hb (fun q=>by have:=hown3.lt _ q; omega)
            have hh:=ints_ins (L j) c
            rw [HI.out] at hh
            rw [hh] at this
            refine this.mono ?_
            rintro e w' ⟨v',rfl,q1,q2,q3⟩
            obtain ⟨g1,k1,Lv,e1,_⟩:=q1.shape.resolve_left (by rintro ⟨_,q⟩; have:=congrArg List.length q; rw [ints_len,ins_len] at this; simp at this)
            rw [ints_len,ins_len,HME.out] at e1
            subst e1
            exact ⟨g1,k1,rfl,q1,q2,q3 g1 rfl⟩
          have BN:Hid (Blk (w3.alloc (.cells #[.int .i64 c] 3)).drew w3.heap.size 3 [.int .i64 c]):=blk_new w3 [.int .i64 c] 3
          have BB:Hid (Below w3.heap.size w3 (w3.alloc (.cells #[.int .i64 c] 3)).drew):=((Below.refl _ w3).alloc (Nat.le_refl _) _).drew
          have hr4:(w3.alloc (.cells #[.int .i64 c] 3)).cell? ⟨p,j,none⟩ = some (.slice g0 m c0):=(((Below.refl _ w3).alloc (Nat.le_refl _) _).cell (p:=⟨p,j,none⟩) hpw3).trans hr3
          have hpw4:p < (w3.alloc (.cells #[.int .i64 c] 3)).drew.heap.size:=by show p < (w3.alloc (.cells #[.int .i64 c] 3)).heap.size; simp; omega
          have hr5:(w3.alloc (.cells #[.int .i64 c] 3)).drew.cell? ⟨p,j,none⟩ = some (.slice g0 m c0):=hr4
          have hf5:(w3.alloc (.cells #[.int .i64 c] 3)).drew.frozen? ⟨p,j,none⟩ = false:=(((Below.refl _ w3).alloc (Nat.le_refl _) _).frozen (p:=⟨p,j,none⟩) hpw3).trans hf3
          have HG3:Hid (wr.grownBy w3 none):=g3
          clear g3 hr hf hvgp
          go_wp2
          go_region_with (first | (go_at_call 183; refine (CI.out _ BB.out BN.out).mono ?_; rintro e w1 ⟨v1,k1,rfl,o1,g1,at1⟩; have r1:w1.cell? ⟨p,j,none⟩ = some (.slice g0 m c0):=(g1.cell_far ⟨p,j,none⟩ hpw4 (fun e=>HVG.out e.symm)).trans hr5; have r2:w1.frozen? ⟨p,j,none⟩ = false:=(g1.frozen_far ⟨p,j,none⟩ hpw4 (fun e=>HVG.out e.symm)).trans hf5))
          all_goals (
            have HF:Hid (Jnd w G p L tk o a (w1.setCell ⟨p,j,none⟩ (.slice (some ⟨v1,0,none⟩) (m + 1) k1))):=by
              obtain ⟨G',hB',hK'⟩:=HP.out.turn j hj7n (.slice (some ⟨v1,0,none⟩) (m + 1) k1) (ins c (L j)) (w1:=w1) (by rw [HV.out]; exact ((grown_row HG3.out _).trans ((World.grownBy_alloc _ _ _).trans (grown_drew _ _))).trans g1) o1 (fun q hq=>by
                rw [HV.out]
                cases hq
                rcases at1 with z | z
                · exact Or.inl z
                · refine Or.inr (Nat.le_trans HG3.out.size (Nat.le_trans ?_ z))
                  show w3.heap.size ≤ (w3.alloc (.cells #[.int .i64 c] 3)).heap.size
                  simp)
              refine ⟨j,⟨h1,h2,HMM.out,HSTOP.out⟩,G',hB'.congr (fun i hi => ?_),HK.out.trans hK'⟩
              unfold put gvE
              by_cases e:i = j
              · subst e
                rw [if_pos rfl,if_pos rfl,HC.out]
              · rw [if_neg e,if_neg e]
            clear HP HV HO HK CI BN BB r1 r2 hr3 hr4 hr5 hf3 hf5 g1 o1 at1 HG3
            generalize w1.setCell ⟨p,j,none⟩ (.slice (some ⟨v1,0,none⟩) (m + 1) k1) = w5 at *
            try rw [Exit.noGoto_normal]
            go_end0
            exact ⟨rfl,HF.out⟩)
    · have HSTOP:Hid (j < 6→bud a j ∉ L j):=fun q=>absurd q hj6
      have hj6I:¬ ((j:Int) < 6):=by omega
      have CS:Hid (Calls _ _ _ _ _):=Search_ok HO.out (ints_sorted (HSO.out j hj7n)) (by rw [ints_len]; have:=HL.out j hj7n; omega) (c:Int)
      have hcp:(L j).countP (· < c) ≤ m:=by rw [← HME.out]; exact List.countP_le_length
      obtain ⟨i,hi⟩:∃ i,(L j).countP (· < c) = i:=⟨_,rfl⟩
      have HI:Hid ((L j).countP (· < c) = i):=hi
      rw [ints_count,hi] at CS
      rw [hi] at hcp
      clear hi
      go_wp2_with fail
      refine CS.out.mono ?_
      rintro e w3 ⟨rfl,g3⟩
      have hr3:w3.cell? ⟨p,j,none⟩ = some (.slice g0 m c0):=(g3.cell_far ⟨p,j,none⟩ hpw (by simp)).trans hr
      have hf3:w3.frozen? ⟨p,j,none⟩ = false:=(g3.frozen_far ⟨p,j,none⟩ hpw (by simp)).trans hf
      have hpw3:p < w3.heap.size:=Nat.lt_of_lt_of_le hpw g3.size
      have hvgp:=HP.out.rws.vg j hj7n
      rw [HV.out] at hvgp
      have HVG:Hid ((Value.slice g0 m c0).ownBlock ≠ some p):=hvgp
      have CI:Hid (∀ W,Below w3.heap.size w3 W→Blk W w3.heap.size 3 [.int .i64 c]→Calls Tryz.prog 183 #[.slice g0 m c0,.int .i64 i,.slice (some ⟨w3.heap.size,0,none⟩) 1 1] W fun e w'=>∃ g1 k1,e = .returned (.slice (some ⟨g1,0,none⟩) (m + 1) k1)∧Own w' (.slice (some ⟨g1,0,none⟩) (m + 1) k1) (ints (ins c (L j)))∧W.grownBy w' (Value.slice g0 m c0).ownBlock∧((Value.slice g0 m c0).ownBlock = some g1 ∨ W.heap.size ≤ g1)):=fun W hW hb=>by
        have hown3:=HO.out.of_eq (w':=w3) (fun q hq=>g3.block q (HO.out.lt q hq) (by simp))
        have hoW:=hown3.of_eq (w':=W) (fun q hq=>hW.block q (hown3.lt q hq))
        have:=Insert_ok hoW (by rw [ints_len]; have:=HL.out j hj7n; omega) i (by rw [ints_len,HME.out]; exact hcp) (c:Int) w3.heap.size hb (fun q=>by have:=hown3.lt _ q; omega)
        have hh:=ints_ins (L j) c
        rw [HI.out] at hh
        rw [hh] at this
        refine this.mono ?_
        rintro e w' ⟨v',rfl,q1,q2,q3⟩
        obtain ⟨g1,k1,Lv,e1,_⟩:=q1.shape.resolve_left (by rintro ⟨_,q⟩; have:=congrArg List.length q; rw [ints_len,ins_len] at this; simp at this)
        rw [ints_len,ins_len,HME.out] at e1
        subst e1
        exact ⟨g1,k1,rfl,q1,q2,q3 g1 rfl⟩
      have BN:Hid (Blk (w3.alloc (.cells #[.int .i64 c] 3)).drew w3.heap.size 3 [.int .i64 c]):=blk_new w3 [.int .i64 c] 3
      have BB:Hid (Below w3.heap.size w3 (w3.alloc (.cells #[.int .i64 c] 3)).drew):=((Below.refl _ w3).alloc (Nat.le_refl _) _).drew
      have hr4:(w3.alloc (.cells #[.int .i64 c] 3)).cell? ⟨p,j,none⟩ = some (.slice g0 m c0):=(((Below.refl _ w3).alloc (Nat.le_refl _) _).cell (p:=⟨p,j,none⟩) hpw3).trans hr3
      have hpw4:p < (w3.alloc (.cells #[.int .i64 c] 3)).drew.heap.size:=by show p < (w3.alloc (.cells #[.int .i64 c] 3)).heap.size; simp; omega
      have hr5:(w3.alloc (.cells #[.int .i64 c] 3)).drew.cell? ⟨p,j,none⟩ = some (.slice g0 m c0):=hr4
      have hf5:(w3.alloc (.cells #[.int .i64 c] 3)).drew.frozen? ⟨p,j,none⟩ = false:=(((Below.refl _ w3).alloc (Nat.le_refl _) _).frozen (p:=⟨p,j,none⟩) hpw3).trans hf3
      have HG3:Hid (wr.grownBy w3 none):=g3
      clear g3 hr hf hvgp
      go_wp2
      go_region_with (first | (go_at_call 183; refine (CI.out _ BB.out BN.out).mono ?_; rintro e w1 ⟨v1,k1,rfl,o1,g1,at1⟩; have r1:w1.cell? ⟨p,j,none⟩ = some (.slice g0 m c0):=(g1.cell_far ⟨p,j,none⟩ hpw4 (fun e=>HVG.out e.symm)).trans hr5; have r2:w1.frozen? ⟨p,j,none⟩ = false:=(g1.frozen_far ⟨p,j,none⟩ hpw4 (fun e=>HVG.out e.symm)).trans hf5))
      all_goals (
        have HF:Hid (Jnd w G p L tk o a (w1.setCell ⟨p,j,none⟩ (.slice (some ⟨v1,0,none⟩) (m + 1) k1))):=by
          obtain ⟨G',hB',hK'⟩:=HP.out.turn j hj7n (.slice (some ⟨v1,0,none⟩) (m + 1) k1) (ins c (L j)) (w1:=w1) (by rw [HV.out]; exact ((grown_row HG3.out _).trans ((World.grownBy_alloc _ _ _).trans (grown_drew _ _))).trans g1) o1 (fun q hq=>by
            rw [HV.out]
            cases hq
            rcases at1 with z | z
            · exact Or.inl z
            · refine Or.inr (Nat.le_trans HG3.out.size (Nat.le_trans ?_ z))
              show w3.heap.size ≤ (w3.alloc (.cells #[.int .i64 c] 3)).heap.size
              simp)
          refine ⟨j,⟨h1,h2,HMM.out,HSTOP.out⟩,G',hB'.congr (fun i hi => ?_),HK.out.trans hK'⟩
          unfold put gvE
          by_cases e:i = j
          · subst e
            rw [if_pos rfl,if_pos rfl,HC.out]
          · rw [if_neg e,if_neg e]
        clear HP HV HO HK CI BN BB r1 r2 hr3 hr4 hr5 hf3 hf5 g1 o1 at1 HG3
        generalize w1.setCell ⟨p,j,none⟩ (.slice (some ⟨v1,0,none⟩) (m + 1) k1) = w5 at *
        try rw [Exit.noGoto_normal]
        go_end0
        exact ⟨rfl,HF.out⟩)
end Go.Proofs.YtgljdbabagdhlaaGreat.B
