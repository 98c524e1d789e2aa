/- What Take of package buddy gives back and writes; no condition but the ranges that each theorem names. -/
import Derived.Test.YtgljdbabagdhlaaGreatVBb
namespace Go.Proofs.YtgljdbabagdhlaaGreat.B
open Go.ChangeShapes Go.WideShapes Go.ChangeAt Go.RowKit
set_option linter.unusedVariables false
set_option maxRecDepth 8192
theorem order_any (o:Int) (w:World):Calls Tryz.prog 154 #[.int .i64 o] w fun e w'=>e = .returned (.bool (decide (0 ≤ o) && decide (o ≤ 6)))∧w' = w:=by
  by_cases h:0 ≤ o
  · go_enter Tryz.func154,Tryz.ntmps154
    go_wp2
    go_ret
    exact ⟨ret_bool (by simp [h]),rfl⟩
  · go_enter Tryz.func154,Tryz.ntmps154
    go_wp2
    go_ret
    exact ⟨ret_bool (by simp; omega),rfl⟩
def hvL (L:Nat→List Nat) (o k a:Nat):Nat→List Nat:=fun i=>if o ≤ i∧i < k then L i ++ [a + 2 ^ i] else L i
set_option maxHeartbeats 1000000 in
theorem halve_ok {w : World} {G : Nat → Prop} {p : Nat} {L : Nat → List Nat} {tk : Nat → Option Nat} (h : Bu w G p L tk) (hl : ∀ i, i < 7 → (L i).length ≤ 4096) (a o k : Nat) (ha : a ≤ 8192) (ho : o ≤ k) (hk : k ≤ 6) :
    Calls Tryz.prog 158 #[.pointer (some ⟨p,0,none⟩),.int .i64 a,.int .i64 k,.int .i64 o] w fun e w'=>e = .returned (.tuple #[])∧∃ G',Bu w' G' p (hvL L o k a) tk∧Kp G G' w w':=by
  have HB:Hid (Bu w G p L tk):=h
  have HL:Hid (∀ i,i < 7→(L i).length ≤ 4096):=hl
  clear h hl
  go_enter Tryz.func158,Tryz.ntmps158
  go_wp2
  go_loopw [8] (fun z wr=>∃ j:Nat,o ≤ j∧j ≤ k∧z = .int .i64 ((j:Int) - 1)∧∃ G',Bu wr G' p (hvL L j k a) tk∧Kp G G' w wr) (fun z _=>(iv z + 1).toNat)
  case atStart=>
    refine ⟨k,ho,Nat.le_refl _,rfl,G,HB.out.congr (fun i hi => ?_),Kp.refl _ _⟩
    unfold hvL
    rw [if_neg (by omega)]
  case round=>
    obtain ⟨j,h1,h2,rfl,hN⟩:=hrel
    by_cases hjo:o < j
    · obtain ⟨G1,hB,hK⟩:=hN
      obtain ⟨i,rfl⟩:∃ i,j = i + 1:=⟨j - 1,by omega⟩
      have HK:Hid (Kp G G1 w wr):=hK
      obtain ⟨b,V,hP⟩:=hB
      have HP:Hid (Bp wr G1 p b V (hvL L (i + 1) k a) tk):=hP
      have hr:=hP.rws.row i (by omega)
      have hf:=hP.rws.fz i (by omega)
      have hw1:=hP.rws.own i (by omega)
      have e0:hvL L (i + 1) k a i = L i:=by unfold hvL; rw [if_neg (by omega)]
      have HE0:Hid (hvL L (i + 1) k a i = L i):=e0
      rw [e0] at hw1
      clear e0
      obtain ⟨g0,c0,hv⟩:=hw1.len
      rw [hv] at hr hw1
      have HV:Hid (V i = _):=hv
      have HO:Hid (Own wr _ _):=hw1
      have hm:=HL.out i (by omega)
      clear hP hv hw1 hK
      rw [ints_len] at hr HV HO
      have HLI:Hid (ints (L i) = ints (L i)):=rfl
      obtain ⟨m,hme⟩:∃ m,(L i).length = m:=⟨_,rfl⟩
      have HME:Hid ((L i).length = m):=hme
      rw [hme] at hr HV HO hm
      clear hme
      have hpw:p < wr.heap.size:=HP.out.lt _ HP.out.gp
      have hsh:=shl_wrap i (by omega)
      have hpl:=pow_le i (by omega)
      obtain ⟨S,hS⟩:∃ S,2 ^ i = S:=⟨_,rfl⟩
      have HS:Hid (2 ^ i = S):=hS
      rw [hS] at hsh hpl
      clear hS
      obtain ⟨i0,hi0,hz0,hz1,hz2⟩:=info_parts Tryz.infoI
      have HOW:Hid (∀ W,Below wr.heap.size wr W→W.ownsRow 0 3 1 (.slice g0 m c0) m (tv (ints (L i)))):=fun W hW=>by
        have:=HO.out.of_eq (w':=W) (fun g hg=>hW.block g (HO.out.lt g hg))
        unfold Own at this
        rwa [ints_len,HME.out] at this
      have HB1:Hid (Below wr.heap.size wr (wr.alloc (.cells #[.int .i64 ((a:Int) + S)] 3)).drew):=((Below.refl _ wr).alloc (Nat.le_refl _) _).drew
      have HN1:Hid (∀ k u,[Value.int .i64 ((a:Int) + S)][k]? = some u→(wr.alloc (.cells #[.int .i64 ((a:Int) + S)] 3)).drew.cell? ((⟨wr.heap.size,0,none⟩:Addr).add k) = some u):=fun k u hk=>by
        rw [Go.WideShapes.add_plain,Nat.zero_add]
        exact ((blk_new wr [.int .i64 ((a:Int) + S)] 3).cell k).trans hk
      have HT:Hid (∀ v ∈ [Value.int .i64 ((a:Int) + S)],v.oneCell' = true):=by
        intro v hv
        simp at hv
        subst hv
        rfl
      have HC:Hid (∀ w1,wr.grownBy w1 (Value.slice g0 m c0).ownBlock→w1.cell? ⟨p,i,none⟩ = some (.slice g0 m c0)):=fun w1 G=>by
        have:=HP.out.rws.vg i (by omega)
        rw [HV.out] at this
        exact (G.cell_far ⟨p,i,none⟩ hpw (fun e=>this e.symm)).trans hr
      have HZ:Hid (∀ w1,wr.grownBy w1 (Value.slice g0 m c0).ownBlock→w1.frozen? ⟨p,i,none⟩ = false):=fun w1 G=>by
        have:=HP.out.rws.vg i (by omega)
        rw [HV.out] at this
        exact (G.frozen_far ⟨p,i,none⟩ hpw (fun e=>this e.symm)).trans hf
      have hr2:(wr.alloc (.cells #[.int .i64 ((a:Int) + S)] 3)).cell? ⟨p,i,none⟩ = some (.slice g0 m c0):=(((Below.refl _ wr).alloc (Nat.le_refl _) _).cell (p:=⟨p,i,none⟩) hpw).trans hr
      have hj0:(0:Int) ≤ (i:Int):=by omega
      have hj7:(i:Int) < 7:=by omega
      have hj7n:i < 7:=by omega
      have hij:((i + 1:Nat):Int) - 1 = (i:Int):=by omega
      rw [hij]
      have hoi:(o:Int) ≤ (i:Int):=by omega
      have hwr:IntKind.i64.wrap ((a:Int) + (S:Int)) = (a:Int) + (S:Int):=IntWalk.i64_in _ (by omega)
      go_wp2
      go_region_law (first | (refine step_append_lies _ rfl (.tmp 23) (.tmp 28) 22 rfl 0 3 i0 _ 1 8 Tryz.underlying22 hi0 hz0 hz1 hz2 rfl (by decide) (.slice g0 m c0) m (tv (ints (L i))) rfl (HOW.out _ HB1.out) ⟨wr.heap.size,0,none⟩ 1 1 [.int .i64 ((a:Int) + S)] rfl rfl HN1.out HT.out (by omega) (by unfold maxLen; omega) (by omega) (Nat.zero_le _) (wr.heap.size + 1) (by simp) ?_; intro g1 k1 w1 o1 gr1 at1 lt1; have G1:Hid (wr.grownBy w1 (Value.slice g0 m c0).ownBlock):=((World.grownBy_alloc wr _ _).trans (grown_drew _ _)).trans gr1; have r1:=HC.out w1 G1.out; have r2:=HZ.out w1 G1.out))
      all_goals (
        have HS1:Hid (∃ G',Bu (w1.setCell ⟨p,i,none⟩ (.slice (some ⟨g1,0,none⟩) (m + 1) k1)) G' p (hvL L i k a) tk∧Kp G G' w (w1.setCell ⟨p,i,none⟩ (.slice (some ⟨g1,0,none⟩) (m + 1) k1))):=by
          obtain ⟨G',hB',hK'⟩:=HP.out.grow i (by omega) (a + S) g1 k1 (w1:=w1) (by rw [HV.out]; exact G1.out) (by
            rw [HE0.out,HME.out,show ((a + S:Nat):Int) = (a:Int) + (S:Int) by omega]
            exact o1) (by
            rw [HV.out]
            rcases at1 with q | q
            · exact Or.inl q
            · exact Or.inr (by omega))
          rw [HE0.out,HME.out] at hB' hK'
          refine ⟨G',hB'.congr (fun c hc => ?_),HK.out.trans hK'⟩
          unfold put
          by_cases e:c = i
          · subst e
            rw [if_pos rfl]
            unfold hvL
            rw [if_pos (by omega),HS.out]
          · rw [if_neg e]
            unfold hvL
            by_cases e2:i + 1 ≤ c∧c < k
            · rw [if_pos e2,if_pos (by omega)]
            · rw [if_neg e2,if_neg (by omega)]
        clear o1 gr1 at1 lt1 G1 r1 r2 hr hr2 hf HOW HB1 HN1 HT HC HZ HP HV HO HK HE0
        generalize w1.setCell ⟨p,i,none⟩ (.slice (some ⟨g1,0,none⟩) (m + 1) k1) = w2 at *
        go_wp2
        go_roundw
        case rel=>exact ⟨i,by omega,by omega,by go_num,HS1.out⟩
        case measure=>simp [iv])
    · obtain rfl:j = o:=by omega
      have HN:Hid (∃ G',Bu wr G' p (hvL L j k a) tk∧Kp G G' w wr):=hN
      clear hN
      go_wp2
      go_end0
      exact ⟨rfl,HN.out⟩
theorem Own.empty {w:World} {v:Value} (h:Own w v (ints [])):∃ a c,v = .slice a 0 c:=by
  obtain ⟨a,c,e⟩:=h.len
  exact ⟨a,c,e⟩
theorem Take_none {w : World} {G : Nat → Prop} {p : Nat} {L : Nat → List Nat} {tk : Nat → Option Nat} (h : Bu w G p L tk) (o : Nat) (ho : o ≤ 6) (he : ∀ i, o ≤ i → i ≤ 6 → L i = []) :
    Calls Tryz.prog 127 #[.pointer (some ⟨p,0,none⟩),.int .i64 o] w fun e w'=>e = .returned (.tuple #[.int .i64 0,.int .i64 90])∧w' = w:=by
  have C1:Hid (Calls _ _ _ _ _):=made_any h
  have C2:Hid (Calls _ _ _ _ _):=order_any o w
  have hb:(decide ((0:Int) ≤ (o:Int)) && decide ((o:Int) ≤ 6)) = true:=by simp; omega
  rw [hb] at C2
  obtain ⟨b,V,hP⟩:=h
  have HR:Hid (∀ i,o ≤ i→i ≤ 6→∃ a c,w.cell? ⟨p,i,none⟩ = some (.slice a 0 c)):=fun i h1 h2=>by
    have h3:=hP.rws.own i (by omega)
    rw [he i h1 h2] at h3
    obtain ⟨a,c,e⟩:=h3.empty
    exact ⟨a,c,by rw [← e]; exact hP.rws.row i (by omega)⟩
  clear hP hb he
  go_enter Tryz.func127,Tryz.ntmps127
  go_wp2_with (first | (go_at_call 153; refine C1.out.mono ?_; rintro e w' ⟨rfl,h⟩; obtain rfl:=h.symm) | (go_at_call 154; refine C2.out.mono ?_; rintro e w' ⟨rfl,h⟩; obtain rfl:=h.symm))
  go_loopw [6] (fun z wr=>∃ j:Nat,o ≤ j∧j ≤ 7∧z = .int .i64 j∧wr = w) (fun z _=>(7 - iv z).toNat)
  case atStart=>exact ⟨o,Nat.le_refl _,by omega,rfl,rfl⟩
  case round=>
    obtain ⟨j,h1,h2,rfl,hw⟩:=hrel
    obtain rfl:=hw
    by_cases hj:j ≤ 6
    · obtain ⟨a,c,hc⟩:=HR.out j h1 hj
      have hj0:(0:Int) ≤ (j:Int):=by omega
      have hj7:(j:Int) < 7:=by omega
      go_wp2
      go_roundw
      case rel=>exact ⟨j + 1,by omega,by omega,by go_num,by simp⟩
      case measure=>simp [iv]; omega
    · obtain rfl:j = 7:=by omega
      go_wp2
      go_ret2
      exact ⟨rfl,rfl⟩
theorem ints_drop_one (a:Nat) (r:List Nat):(ints (a :: r)).take 0 ++ (ints (a :: r)).drop (0 + 1) = ints r:=by simp [ints]
set_option maxHeartbeats 2000000 in
theorem Take_ok {w : World} {G : Nat → Prop} {p : Nat} {L : Nat → List Nat} {tk : Nat → Option Nat} (h : Bu w G p L tk) (hl : ∀ i, i < 7 → (L i).length ≤ 4096) (o k a : Nat) (r : List Nat) (ho : o ≤ k) (hk : k ≤ 6) (he : ∀ i, o ≤ i → i < k → L i = []) (hL : L k = a :: r) (ha : a < 4096) :
    Calls Tryz.prog 127 #[.pointer (some ⟨p,0,none⟩),.int .i64 o] w fun e w'=>e = .returned (.tuple #[.int .i64 a,.int .i64 0])∧∃ G',Bu w' G' p (tkL L o k a) (pt tk a (some o))∧Kp G G' w w':=by
  have C1:Hid (Calls _ _ _ _ _):=made_any h
  have C2:Hid (Calls _ _ _ _ _):=order_any o w
  have hb:(decide ((0:Int) ≤ (o:Int)) && decide ((o:Int) ≤ 6)) = true:=by simp; omega
  rw [hb] at C2
  obtain ⟨b,V,hP⟩:=h
  have HR:Hid (∀ i,o ≤ i→i < k→∃ a c,w.cell? ⟨p,i,none⟩ = some (.slice a 0 c)):=fun i h1 h2=>by
    have h3:=hP.rws.own i (by omega)
    rw [he i h1 h2] at h3
    obtain ⟨a,c,e⟩:=h3.empty
    exact ⟨a,c,by rw [← e]; exact hP.rws.row i (by omega)⟩
  have HP:Hid (Bp w G p b V L tk):=hP
  have hr:=hP.rws.row k (by omega)
  have hf:=hP.rws.fz k (by omega)
  have hw1:=hP.rws.own k (by omega)
  rw [hL] at hw1
  obtain ⟨g,cap,Lv,hv,hB,c1,c2,c3,c4⟩:=hw1.shape.resolve_left (by rintro ⟨_,e⟩; simp [ints] at e)
  have hc:=hw1.cell (k:=0) (t:=a) (by simp [ints])
  obtain ⟨g',cap',e',hc0⟩:=hc
  rw [hv] at e'
  cases e'
  rw [hv] at hr hw1
  have HV:Hid (V k = _):=hv
  have hpw:p < w.heap.size:=hP.lt _ hP.gp
  have hvg:=hP.rws.vg k (by omega)
  rw [hv] at hvg
  have hml:(ints (a :: r)).length = r.length + 1:=by simp [ints]
  have hlr:r.length + 1 ≤ 4096:=by have:=hl k (by omega); rw [hL] at this; simpa using this
  have CD:Hid (∀ W,Below w.heap.size w W→Calls Tryz.prog 157 #[.slice (some ⟨g,0,none⟩) (r.length + 1) cap,.int .i64 0,.int .i64 1] W fun e w'=>e = .returned (.slice (some ⟨g,0,none⟩) r.length cap)∧W.grownBy w' (some g)∧Own w' (.slice (some ⟨g,0,none⟩) r.length cap) (ints r)):=fun W hW=>by
    have hoW:=hw1.of_eq (w':=W) (fun c hc=>hW.block c (hw1.lt c hc))
    have:=Delete_ok hoW c1 c2 0 (by rw [hml]; omega)
    rw [ints_drop_one,hml] at this
    exact this
  rw [hml] at hr HV
  have HL:Hid (∀ i,i < 7→(L i).length ≤ 4096):=hl
  have HE:Hid (∀ i,o ≤ i→i < k→L i = []):=he
  have HLk:Hid (L k = a :: r):=hL
  have hgl:g < w.heap.size:=hB.lt
  have hpg:p ≠ g:=fun e=>hvg (by rw [e]; rfl)
  clear hP hb he hl hL hv hvg hw1 hB c1 c2 c3 c4 hml
  go_enter Tryz.func127,Tryz.ntmps127
  go_wp2_with (first | (go_at_call 153; refine C1.out.mono ?_; rintro e w' ⟨rfl,h⟩; obtain rfl:=h.symm) | (go_at_call 154; refine C2.out.mono ?_; rintro e w' ⟨rfl,h⟩; obtain rfl:=h.symm))
  clear C1 C2
  go_loopw [6] (fun z wr=>∃ j:Nat,o ≤ j∧j ≤ k∧z = .int .i64 j∧wr = w) (fun z _=>(7 - iv z).toNat)
  case atStart=>exact ⟨o,Nat.le_refl _,by omega,rfl,rfl⟩
  case round=>
    obtain ⟨j,h1,h2,rfl,hw⟩:=hrel
    obtain rfl:=hw
    by_cases hj:j < k
    · obtain ⟨a,c,hc⟩:=HR.out j h1 hj
      have hj0:(0:Int) ≤ (j:Int):=by omega
      have hj7:(j:Int) < 7:=by omega
      clear hr hf hc0
      go_wp2
      go_roundw
      case rel=>exact ⟨j + 1,by omega,by omega,by go_num,by simp⟩
      case measure=>simp [iv]; omega
    · obtain rfl:j = k:=by omega
      have hj0:(0:Int) ≤ (j:Int):=by omega
      have hj7:(j:Int) < 7:=by omega
      have hj7n:j < 7:=by omega
      have hrl:(0:Int) < (r.length:Int) + 1:=by omega
      obtain ⟨m,hm⟩:∃ m,r.length = m:=⟨_,rfl⟩
      rw [hm] at hr HV CD hlr hrl
      have HM:Hid (r.length = m):=hm
      clear hm HR
      go_wp2
      go_region_with (first | (go_at_call 157; refine (CD.out _ (by first | exact (Below.refl _ _).drew | exact Below.refl _ _)).mono ?_; rintro e w1 ⟨rfl,g1,o1⟩; have r1:w1.cell? ⟨p,j,none⟩ = some (.slice (some ⟨g,0,none⟩) (m + 1) cap):=(g1.cell_far ⟨p,j,none⟩ hpw (some_ne hpg)).trans hr; have r2:w1.frozen? ⟨p,j,none⟩ = false:=(g1.frozen_far ⟨p,j,none⟩ hpw (some_ne hpg)).trans hf))
      have HS1:Hid (∃ G',Bu (w1.setCell ⟨p,j,none⟩ (.slice (some ⟨g,0,none⟩) m cap)) G' p (put L j r) tk∧Kp G G' wr (w1.setCell ⟨p,j,none⟩ (.slice (some ⟨g,0,none⟩) m cap))):=
        HP.out.turn j hj7n _ _ (by rw [HV.out]; exact (grown_drew _ _).trans g1) o1 (fun c hc=>by rw [HV.out]; exact Or.inl hc)
      clear r1 r2 g1 o1 hr hf CD hc0 HV HP
      generalize w1.setCell ⟨p,j,none⟩ (.slice (some ⟨g,0,none⟩) m cap) = w2 at *
      obtain ⟨G2,B2,K2⟩:=HS1.out
      have HK2:Hid (Kp G G2 wr w2):=K2
      have CH:Hid (Calls _ _ _ _ _):=halve_ok B2 (fun i hi=>by
        unfold put
        split
        · rw [HM.out]; omega
        · exact HL.out i hi) a o j (by omega) h1 hk
      clear HS1 B2 K2
      go_wp2_with fail
      refine CH.out.mono ?_
      rintro e w3 ⟨rfl,G3,⟨b3,V3,P3⟩,K3⟩
      have HK3:Hid (Kp G G3 wr w3):=HK2.out.trans K3
      have HP3:Hid (Bp w3 G3 p b3 V3 (hvL (put L j r) o j a) tk):=P3
      have hcm:=P3.cm
      obtain ⟨w4,hst,M4,g4⟩:=P3.mp.store (Nat.le_refl _) a ha o (by omega)
      have HF:Hid (∃ G',Bu w4 G' p (tkL L o j a) (pt tk a (some o))∧Kp G G' wr w4):=by
        obtain ⟨B4,K4⟩:=HP3.out.mapped g4 M4
        have hB:Bu w4 G3 p (hvL (put L j r) o j a) (pt tk a (some o)):=⟨b3,V3,B4⟩
        refine ⟨G3,hB.congr (fun i hi => ?_),HK3.out.trans K4⟩
        unfold hvL tkL put
        by_cases e:i = j
        · subst e
          rw [if_neg (by omega),if_pos rfl,if_pos rfl,HLk.out]
          rfl
        · rw [if_neg e,if_neg e]
      clear P3 M4 g4 K3 HK2 CH HP3 HK3
      go_wp2
      go_ret2
      exact ⟨rfl,HF.out⟩
end Go.Proofs.YtgljdbabagdhlaaGreat.B
