/- What Give, Free, Lists and Whole of package buddy give back and write; no condition but the ranges that each theorem names. -/
import Derived.Test.YtgljdbabagdhlaaGreatVBJn
namespace Go.Proofs.YtgljdbabagdhlaaGreat.B
open Go.ChangeShapes Go.WideShapes Go.ChangeAt Go.RowKit
set_option linter.unusedVariables false
set_option maxRecDepth 8192
theorem wpList_delete_at {w : World} {ops : Array Oper} {rest : List Oper} {o : Oper} {a : Act} {Q : Exit → Act → World → Prop} {R : World → Prop} (hgd : o.guard = none) (s x : Operand)
    (ho:o.op = .call { callee:=.builtin .delete,args:=#[s,x],argTypes:=#[180,3] }) (vs vx:Value) (hs:a.eval s = vs) (hx:a.eval x = vx)
    (hr:∃ w',(Builtin.delete_ #[180,3] o.type #[vs,vx]).run Tryz.prog w = .ok (.tuple #[]) w'∧R w') (h:∀ w',R w'→wpList Tryz.prog ops Q rest (a.put o.dst (.tuple #[])) w'):wpList Tryz.prog ops Q (o :: rest) a w:=by
  refine wpList_plain hgd fun K hK => ?_
  obtain ⟨w',hr,hR⟩:=hr
  unfold Oper.wp
  simp [execOp,ho,resolve,invoke,builtin,hs,hx,hr,Result.andThen]
  exact hK _ _ (h w' hR)
set_option maxHeartbeats 1000000 in
theorem Give_ok {w : World} {G : Nat → Prop} {p : Nat} {L : Nat → List Nat} {tk : Nat → Option Nat} (h : Bu w G p L tk) (hl : ∀ i, i < 7 → (L i).length ≤ 4096) (hs : ∀ i, i < 7 → (L i).Pairwise (· < ·)) (a o : Nat) (ha : a < 4096) (ho : o ≤ 6) (hao : a % 2 ^ o = 0) (ht : tk a = some o) :
    Calls Tryz.prog 125 #[.pointer (some ⟨p,0,none⟩),.int .i64 a,.int .i64 o] w fun e w'=>e = .returned (.int .i64 0)∧Jnd w G p L (pt tk a none) o a w':=by
  have C1:Hid (Calls _ _ _ _ _):=made_any h
  have C2:Hid (Calls _ _ _ _ _):=order_any o w
  have hb' : (decide ((0:Int) ≤ (o:Int)) && decide ((o:Int) ≤ 6)) = true:=by simp; omega
  rw [hb'] at C2
  obtain ⟨b,V,hP⟩:=h
  have HP:Hid (Bp w G p b V L tk):=hP
  have hcm:=hP.cm
  have hlk:=hP.mp.look_some (Nat.le_refl _) ht
  have HDE:Hid (∀ ty,∃ w',(Builtin.delete_ #[180,3] ty #[.map (some b),.int .i64 a]).run Tryz.prog w = .ok (.tuple #[]) w'∧(Mp w' b 4096 (pt tk a none)∧w.grownBy w' (some b))):=fun ty=>hP.mp.drop a (by omega) ty
  have HL:Hid (∀ i,i < 7→(L i).length ≤ 4096):=hl
  have HSO:Hid (∀ i,i < 7→(L i).Pairwise (· < ·)):=hs
  have HAO:Hid (a % 2 ^ o = 0):=hao
  clear hP hb' ht hl hs hao
  go_enter Tryz.func125,Tryz.ntmps125
  go_wp2_with (first | (go_at_call 153; refine C1.out.mono ?_; rintro e w' ⟨rfl,h⟩; obtain rfl:=h.symm) | (go_at_call 154; refine C2.out.mono ?_; rintro e w' ⟨rfl,h⟩; obtain rfl:=h.symm) | (at_delete; refine wpList_delete_at rfl (.tmp 38) (.tmp 39) rfl _ _ rfl rfl (HDE.out _) ?_; rintro w3 ⟨hM3,hG3⟩))
  obtain ⟨B3,K3⟩:=HP.out.mapped hG3 hM3
  have HK3:Hid (Kp G G w w3):=K3
  have CJ:Hid (Calls _ _ _ _ _):=join_ok ⟨b,V,B3⟩ HL.out HSO.out a o ha ho HAO.out
  clear B3 K3 hM3 hG3 HDE hlk hcm HP
  refine CJ.out.mono ?_
  rintro e w4 ⟨rfl,hJ⟩
  have HJ:Hid (Jnd w G p L (pt tk a none) o a w4):=by
    obtain ⟨J,h1,G',h2,h3⟩:=hJ
    exact ⟨J,h1,G',h2,HK3.out.trans h3⟩
  clear hJ CJ
  go_wp2
  go_ret
  exact ⟨rfl,HJ.out⟩
def pre (f:Nat→Nat):Nat→Nat
  | 0=>0
  | k + 1=>pre f k + f k * 2 ^ k
theorem pre_fr (L:Nat→List Nat):pre (fun i=>(L i).length) 7 = fr L:=by
  simp [pre,fr]
theorem wpList_index_at {P : Program} {w : World} {ops : Array Oper} {rest : List Oper} {o : Oper} {a : Act} {Q : Exit → Act → World → Prop} (hgd : o.guard = none) (t : TypeId) (x y : Operand)
    (ho:o.op = .index t x y) (u v r:Value) (hx:a.eval x = u) (hy:a.eval y = v) (hrun:(Instr.index t u v).run P w = .ok r w) (h:wpList P ops Q rest (a.put o.dst r) w):wpList P ops Q (o :: rest) a w:=by
  refine wpList_plain hgd fun K hK => ?_
  unfold Oper.wp
  simp [execOp,ho,hx,hy,hrun,Result.andThen]
  exact hK _ _ h
theorem run_idx (w:World) (cs:Array Value) (j:Nat) (hj:j < 7) (v:Value) (hv:cs[j]? = some v):(Instr.index 181 (.agg cs) (.int .i64 j)).run Tryz.prog w = .ok v w:=by
  have h1:(0:Int) ≤ (j:Int)∧(j:Int) < 7:=by omega
  simp [Instr.index,run_underlying Tryz.underlying181,asIntOf,h1,Tryz.sizeOf22]
  rw [if_pos hj]
  simp [part,Tryz.isAgg22,Tryz.sizeOf22,hv]
theorem Bu.cells {w:World} {G:Nat→Prop} {p:Nat} {L:Nat→List Nat} {tk:Nat→Option Nat} (h:Bu w G p L tk):∃ (a:Nat→Option Addr) (c:Nat→Nat),(∀ i,i < 7→w.cell? ⟨p,i,none⟩ = some (.slice (a i) (L i).length (c i)))∧∀ i,i < 7→Own w (.slice (a i) (L i).length (c i)) (ints (L i)):=by
  obtain ⟨b,V,hP⟩:=h
  have h1:∀ i,∃ x:Option Addr × Nat,i < 7→V i = .slice x.1 (L i).length x.2:=fun i=>by
    by_cases hi:i < 7
    · obtain ⟨a,c,e⟩:=(hP.rws.own i hi).len
      rw [ints_len] at e
      exact ⟨(a,c),fun _=>e⟩
    · exact ⟨(none,0),fun q=>absurd q hi⟩
  have h2:=fun i=>Classical.choose_spec (h1 i)
  refine ⟨fun i=>(Classical.choose (h1 i)).1,fun i=>(Classical.choose (h1 i)).2,fun i hi => ?_,fun i hi => ?_⟩
  · rw [hP.rws.row i hi,h2 i hi]
  · have:=hP.rws.own i hi
    rw [h2 i hi] at this
    exact this
set_option maxHeartbeats 1000000 in
theorem Free_any {w:World} {G:Nat→Prop} {p:Nat} {L:Nat→List Nat} {tk:Nat→Option Nat} (h:Bu w G p L tk) (hl:∀ i,i < 7→(L i).length ≤ 4096):Calls Tryz.prog 156 #[.pointer (some ⟨p,0,none⟩)] w fun e w'=>e = .returned (.int .i64 (fr L:Nat))∧w' = w:=by
  have C1:Hid (Calls _ _ _ _ _):=made_any h
  obtain ⟨a,c,hc,_⟩:=h.cells
  have d0:=hc 0 (by omega)
  have d1:=hc 1 (by omega)
  have d2:=hc 2 (by omega)
  have d3:=hc 3 (by omega)
  have d4:=hc 4 (by omega)
  have d5:=hc 5 (by omega)
  have d6:=hc 6 (by omega)
  have l0:=hl 0 (by omega)
  have l1:=hl 1 (by omega)
  have l2:=hl 2 (by omega)
  have l3:=hl 3 (by omega)
  have l4:=hl 4 (by omega)
  have l5:=hl 5 (by omega)
  have l6:=hl 6 (by omega)
  have HF:Hid (pre (fun i=>(L i).length) 7 = fr L):=pre_fr L
  clear hc hl h
  generalize fr L = R at *
  obtain ⟨n,hn⟩:∃ n:Nat→Nat,n = fun i=>(L i).length:=⟨_,rfl⟩
  have e:∀ i,(L i).length = n i:=fun i=>by rw [hn]
  rw [← hn] at HF
  rw [e] at d0 d1 d2 d3 d4 d5 d6 l0 l1 l2 l3 l4 l5 l6
  clear e hn
  go_enter Tryz.func156,Tryz.ntmps156
  go_wp2_with (go_at_call 153; refine C1.out.mono ?_; rintro e w' ⟨rfl,h⟩; obtain rfl:=h.symm)
  go_loopw [3,13] (fun y z wr=>∃ j:Nat,j ≤ 7∧y = .int .i64 (pre n j:Nat)∧z = .int .i64 j∧wr = w) (fun _ z _=>(7 - iv z).toNat)
  case atStart=>exact ⟨0,by omega,rfl,rfl,rfl⟩
  case round=>
    obtain ⟨j,hj,rfl,rfl,hw⟩:=hrel
    obtain rfl:=hw
    by_cases hj7:j < 7
    · have hix:(Instr.index 181 (.agg #[.slice (a 0) (n 0) (c 0),.slice (a 1) (n 1) (c 1),.slice (a 2) (n 2) (c 2),.slice (a 3) (n 3) (c 3),.slice (a 4) (n 4) (c 4),.slice (a 5) (n 5) (c 5),.slice (a 6) (n 6) (c 6)]) (.int .i64 j)).run Tryz.prog wr = .ok (.slice (a j) (n j) (c j)) wr:=
        run_idx wr _ j hj7 _ (by rcases six (show j ≤ 6 by omega) with rfl | rfl | rfl | rfl | rfl | rfl | rfl <;> rfl)
      have HIX:Hid (_ = _):=hix
      have hnj:n j ≤ 4096:=by rcases six (show j ≤ 6 by omega) with rfl | rfl | rfl | rfl | rfl | rfl | rfl <;> assumption
      have hpb:pre n j ≤ 600000:=by rcases six (show j ≤ 6 by omega) with rfl | rfl | rfl | rfl | rfl | rfl | rfl <;> simp only [pre] <;> omega
      have hpl:=pow_le j (by omega)
      have hT:n j * 2 ^ j ≤ 4096 * 64:=Nat.mul_le_mul hnj hpl.2
      have HP:Hid (pre n (j + 1) = pre n j + n j * 2 ^ j):=rfl
      obtain ⟨T,hTe⟩:∃ T,n j * 2 ^ j = T:=⟨_,rfl⟩
      rw [hTe] at hT HP
      have hw:IntKind.i64.wrap ((n j:Int) * 2 ^ j) = (T:Int):=by
        rw [show ((n j:Int) * 2 ^ j) = ((n j * 2 ^ j:Nat):Int) by simp,hTe]
        exact IntWalk.i64_in _ (by omega)
      clear hix hTe d0 d1 d2 d3 d4 d5 d6 l0 l1 l2 l3 l4 l5 l6
      generalize pre n j = P at *
      have hj7I:(j:Int) < 7:=by omega
      go_wp2_with (refine wpList_index_at rfl 181 (.tmp 12) (.tmp 13) rfl _ _ _ rfl rfl HIX.out ?_)
      go_roundw
      case rel=>exact ⟨j + 1,by omega,by rw [HP.out]; go_num,by go_num,by simp⟩
      case measure=>simp [iv]; omega
    · obtain rfl:j = 7:=by omega
      rw [HF.out]
      go_wp2
      go_ret
      exact ⟨rfl,rfl⟩
end Go.Proofs.YtgljdbabagdhlaaGreat.B
